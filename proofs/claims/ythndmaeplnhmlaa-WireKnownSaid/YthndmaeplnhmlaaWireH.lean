/- Plain words: the bytes of a number; a row of bytes made a string. -/
import Derived.Test.YthndmaeplnhmlaaWireB
import Derived.Laws.CopyOwn
import Derived.Handy
namespace Go.Proofs.Ythndmaeplnhmlaa
open Go.RowKit
set_option linter.unusedVariables false

/-- The s lowest bytes of n, the highest first. -/
def beL : Nat → Nat → List UInt8
  | 0, _ => []
  | s + 1, n => UInt8.ofNat (n / 256 ^ s % 256) :: beL s n
/-- A number's bytes. -/
def numL (n : Nat) : List UInt8 := UInt8.ofNat (256 - 2 ^ (8 - sortN n) + n / 256 ^ sortN n) :: beL (sortN n) n
def numS (n : Nat) : ByteArray := ⟨(numL n).toArray⟩

theorem or_join (x y i : Nat) (hx : x < 256) (hx' : x % 2 ^ i = 0) (hy : y < 2 ^ i) (hi : i ≤ 8) : bits .or .u8 (x : Int) (y : Int) = ((x + y : Nat) : Int) := by
  have h : 2 ^ i ≤ 2 ^ 8 := Nat.pow_le_pow_right (by omega) hi
  rw [u8_or_nat x y hx (by omega), nat_join i x y hx' hy]

theorem foldl_push (ns : List Int) : ∀ s : ByteArray, ns.foldl (fun r n => r.push (UInt8.ofNat n.toNat)) s = ⟨s.data ++ (ns.map fun n => UInt8.ofNat n.toNat).toArray⟩ := by
  induction ns with
  | nil => intro s; simp
  | cons n ns ih =>
    intro s
    rw [List.foldl_cons, ih]
    have h : (s.push (UInt8.ofNat n.toNat)).data = s.data.push (UInt8.ofNat n.toNat) := rfl
    rw [h]
    congr 1
    apply Array.ext'
    simp
theorem conv_bytes {P : Program} (w : World) (src dst e : TypeId) (a : Addr) (l c : Nat) (ns : List Int) (bs : ByteArray)
    (hs : P.underlying src = some (.slice e)) (he : P.underlying e = some (.int .u8)) (hd : P.underlying dst = some .string) (hl : ns.length = l)
    (hc : ∀ j v, (ns.map (Value.int .u8))[j]? = some v → w.cell? (a.add j) = some v) (hb : (ns.map fun n => UInt8.ofNat n.toNat) = bs.data.toList) :
    (convert src dst (.slice (some a) l c)).run P w = .ok (.string bs) w := by
  rw [run_convert_bytes_string w src dst e (some a) l c hs he hd]
  have h := run_loadCells_list (P := P) w a (ns.map (Value.int .u8)) hc
  rw [List.length_map, hl] at h
  rw [run_bytesToString w a l c ns h, foldl_push, hb]
  cases bs
  simp
end Go.Proofs.Ythndmaeplnhmlaa
