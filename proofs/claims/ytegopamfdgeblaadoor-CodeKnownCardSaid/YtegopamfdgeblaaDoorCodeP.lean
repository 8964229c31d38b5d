/- works. -/
import Derived.Test.YtegopamfdgeblaaDoorCodeO
namespace Go.Proofs.YtegopamfdgeblaaDoor
open Go.RowKit
set_option linter.unusedVariables false
set_option linter.unusedSimpArgs false

def cHurt : List Ins := [⟨1, 3, 0⟩, ⟨10, 0, 0⟩]
def cWays : List Ins := [⟨9, 2, 0⟩, ⟨1, 1, 0⟩, ⟨24, 0, 0⟩]
def cText : List Ins := [⟨1, -3, 0⟩, ⟨16, 2, 0⟩, ⟨17, 0, 1⟩, ⟨24, 0, 0⟩]
theorem works_text : bytesS (textL cText) = ⟨#[110, 117, 109, 32, 45, 51, 10, 112, 117, 109, 112, 32, 50, 10, 103, 114, 97, 110, 116, 32, 48, 32, 49, 10, 101, 110, 100, 10]⟩ := by
  simp [textL, cText, lineL, wordL, wordTab, toldL, nums, Lib.itoa, dig_small, bytesS]
theorem cText_in : InR cText := by
  intro x hx
  simp [cText] at hx
  rcases hx with rfl | rfl | rfl | rfl <;> simp [In64]
set_option maxRecDepth 100000 in
set_option maxHeartbeats 4000000 in
theorem works_any (w : World) (hT : Tabs w) :
    Calls Tryd.prog 11 #[] w fun e w' => e = .returned (.bool true) ∧ Below w.heap.size w w' := by
  have HT := Lib.hid hT
  have HK := Lib.hid (Kept.start w)
  clear hT
  go_enter Tryd.func11, Tryd.ntmps11
  go_wp2_with fail
  refine (in_step HK.out _ _ _).mono ?_
  rintro e w1 ⟨rfl, hk⟩
  replace HK := Lib.hid hk; clear hk
  go_wp2_with fail
  refine (in_step HK.out _ _ _).mono ?_
  rintro e w2 ⟨rfl, hk⟩
  replace HK := Lib.hid hk; clear hk
  go_wp2_with fail
  refine (in_step (HK.out.new cHurt _ rfl (by simp [cHurt])) _ _ _).mono ?_
  rintro e w3 ⟨rfl, hk⟩
  replace HK := Lib.hid hk; clear hk
  go_wp2_with fail
  refine (in_step HK.out _ _ _).mono ?_
  rintro e w4 ⟨rfl, hk⟩
  replace HK := Lib.hid hk; clear hk
  go_wp2_with fail
  refine (in_step HK.out _ _ _).mono ?_
  rintro e w5 ⟨rfl, hk⟩
  replace HK := Lib.hid hk; clear hk
  go_wp2_with fail
  refine (check_step (HK.out.new cWays _ rfl (by simp [cWays])) _ _ cHurt (by simp [cHurt, cWays]) 2 rfl 1 0 0 (by decide)).mono ?_
  rintro e w6 ⟨rfl, hk⟩
  replace HK := Lib.hid hk; clear hk
  go_wp2_with fail
  refine (check_step HK.out _ _ cHurt (by simp [cHurt, cWays]) 2 rfl 0 0 9 (by decide)).mono ?_
  rintro e w7 ⟨rfl, hk⟩
  replace HK := Lib.hid hk; clear hk
  go_wp2_with fail
  refine (in_step HK.out _ _ _).mono ?_
  rintro e w8 ⟨rfl, hk⟩
  replace HK := Lib.hid hk; clear hk
  go_wp2_with fail
  refine (check_new HK.out [⟨8, 1, 0⟩] _ rfl 1 rfl (by omega) 0 0 0 (by decide)).mono ?_
  rintro e w9 ⟨rfl, hk⟩
  replace HK := Lib.hid hk; clear hk
  go_wp2_with fail
  refine (in_step HK.out _ _ _).mono ?_
  rintro e w10 ⟨rfl, hk⟩
  replace HK := Lib.hid hk; clear hk
  go_wp2_with fail
  refine (check_new HK.out [⟨8, 2, 0⟩] _ rfl 1 rfl (by omega) 0 0 9 (by decide)).mono ?_
  rintro e w11 ⟨rfl, hk⟩
  replace HK := Lib.hid hk; clear hk
  go_wp2_with fail
  refine (in_step HK.out _ _ _).mono ?_
  rintro e w12 ⟨rfl, hk⟩
  replace HK := Lib.hid hk; clear hk
  go_wp2_with fail
  refine (check_new HK.out [⟨21, 3, 0⟩] _ rfl 1 rfl (by omega) 0 0 9 (by decide)).mono ?_
  rintro e w13 ⟨rfl, hk⟩
  replace HK := Lib.hid hk; clear hk
  go_wp2_with fail
  refine (ways_step HK.out _ _ cWays (by simp [cHurt, cWays]) 3 rfl 0 [1, 2] (by decide) 2 rfl).mono ?_
  rintro e w14 ⟨p, c, rfl, hi, hk⟩
  replace HK := Lib.hid hk; clear hk
  have HI := Lib.hid hi; clear hi
  go_wp2_with fail
  refine (ints_step HK.out HI.out _ rfl 2 rfl (by omega)).mono ?_
  rintro e w15 ⟨rfl, hk⟩
  replace HK := Lib.hid hk; clear hk
  clear HI
  go_wp2_with fail
  refine (ways_step HK.out _ _ cWays (by simp [cHurt, cWays]) 3 rfl 1 [2] (by decide) 1 rfl).mono ?_
  rintro e w16 ⟨p, c, rfl, hi, hk⟩
  replace HK := Lib.hid hk; clear hk
  have HI := Lib.hid hi; clear hi
  go_wp2_with fail
  refine (ints_step HK.out HI.out _ rfl 1 rfl (by omega)).mono ?_
  rintro e w17 ⟨rfl, hk⟩
  replace HK := Lib.hid hk; clear hk
  clear HI
  go_wp2_with fail
  refine (ways_step HK.out _ _ cWays (by simp [cHurt, cWays]) 3 rfl 2 [] (by decide) 0 rfl).mono ?_
  rintro e w18 ⟨p, c, rfl, hi, hk⟩
  replace HK := Lib.hid hk; clear hk
  have HI := Lib.hid hi; clear hi
  go_wp2_with fail
  refine (ints_nil HK.out HI.out).mono ?_
  rintro e w19 ⟨rfl, hk⟩
  replace HK := Lib.hid hk; clear hk
  clear HI
  go_wp2_with fail
  refine (ways_step HK.out _ _ cWays (by simp [cHurt, cWays]) 3 rfl 3 [] (by decide) 0 rfl).mono ?_
  rintro e w20 ⟨p, c, rfl, hi, hk⟩
  replace HK := Lib.hid hk; clear hk
  have HI := Lib.hid hi; clear hi
  go_wp2_with fail
  refine (ints_nil HK.out HI.out).mono ?_
  rintro e w21 ⟨rfl, hk⟩
  replace HK := Lib.hid hk; clear hk
  clear HI
  go_wp2_with fail
  refine (in_step HK.out _ _ _).mono ?_
  rintro e w22 ⟨rfl, hk⟩
  replace HK := Lib.hid hk; clear hk
  go_wp2_with fail
  refine (in_step HK.out _ _ _).mono ?_
  rintro e w23 ⟨rfl, hk⟩
  replace HK := Lib.hid hk; clear hk
  go_wp2_with fail
  refine (in_step HK.out _ _ _).mono ?_
  rintro e w24 ⟨rfl, hk⟩
  replace HK := Lib.hid hk; clear hk
  go_wp2_with fail
  refine (in_step HK.out _ _ _).mono ?_
  rintro e w25 ⟨rfl, hk⟩
  replace HK := Lib.hid hk; clear hk
  go_wp2_with fail
  refine (text_new HK.out HT.out cText _ rfl 4 rfl (by omega) cText_in _ works_text).mono ?_
  rintro e w26 ⟨rfl, hk⟩
  replace HK := Lib.hid hk; clear hk
  go_wp2_with fail
  go_ret
  exact ⟨rfl, HK.out.1⟩
end Go.Proofs.YtegopamfdgeblaaDoor
