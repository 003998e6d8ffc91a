import Derived.Test.YtpdcgjkfilohcabGreatDoorSkyB
namespace Go.Proofs.YtpdcgjkfilohcabGreatDoor
open Go.RowKit
attribute [local go_sem ↓] Go.wp_at_zero Go.wp_at_succ

theorem keep22 {w w' : World} {g o g' o' : Nat} {t u : Tb} (h : Two w g o t ∧ Two w g' o' u) (hg : g < w.heap.size) (hg' : g' < w.heap.size) (gr : Gr w w') : Gr w w' ∧ Two w' g o t ∧ Two w' g' o' u :=
  ⟨gr, two_gr h.1 gr hg, two_gr h.2 gr hg'⟩

set_option maxHeartbeats 2000000 in
theorem eqTubeS_same (a a' : Option Addr) (cap cap' : Nat) (us vs : List Tb) (w : World) (ha : Tubes w a us) (ha' : Tubes w a' vs) (hL : Like us vs) (hS : Small us) :
    Calls Tryz.prog 14 #[.slice a us.length cap, .slice a' vs.length cap'] w fun e w' => e = .returned (.bool true) ∧ Gr w w' := by
  have hn := hS.1
  have hl := hL.1
  rw [← hl]
  have HL : Hid (us.length = vs.length) := hl
  clear hl
  go_enter Tryz.func14, Tryz.ntmps14
  go_wp2
  go_loopw [5] (fun i wr => ∃ k : Nat, k ≤ us.length ∧ i = .int .i64 k ∧ Gr w wr) (fun i _ => us.length - (intOf i).toNat)
  case atStart => exact ⟨0, Nat.zero_le _, rfl, Gr.refl _⟩
  case round =>
    obtain ⟨k, hk, rfl, gr⟩ := hrel
    by_cases hkl : k < us.length
    · obtain ⟨g, o, rfl, hg, hx, hb⟩ := ha k hkl
      obtain ⟨g', o', rfl, hg', hx', hb'⟩ := ha' k (by rw [← HL.out]; exact hkl)
      obtain ⟨hs, hbn⟩ := hS.2 k hkl
      have hlk := hL.2 k (by rw [← HL.out]; exact hkl)
      have e1 : (us.getD k Tb.nil).s = (vs.getD k Tb.nil).s := hlk.1
      have e2 : (us.getD k Tb.nil).bs = (vs.getD k Tb.nil).bs := hlk.2
      generalize us.getD k Tb.nil = t at *
      generalize vs.getD k Tb.nil = u at *
      obtain ⟨us', ua, uc, ub⟩ := u
      obtain ⟨s, ta, tc, tb⟩ := t
      simp only at e1 e2
      subst e1 e2
      have hi0 : (0 : Int) ≤ (k : Int) := by omega
      have hi1 : (k : Int) < (us.length : Int) := by omega
      have hgr := gr.size
      have HG : Hid (Gr w wr) := gr
      have HY : Hid (Two wr g (o + k * 2) ⟨s, ta, tc, tb⟩ ∧ Two wr g' (o' + k * 2) ⟨s, ua, uc, tb⟩) := ⟨two_gr hx gr hg, two_gr hx' gr hg'⟩
      clear gr hx hx' ha ha' hlk
      go_wp2_with fail
      go_region_held3 (fun w' => Gr wr w' ∧ (w'.cell? ⟨g, o + k * 2, none⟩ = some (.string s) ∧ w'.cell? ⟨g, o + k * 2 + 1, none⟩ = some (.slice ta tb.length tc)) ∧ (w'.cell? ⟨g', o' + k * 2, none⟩ = some (.string s) ∧ w'.cell? ⟨g', o' + k * 2 + 1, none⟩ = some (.slice ua tb.length uc)))
        (first
          | exact keep22 HY.out (Nat.lt_of_lt_of_le hg hgr) (Nat.lt_of_lt_of_le hg' hgr) (Gr.refl _).drew
          | exact keep22 HY.out (Nat.lt_of_lt_of_le hg hgr) (Nat.lt_of_lt_of_le hg' hgr) ((Gr.refl _).drew.trans g1))
        (first
          | (go_at_call 31; refine (eqTube_same s ta ua tc uc tb _ (boxes_gr hb (HG.out.trans (Gr.refl _).drew)) (boxes_gr hb' (HG.out.trans (Gr.refl _).drew)) hbn).mono ?_; rintro e w1 ⟨rfl, g1⟩))
      go_wp2
      go_roundw
      case rel => exact ⟨k + 1, by omega, by go_num, HG.out.trans (And.left (by assumption))⟩
      case measure => simp [intOf]; omega
    · go_wp2
      go_ret
      exact ⟨rfl, gr⟩

end Go.Proofs.YtpdcgjkfilohcabGreatDoor
