import Derived.Test.YtpdcgjkfilohcaaSmallC
import Derived.Test.YtpdcgjkfilohcaaLawTubeOk
namespace Go.Proofs.Ytpdcgjkfilohcaa
open Go.RowKit
attribute [local go_sem ↓] Go.wp_at_zero Go.wp_at_succ

theorem field71 (W : World) (s : ByteArray) (v : Value) (hv : ∃ a n c, v = .slice a n c) : (Instr.field 71 (.agg #[.string s, v]) 1).run Try.prog W = .ok v W := by
  obtain ⟨a, n, c, rfl⟩ := hv
  kernel_rfl

set_option maxRecDepth 100000 in
set_option maxHeartbeats 4000000 in
theorem implSmaller_any (s t : ByteArray) (a a' : Option Addr) (cap cap' : Nat) (cs bs : List Bx) (w : World) (hs : s.size ≤ maxLen) (ht : t.size ≤ maxLen) (ha : Boxes w a cs) (hb : Boxes w a' bs) (hn : cs.length ≤ 1048576) (hm : bs.length ≤ 1048576) :
    Calls Try.prog 22 #[.agg #[.string s, .slice a cs.length cap], .agg #[.string t, .slice a' bs.length cap']] w fun e w' => e = .returned (.bool (smallB s cs t bs)) ∧ Gr w w' := by
  have G := Gr.refl ((w.alloc (.cells #[.string s, .slice a cs.length cap] 25)).alloc (.cells #[.string t, .slice a' bs.length cap'] 25))
  have GB : Gr w ((w.alloc (.cells #[.string s, .slice a cs.length cap] 25)).alloc (.cells #[.string t, .slice a' bs.length cap'] 25)) := ((Gr.refl _).alloc _).alloc _
  cases hA : tubeB s cs
  · have HV : Hid (smallB s cs t bs = false) := by show smallB s cs t bs = false; simp [smallB, hA]
    go_enter Try.func22, Try.ntmps22
    go_wp2_with fail
    go_region_with (first
      | (go_at_call 30; refine (implTubeOk_any _ _ _ cs _ hs (boxes_gr ha (GB.trans G.drew)) hn).mono ?_; rintro e w1 ⟨rfl, g1⟩; replace G := Gr.trans (by first | exact G | exact G.drew) g1; clear g1; (try clear hc hf); obtain ⟨hc, hf⟩ := G.cells))
    all_goals
      go_wp2
      go_ret
      exact ⟨by rw [HV.out]; rfl, GB.trans G⟩
  cases hB : tubeB t bs
  · have HV : Hid (smallB s cs t bs = false) := by show smallB s cs t bs = false; simp [smallB, hB]
    go_enter Try.func22, Try.ntmps22
    go_wp2_with fail
    go_region_with (first
      | (go_at_call_of 30 (Value.string s); refine (implTubeOk_any _ _ _ cs _ hs (boxes_gr ha (GB.trans G.drew)) hn).mono ?_; rintro e w1 ⟨rfl, g1⟩; replace G := Gr.trans (by first | exact G | exact G.drew) g1; clear g1; (try clear hc hf); obtain ⟨hc, hf⟩ := G.cells)
      | (go_at_call_of 30 (Value.string t); refine (implTubeOk_any _ _ _ bs _ ht (boxes_gr hb (GB.trans G)) hm).mono ?_; rintro e w1 ⟨rfl, g1⟩; replace G := Gr.trans (by first | exact G | exact G.drew) g1; clear g1; (try clear hc hf); obtain ⟨hc, hf⟩ := G.cells))
    all_goals
      go_wp2
      go_ret
      exact ⟨by rw [HV.out]; rfl, GB.trans G⟩
  have HV : Hid (smallB s cs t bs = cs.all (holdB bs)) := by
    show smallB s cs t bs = _
    have hbx : boxesB cs = true := by rw [tubeB_eq] at hA; simp at hA; exact hA.2
    rw [smallB, hA, hB, within_eq bs hbx]
    rfl
  have hfa := fun W : World => field71 W s (.slice a cs.length cap) ⟨_, _, _, rfl⟩
  have hfb := fun W : World => field71 W t (.slice a' bs.length cap') ⟨_, _, _, rfl⟩
  go_enter Try.func22, Try.ntmps22
  go_wp2_with fail
  go_region_held3 (fun w' => Gr ((w.alloc (.cells #[.string s, .slice a cs.length cap] 25)).alloc (.cells #[.string t, .slice a' bs.length cap'] 25)) w' ∧ ∀ q r, q < ((w.alloc (.cells #[.string s, .slice a cs.length cap] 25)).alloc (.cells #[.string t, .slice a' bs.length cap'] 25)).heap.size → w'.cell? ⟨q, r, none⟩ = ((w.alloc (.cells #[.string s, .slice a cs.length cap] 25)).alloc (.cells #[.string t, .slice a' bs.length cap'] 25)).cell? ⟨q, r, none⟩)
    ((refine sees_of ?_; repeat (first | exact G | assumption | exact And.left (by assumption) | refine Gr.drew ?_)))
    (first
      | (go_at_call_of 30 (Value.string s); refine (implTubeOk_any _ _ _ cs _ hs (boxes_gr ha (GB.trans (And.left (by assumption)))) hn).mono ?_; rintro e w1 ⟨rfl, g1⟩; have g2 := Gr.trans (And.left (by assumption)) g1)
      | (go_at_call_of 30 (Value.string t); refine (implTubeOk_any _ _ _ bs _ ht (boxes_gr hb (GB.trans (And.left (by assumption)))) hm).mono ?_; rintro e w1 ⟨rfl, g1⟩; have g2 := Gr.trans (And.left (by assumption)) g1)
      | (go_at_call 42; refine (tubeOf_any _ _ _ ⟨_, _, _, rfl⟩).mono ?_; rintro e w1 ⟨rfl, g1⟩; have g2 := Gr.trans (And.left (by assumption)) g1)
      | (go_at_call 50; refine (within_any _ _ _ _ cs bs _ (boxes_gr ha (GB.trans (And.left (by assumption)))) (boxes_gr hb (GB.trans (And.left (by assumption)))) hn hm).mono ?_; rintro e w1 ⟨rfl, g1⟩; have g2 := Gr.trans (And.left (by assumption)) g1))
  all_goals
    go_wp2
    go_ret
    exact ⟨by rw [HV.out]; rfl, GB.trans (And.left (by assumption))⟩

end Go.Proofs.Ytpdcgjkfilohcaa
