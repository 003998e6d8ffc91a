import Derived.Test.YtpdcgjkfilohcaaNearAt
namespace Go.Proofs.Ytpdcgjkfilohcaa
open Go.RowKit
attribute [local go_sem ↓] Go.wp_at_zero Go.wp_at_succ

set_option maxRecDepth 100000 in
set_option maxHeartbeats 4000000 in
/-- Two tubes at the ticks at which their boxes begin, where wNearAt answers g1 and g2. -/
theorem wEver_any (s t : ByteArray) (a a' : Option Addr) (cap cap' : Nat) (cs bs : List Bx) (g1 g2 : Nat → Bool) (w : World) (ha : Boxes w a cs) (hb : Boxes w a' bs) (hn : cs.length ≤ 1000) (hm : bs.length ≤ 1000)
    (HC : Hid (∀ i, i < cs.length → ∀ w' : World, Gr w w' → Calls Try.prog 17 #[.agg #[.string s, .slice a cs.length cap], .agg #[.string t, .slice a' bs.length cap'], .int .i64 (cs.getD i Bx.nil).i] w' fun e w'' => e = .returned (.bool (g1 i)) ∧ Gr w' w'')) (HD : Hid (∀ i, i < bs.length → ∀ w' : World, Gr w w' → Calls Try.prog 17 #[.agg #[.string s, .slice a cs.length cap], .agg #[.string t, .slice a' bs.length cap'], .int .i64 (bs.getD i Bx.nil).i] w' fun e w'' => e = .returned (.bool (g2 i)) ∧ Gr w' w'')) :
    Calls Try.prog 15 #[.agg #[.string s, .slice a cs.length cap], .agg #[.string t, .slice a' bs.length cap']] w fun e w' => e = .returned (.bool ((List.range cs.length).any g1 || (List.range bs.length).any g2)) ∧ Gr w w' := by
  have GB : Gr w ((w.alloc (.cells #[.string s, .slice a cs.length cap] 25)).alloc (.cells #[.string t, .slice a' bs.length cap'] 25)) := ((Gr.refl _).alloc _).alloc _
  go_enter Try.func15, Try.ntmps15
  go_wp2
  go_loopw [5] (fun i wr => ∃ k : Nat, k ≤ cs.length ∧ i = .int .i64 k ∧ Hid ((List.range k).any g1 = false) ∧ Gr ((w.alloc (.cells #[.string s, .slice a cs.length cap] 25)).alloc (.cells #[.string t, .slice a' bs.length cap'] 25)) wr) (fun i _ => cs.length - (intOf i).toNat)
  case atStart => exact ⟨0, Nat.zero_le _, rfl, rfl, Gr.refl _⟩
  case round =>
    obtain ⟨k, hk, rfl, HA, gr⟩ := hrel
    obtain ⟨hl, e0, e1, e2, e3⟩ := two_pairs gr
    by_cases hkl : k < cs.length
    · have hx0 := ha k hkl
      obtain ⟨g, o, hav, hg, hx⟩ := hx0
      have hi0 : (0 : Int) ≤ (k : Int) := by omega
      have hi1 : (k : Int) < (cs.length : Int) := by omega
      have HK : Hid _ := HC.out k hkl
      have HT : Hid (g1 k = true → ((List.range cs.length).any g1 || (List.range bs.length).any g2) = true) := fun h => by
        show (_ || _) = true
        rw [any_at hkl h]; rfl
      have HN : Hid (g1 k = false → (List.range (k + 1)).any g1 = false) := fun h => by
        show (List.range (k + 1)).any g1 = false
        rw [anyR_snoc, HA.out, h]; rfl
      have y := six_gr hx (GB.trans gr) hg
      have hsz := (GB.trans gr).size
      clear hx
      generalize cs.getD k Bx.nil = c at *
      generalize g1 k = fv at *
      subst hav
      have KS : Hid (∀ w', Gr wr w' → Gr wr w' ∧ w'.cell? ⟨g, o + k * 6 + 4, none⟩ = some (.int .i64 c.i) ∧ w'.cell? ⟨w.heap.size, 0, none⟩ = some (.string s) ∧ w'.cell? ⟨w.heap.size, 1, none⟩ = some (.slice (some ⟨g, o, none⟩) cs.length cap) ∧ w'.cell? ⟨w.heap.size + 1, 0, none⟩ = some (.string t) ∧ w'.cell? ⟨w.heap.size + 1, 1, none⟩ = some (.slice a' bs.length cap')) := fun w' gg => ⟨gg, (six_gr y gg (by omega)).2.2.2.2.1, (two_pairs (gr.trans gg)).2⟩
      have HG : Hid (Gr _ wr) := gr
      clear y gr
      go_wp2_with fail
      clear e0 e1 e2 e3
      go_region_held3 (fun w' => Gr wr w' ∧ w'.cell? ⟨g, o + k * 6 + 4, none⟩ = some (.int .i64 c.i) ∧ w'.cell? ⟨w.heap.size, 0, none⟩ = some (.string s) ∧ w'.cell? ⟨w.heap.size, 1, none⟩ = some (.slice (some ⟨g, o, none⟩) cs.length cap) ∧ w'.cell? ⟨w.heap.size + 1, 0, none⟩ = some (.string t) ∧ w'.cell? ⟨w.heap.size + 1, 1, none⟩ = some (.slice a' bs.length cap'))
        (first | exact KS.out _ (Gr.refl _).drew | exact KS.out _ ((Gr.refl _).drew.trans g3))
        (first
          | (go_at_call 17; refine (HK.out _ (GB.trans (HG.out.trans (Gr.refl _).drew))).mono ?_; rintro e w3 ⟨rfl, g3⟩))
      have G3 := HG.out.trans ((Gr.refl _).drew.trans g3)
      cases fv
      · have HNh : Hid _ := HN.out rfl
        clear HT
        go_wp2
        go_roundw
        case rel => exact ⟨k + 1, by omega, by go_num, HNh.out, G3⟩
        case measure => simp [intOf]; omega
      · have HV : Hid _ := HT.out rfl
        go_wp2
        go_ret
        exact ⟨by rw [HV.out]; rfl, GB.trans G3⟩
    · obtain rfl : k = cs.length := by omega
      go_wp2_with fail
      go_loopw [6] (fun i wr => ∃ k : Nat, k ≤ bs.length ∧ i = .int .i64 k ∧ Hid ((List.range k).any g2 = false) ∧ Gr ((w.alloc (.cells #[.string s, .slice a cs.length cap] 25)).alloc (.cells #[.string t, .slice a' bs.length cap'] 25)) wr) (fun i _ => bs.length - (intOf i).toNat)
      case atStart => exact ⟨0, Nat.zero_le _, rfl, rfl, gr⟩
      case round =>
        clear gr e0 e1 e2 e3 hl
        obtain ⟨k, hk, rfl, HB, gr⟩ := hrel
        obtain ⟨hl, e0, e1, e2, e3⟩ := two_pairs gr
        by_cases hkl : k < bs.length
        · have hx0 := hb k hkl
          obtain ⟨g, o, hav, hg, hx⟩ := hx0
          have hi0 : (0 : Int) ≤ (k : Int) := by omega
          have hi1 : (k : Int) < (bs.length : Int) := by omega
          have HK : Hid _ := HD.out k hkl
          have HT : Hid (g2 k = true → ((List.range cs.length).any g1 || (List.range bs.length).any g2) = true) := fun h => by
            show (_ || _) = true
            rw [any_at hkl h, Bool.or_true]
          have HN : Hid (g2 k = false → (List.range (k + 1)).any g2 = false) := fun h => by
            show (List.range (k + 1)).any g2 = false
            rw [anyR_snoc, HB.out, h]; rfl
          have y := six_gr hx (GB.trans gr) hg
          have hsz := (GB.trans gr).size
          clear hx
          generalize bs.getD k Bx.nil = c at *
          generalize g2 k = fv at *
          subst hav
          have KS : Hid (∀ w', Gr wr w' → Gr wr w' ∧ w'.cell? ⟨g, o + k * 6 + 4, none⟩ = some (.int .i64 c.i) ∧ w'.cell? ⟨w.heap.size, 0, none⟩ = some (.string s) ∧ w'.cell? ⟨w.heap.size, 1, none⟩ = some (.slice a cs.length cap) ∧ w'.cell? ⟨w.heap.size + 1, 0, none⟩ = some (.string t) ∧ w'.cell? ⟨w.heap.size + 1, 1, none⟩ = some (.slice (some ⟨g, o, none⟩) bs.length cap')) := fun w' gg => ⟨gg, (six_gr y gg (by omega)).2.2.2.2.1, (two_pairs (gr.trans gg)).2⟩
          have HG : Hid (Gr _ wr) := gr
          clear y gr
          go_wp2_with fail
          clear e0 e1 e2 e3
          go_region_held3 (fun w' => Gr wr w' ∧ w'.cell? ⟨g, o + k * 6 + 4, none⟩ = some (.int .i64 c.i) ∧ w'.cell? ⟨w.heap.size, 0, none⟩ = some (.string s) ∧ w'.cell? ⟨w.heap.size, 1, none⟩ = some (.slice a cs.length cap) ∧ w'.cell? ⟨w.heap.size + 1, 0, none⟩ = some (.string t) ∧ w'.cell? ⟨w.heap.size + 1, 1, none⟩ = some (.slice (some ⟨g, o, none⟩) bs.length cap'))
            (first | exact KS.out _ (Gr.refl _).drew | exact KS.out _ ((Gr.refl _).drew.trans g3))
            (first
              | (go_at_call 17; refine (HK.out _ (GB.trans (HG.out.trans (Gr.refl _).drew))).mono ?_; rintro e w3 ⟨rfl, g3⟩))
          have G3 := HG.out.trans ((Gr.refl _).drew.trans g3)
          cases fv
          · have HNh : Hid _ := HN.out rfl
            clear HT
            go_wp2
            go_roundw
            case rel => exact ⟨k + 1, by omega, by go_num, HNh.out, G3⟩
            case measure => simp [intOf]; omega
          · have HV : Hid _ := HT.out rfl
            go_wp2
            go_ret
            exact ⟨by rw [HV.out]; rfl, GB.trans G3⟩
        · obtain rfl : k = bs.length := by omega
          go_wp2
          go_ret
          exact ⟨by rw [HA.out, HB.out]; rfl, GB.trans gr⟩
end Go.Proofs.Ytpdcgjkfilohcaa
