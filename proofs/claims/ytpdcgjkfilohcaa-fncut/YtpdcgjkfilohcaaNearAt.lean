import Derived.Test.YtpdcgjkfilohcaaNear
namespace Go.Proofs.Ytpdcgjkfilohcaa
open Go.RowKit
attribute [local go_sem ↓] Go.wp_at_zero Go.wp_at_succ

theorem anyR_snoc (f : Nat → Bool) (k : Nat) : (List.range (k + 1)).any f = ((List.range k).any f || f k) := by simp [List.range_succ]
theorem any_at {f : Nat → Bool} {k n : Nat} (hk : k < n) (h : f k = true) : (List.range n).any f = true := by
  rw [List.any_eq_true]
  exact ⟨k, by simpa using hk, h⟩

set_option maxRecDepth 100000 in
set_option maxHeartbeats 4000000 in
/-- Two tubes at a tick, where each two boxes answer f. -/
theorem wNearAt_any (s t : ByteArray) (a a' : Option Addr) (cap cap' : Nat) (cs bs : List Bx) (n : Int) (f : Nat → Nat → Bool) (w : World) (ha : Boxes w a cs) (hb : Boxes w a' bs) (hn : cs.length ≤ 1000) (hm : bs.length ≤ 1000)
    (HC : Hid (∀ i, i < cs.length → ∀ j, j < bs.length → ∀ w : World, Calls Try.prog 16 #[.agg #[.int .i64 (cs.getD i Bx.nil).x, .int .i64 (cs.getD i Bx.nil).y, .int .i64 (cs.getD i Bx.nil).l, .int .i64 (cs.getD i Bx.nil).h, .int .i64 (cs.getD i Bx.nil).i, .int .i64 (cs.getD i Bx.nil).o], .agg #[.int .i64 (bs.getD j Bx.nil).x, .int .i64 (bs.getD j Bx.nil).y, .int .i64 (bs.getD j Bx.nil).l, .int .i64 (bs.getD j Bx.nil).h, .int .i64 (bs.getD j Bx.nil).i, .int .i64 (bs.getD j Bx.nil).o], .int .i64 n] w fun e w' => e = .returned (.bool (f i j)) ∧ Gr w w')) :
    Calls Try.prog 17 #[.agg #[.string s, .slice a cs.length cap], .agg #[.string t, .slice a' bs.length cap'], .int .i64 n] w fun e w' => e = .returned (.bool ((List.range cs.length).any fun i => (List.range bs.length).any fun j => f i j)) ∧ Gr w w' := by
  have GB : Gr w ((w.alloc (.cells #[.string s, .slice a cs.length cap] 25)).alloc (.cells #[.string t, .slice a' bs.length cap'] 25)) := ((Gr.refl _).alloc _).alloc _
  go_enter Try.func17, Try.ntmps17
  go_wp2
  go_loopw [7] (fun i wr => ∃ k : Nat, k ≤ cs.length ∧ i = .int .i64 k ∧ Hid (((List.range k).any fun i => (List.range bs.length).any fun j => f i j) = false) ∧ Gr ((w.alloc (.cells #[.string s, .slice a cs.length cap] 25)).alloc (.cells #[.string t, .slice a' bs.length cap'] 25)) wr) (fun i _ => cs.length - (intOf i).toNat)
  case atStart => exact ⟨0, Nat.zero_le _, rfl, rfl, Gr.refl _⟩
  case round =>
    obtain ⟨k, hk, rfl, HA, gr⟩ := hrel
    obtain ⟨hl, e0, e1, e2, e3⟩ := two_pairs gr
    by_cases hkl : k < cs.length
    · obtain ⟨g, o, rfl, hg, hx⟩ := ha k hkl
      have hi0 : (0 : Int) ≤ (k : Int) := by omega
      have hi1 : (k : Int) < (cs.length : Int) := by omega
      go_wp2_with fail
      go_loopw [8] (fun i wq => ∃ j : Nat, j ≤ bs.length ∧ i = .int .i64 j ∧ Hid (((List.range j).any fun j => f k j) = false) ∧ Gr ((w.alloc (.cells #[.string s, .slice (some ⟨g, o, none⟩) cs.length cap] 25)).alloc (.cells #[.string t, .slice a' bs.length cap'] 25)) wq) (fun i _ => bs.length - (intOf i).toNat)
      case atStart => exact ⟨0, Nat.zero_le _, rfl, rfl, gr⟩
      case round =>
        clear gr e0 e1 e2 e3
        obtain ⟨j, hj, rfl, HB, gq⟩ := hrel
        obtain ⟨hl', q0, q1, q2, q3⟩ := two_pairs gq
        by_cases hjl : j < bs.length
        · obtain ⟨g', o', rfl, hg', hx'⟩ := hb j hjl
          have hj0 : (0 : Int) ≤ (j : Int) := by omega
          have hj1 : (j : Int) < (bs.length : Int) := by omega
          have HK : Hid _ := HC.out k hkl j hjl
          have HT : Hid (f k j = true → ((List.range cs.length).any fun i => (List.range bs.length).any fun j => f i j) = true) := fun h => any_at hkl (any_at hjl h)
          have HN : Hid (f k j = false → ((List.range (j + 1)).any fun j => f k j) = false) := fun h => by
            show ((List.range (j + 1)).any fun j => f k j) = false
            rw [anyR_snoc, HB.out, h]; rfl
          have y := six_gr hx (GB.trans gq) hg
          have y' := six_gr hx' (GB.trans gq) hg'
          have hsz := (GB.trans gq).size
          clear hx hx'
          generalize bs.getD j Bx.nil = b at *
          generalize cs.getD k Bx.nil = c at *
          generalize f k j = fv at *
          have HY : Hid (Six wr g (o + k * 6) c ∧ Six wr g' (o' + j * 6) b ∧ (wr.cell? ⟨w.heap.size, 0, none⟩ = some (.string s) ∧ wr.cell? ⟨w.heap.size, 1, none⟩ = some (.slice (some ⟨g, o, none⟩) cs.length cap) ∧ wr.cell? ⟨w.heap.size + 1, 0, none⟩ = some (.string t) ∧ wr.cell? ⟨w.heap.size + 1, 1, none⟩ = some (.slice (some ⟨g', o', none⟩) bs.length cap'))) := ⟨y, y', q0, q1, q2, q3⟩
          have HG : Hid (Gr _ wr) := gq
          clear y y' gq
          go_wp2_with fail
          clear q0 q1 q2 q3
          go_region_held3 (fun w' => Gr wr w' ∧ (w'.cell? ⟨g, o + k * 6, none⟩ = some (.int .i64 c.x) ∧ w'.cell? ⟨g, o + k * 6 + 1, none⟩ = some (.int .i64 c.y) ∧ w'.cell? ⟨g, o + k * 6 + 2, none⟩ = some (.int .i64 c.l) ∧ w'.cell? ⟨g, o + k * 6 + 3, none⟩ = some (.int .i64 c.h) ∧ w'.cell? ⟨g, o + k * 6 + 4, none⟩ = some (.int .i64 c.i) ∧ w'.cell? ⟨g, o + k * 6 + 5, none⟩ = some (.int .i64 c.o)) ∧ (w'.cell? ⟨g', o' + j * 6, none⟩ = some (.int .i64 b.x) ∧ w'.cell? ⟨g', o' + j * 6 + 1, none⟩ = some (.int .i64 b.y) ∧ w'.cell? ⟨g', o' + j * 6 + 2, none⟩ = some (.int .i64 b.l) ∧ w'.cell? ⟨g', o' + j * 6 + 3, none⟩ = some (.int .i64 b.h) ∧ w'.cell? ⟨g', o' + j * 6 + 4, none⟩ = some (.int .i64 b.i) ∧ w'.cell? ⟨g', o' + j * 6 + 5, none⟩ = some (.int .i64 b.o)) ∧ (w'.cell? ⟨w.heap.size, 0, none⟩ = some (.string s) ∧ w'.cell? ⟨w.heap.size, 1, none⟩ = some (.slice (some ⟨g, o, none⟩) cs.length cap) ∧ w'.cell? ⟨w.heap.size + 1, 0, none⟩ = some (.string t) ∧ w'.cell? ⟨w.heap.size + 1, 1, none⟩ = some (.slice (some ⟨g', o', none⟩) bs.length cap')))
            (first | exact keepS HY.out (by omega) (by omega) hl' (Gr.refl _) (Gr.refl _).drew | exact keepS HY.out (by omega) (by omega) hl' (Gr.refl _) ((Gr.refl _).drew.trans g3))
            (first
              | (go_at_call 16; refine (HK.out _).mono ?_; rintro e w3 ⟨rfl, g3⟩))
          have G3 := HG.out.trans ((Gr.refl _).drew.trans g3)
          cases fv
          · have HN' := HN.out rfl
            have HNh : Hid _ := HN'
            clear HN' HT
            go_wp2
            go_roundw
            case rel => exact ⟨j + 1, by omega, by go_num, HNh.out, G3⟩
            case measure => simp [intOf]; omega
          · have HV : Hid _ := HT.out rfl
            go_wp2
            go_ret
            exact ⟨by rw [HV.out]; rfl, GB.trans G3⟩
        · obtain rfl : j = bs.length := by omega
          have HA' : Hid (((List.range (k + 1)).any fun i => (List.range bs.length).any fun j => f i j) = false) := by
            show ((List.range (k + 1)).any fun i => (List.range bs.length).any fun j => f i j) = false
            rw [anyR_snoc, HA.out, HB.out]; rfl
          go_wp2
          go_roundw
          case rel => exact ⟨k + 1, by omega, by go_num, HA', gq⟩
          case measure => simp [intOf]; omega
    · obtain rfl : k = cs.length := by omega
      go_wp2
      go_ret
      exact ⟨by rw [HA.out]; rfl, GB.trans gr⟩
end Go.Proofs.Ytpdcgjkfilohcaa
