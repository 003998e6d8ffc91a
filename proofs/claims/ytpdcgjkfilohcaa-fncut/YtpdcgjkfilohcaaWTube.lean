import Derived.Test.YtpdcgjkfilohcaaSmallC
namespace Go.Proofs.Ytpdcgjkfilohcaa
open Go.RowKit
attribute [local go_sem ↓] Go.wp_at_zero Go.wp_at_succ

set_option maxRecDepth 100000 in
set_option maxHeartbeats 2000000 in
theorem wTube_same (s : ByteArray) (a a' : Option Addr) (cap cap' : Nat) (bs : List Bx) (w : World) (ha : Boxes w a bs) (hb : Boxes w a' bs) (hn : bs.length ≤ 1000) :
    Calls Try.prog 20 #[.agg #[.string s, .slice a bs.length cap], .agg #[.string s, .slice a' bs.length cap']] w fun e w' => e = .returned (.bool true) ∧ Gr w w' := by
  have GB : Gr w ((w.alloc (.cells #[.string s, .slice a bs.length cap] 25)).alloc (.cells #[.string s, .slice a' bs.length cap'] 25)) := ((Gr.refl _).alloc _).alloc _
  go_enter Try.func20, Try.ntmps20
  go_wp2
  go_loopw [5] (fun i wr => ∃ k : Nat, k ≤ bs.length ∧ i = .int .i64 k ∧ Gr ((w.alloc (.cells #[.string s, .slice a bs.length cap] 25)).alloc (.cells #[.string s, .slice a' bs.length cap'] 25)) wr) (fun i _ => bs.length - (intOf i).toNat)
  case atStart => exact ⟨0, Nat.zero_le _, rfl, Gr.refl _⟩
  case round =>
    obtain ⟨k, hk, rfl, gr⟩ := hrel
    obtain ⟨hl, q0, q1, q2, q3⟩ := two_pairs gr
    by_cases hkl : k < bs.length
    · obtain ⟨g, o, rfl, hg, hx⟩ := ha k hkl
      obtain ⟨g', o', rfl, hg', hx'⟩ := hb k hkl
      have hi0 : (0 : Int) ≤ (k : Int) := by omega
      have hi1 : (k : Int) < (bs.length : Int) := by omega
      have y := six_gr hx (GB.trans gr) hg
      have y' := six_gr hx' (GB.trans gr) hg'
      have hsz := (GB.trans gr).size
      clear hx hx'
      generalize bs.getD k Bx.nil = b at *
      have HY : Hid (Six wr g (o + k * 6) b ∧ Six wr g' (o' + k * 6) b ∧ (wr.cell? ⟨w.heap.size, 0, none⟩ = some (.string s) ∧ wr.cell? ⟨w.heap.size, 1, none⟩ = some (.slice (some ⟨g, o, none⟩) bs.length cap) ∧ wr.cell? ⟨w.heap.size + 1, 0, none⟩ = some (.string s) ∧ wr.cell? ⟨w.heap.size + 1, 1, none⟩ = some (.slice (some ⟨g', o', none⟩) bs.length cap'))) := ⟨y, y', q0, q1, q2, q3⟩
      have HG : Hid (Gr _ wr) := gr
      clear y y' gr
      go_wp2_with fail
      clear q0 q1 q2 q3
      go_region_held3 (fun w' => Gr wr w' ∧ (w'.cell? ⟨g, o + k * 6, none⟩ = some (.int .i64 b.x) ∧ w'.cell? ⟨g, o + k * 6 + 1, none⟩ = some (.int .i64 b.y) ∧ w'.cell? ⟨g, o + k * 6 + 2, none⟩ = some (.int .i64 b.l) ∧ w'.cell? ⟨g, o + k * 6 + 3, none⟩ = some (.int .i64 b.h) ∧ w'.cell? ⟨g, o + k * 6 + 4, none⟩ = some (.int .i64 b.i) ∧ w'.cell? ⟨g, o + k * 6 + 5, none⟩ = some (.int .i64 b.o)) ∧ (w'.cell? ⟨g', o' + k * 6, none⟩ = some (.int .i64 b.x) ∧ w'.cell? ⟨g', o' + k * 6 + 1, none⟩ = some (.int .i64 b.y) ∧ w'.cell? ⟨g', o' + k * 6 + 2, none⟩ = some (.int .i64 b.l) ∧ w'.cell? ⟨g', o' + k * 6 + 3, none⟩ = some (.int .i64 b.h) ∧ w'.cell? ⟨g', o' + k * 6 + 4, none⟩ = some (.int .i64 b.i) ∧ w'.cell? ⟨g', o' + k * 6 + 5, none⟩ = some (.int .i64 b.o)) ∧ (w'.cell? ⟨w.heap.size, 0, none⟩ = some (.string s) ∧ w'.cell? ⟨w.heap.size, 1, none⟩ = some (.slice (some ⟨g, o, none⟩) bs.length cap) ∧ w'.cell? ⟨w.heap.size + 1, 0, none⟩ = some (.string s) ∧ w'.cell? ⟨w.heap.size + 1, 1, none⟩ = some (.slice (some ⟨g', o', none⟩) bs.length cap')))
        (exact keepS HY.out (by omega) (by omega) hl (Gr.refl _) (Gr.refl _).drew)
        (fail)
      have HGd : Hid _ := HG.out.drew
      go_wp2
      go_roundw
      case rel => exact ⟨k + 1, by omega, by go_num, HGd.out⟩
      case measure => simp [intOf]; omega
    · obtain rfl : k = bs.length := by omega
      go_wp2
      go_ret
      exact ⟨rfl, GB.trans gr⟩
end Go.Proofs.Ytpdcgjkfilohcaa
