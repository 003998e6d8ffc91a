import Derived.Test.YtpdcgjkfilohcaaSmallD
namespace Go.Proofs.Ytpdcgjkfilohcaa
open Go.RowKit
attribute [local go_sem ↓] Go.wp_at_zero Go.wp_at_succ

/-- The bytes bs lie from an address on. -/
def BytesAt (w : World) (a : Option Addr) (bs : List Int) : Prop :=
  ∀ k, k < bs.length → ∃ g o, a = some ⟨g, o, none⟩ ∧ g < w.heap.size ∧ w.cell? ⟨g, o + k, none⟩ = some (.int .u8 (bs.getD k 0)) ∧ 0 ≤ bs.getD k 0 ∧ bs.getD k 0 ≤ 255

theorem xor_nonneg (x y : Int) (h0 : 0 ≤ x) (h1 : x < 4611686018427387904) (h2 : 0 ≤ y) (h3 : y < 4611686018427387904) : 0 ≤ bits .xor .i64 x y := by
  obtain ⟨a, rfl⟩ := Int.eq_ofNat_of_zero_le h0
  obtain ⟨b, rfl⟩ := Int.eq_ofNat_of_zero_le h2
  have hx : a ^^^ b < 2 ^ 62 := Nat.xor_lt_two_pow (by omega) (by omega)
  have e1 : (BitVec.ofInt 64 (a : Int)).toNat = a := by
    rw [BitVec.ofInt_natCast, BitVec.toNat_ofNat]; exact Nat.mod_eq_of_lt (by omega)
  have e2 : (BitVec.ofInt 64 (b : Int)).toNat = b := by
    rw [BitVec.ofInt_natCast, BitVec.toNat_ofNat]; exact Nat.mod_eq_of_lt (by omega)
  show 0 ≤ IntKind.i64.wrap ((BitVec.ofInt 64 (a : Int) ^^^ BitVec.ofInt 64 (b : Int)).toNat : Int)
  rw [BitVec.toNat_xor, e1, e2, IntKind.wrap_i64]
  omega

theorem pick_fin (b b' P d n : Int) (h0 : 0 ≤ b) (h1 : b ≤ 255) (h2 : 0 ≤ b') (h3 : b' ≤ 255) (h4 : 0 ≤ P) (h5 : P ≤ 1000000) (h6 : 0 ≤ d) (h7 : d ≤ 1000000) (hn : 1 ≤ n) :
    0 ≤ (bits .xor .i64 (wrap64 (b * 131 + b' * 1117 + P * 29 + wrap64 (wrap64 d * 53))) (wrap64 ((wrap64 (b * 131 + b' * 1117 + P * 29 + wrap64 (wrap64 d * 53))).tdiv 64))).tmod n ∧
    (bits .xor .i64 (wrap64 (b * 131 + b' * 1117 + P * 29 + wrap64 (wrap64 d * 53))) (wrap64 ((wrap64 (b * 131 + b' * 1117 + P * 29 + wrap64 (wrap64 d * 53))).tdiv 64))).tmod n < n := by
  have e1 : wrap64 d = d := IntWalk.wrap64_in _ (by omega)
  have e2 : wrap64 (d * 53) = d * 53 := IntWalk.wrap64_in _ (by omega)
  have e3 : wrap64 (b * 131 + b' * 1117 + P * 29 + d * 53) = b * 131 + b' * 1117 + P * 29 + d * 53 := IntWalk.wrap64_in _ (by omega)
  rw [e1, e2, e3]
  have x0 : 0 ≤ b * 131 + b' * 1117 + P * 29 + d * 53 := by omega
  have x1 : b * 131 + b' * 1117 + P * 29 + d * 53 ≤ 1000000000 := by omega
  generalize b * 131 + b' * 1117 + P * 29 + d * 53 = X at *
  have e4 : X.tdiv 64 = X / 64 := Int.tdiv_eq_ediv_of_nonneg x0
  have e5 : wrap64 (X / 64) = X / 64 := IntWalk.wrap64_in _ (by omega)
  rw [e4, e5]
  have hx := xor_nonneg X (X / 64) x0 (by omega) (by omega) (by omega)
  exact ⟨Int.tmod_nonneg n hx, Int.tmod_lt_of_pos _ (by omega)⟩

set_option maxRecDepth 100000 in
set_option maxHeartbeats 4000000 in
theorem pick_any (r : Nat) (a : Option Addr) (cap : Nat) (bs : List Int) (p : Nat) (n : Int) (w : World) (hb : BytesAt w a bs) (hl : bs.length ≤ 2000) (hp : p ≤ 1000000) (h1 : 1 ≤ n) (h2 : n ≤ 1000)
    (c0 : w.cell? ⟨r, 0, none⟩ = some (.slice a bs.length cap)) (c1 : w.cell? ⟨r, 1, none⟩ = some (.int .i64 p)) (f1 : w.frozen? ⟨r, 1, none⟩ = false) (hr : bs ≠ [] → ∀ g o sp, a = some ⟨g, o, sp⟩ → g < r) :
    Calls Try.prog 48 #[.pointer (some ⟨r, 0, none⟩), .int .i64 n] w fun e w' => ∃ (x : Int) (m : Nat), e = .returned (.int .i64 x) ∧ 0 ≤ x ∧ x < n ∧ w' = (w.setCell ⟨r, 1, none⟩ (.int .i64 ((p : Int) + 1))).drewN m := by
  by_cases h0 : bs.length = 0
  · have h0' : ((bs.length : Int) == 0) = true := by simp [h0]
    have hn : ¬ n < 1 := by omega
    clear h0
    go_enter Try.func48, Try.ntmps48
    go_wp2
    go_ret
    exact ⟨0, rfl, by omega, by omega, 0, rfl⟩
  have h0' : ((bs.length : Int) == 0) = false := beq_eq_false_iff_ne.2 (by omega)
  have hn : ¬ n < 1 := by omega
  have hnz : (n == 0) = false := beq_eq_false_iff_ne.2 (by omega)
  by_cases hk : p < bs.length
  · obtain ⟨g, o, rfl, hg, hx, hx0, hx1⟩ := hb p hk
    have hne : g ≠ r := by have := hr (fun e => by rw [e] at h0; exact h0 rfl) g o none rfl; omega
    have hx' : (w.setCell ⟨r, 1, none⟩ (.int .i64 ((p : Int) + 1))).cell? ⟨g, o + p, none⟩ = some (.int .u8 (bs.getD p 0)) := (cell_off _ _ _ _ _ _ (Or.inl hne)).trans hx
    generalize bs.getD p 0 = b at *
    have HM : Hid (0 ≤ b % n ∧ b % n < n) := ⟨Int.emod_nonneg _ (by omega), Int.emod_lt_of_pos _ (by omega)⟩
    clear hb hx hr
    go_enter Try.func48, Try.ntmps48
    go_wp2
    go_ret
    exact ⟨_, rfl, HM.out.1, HM.out.2, 0, rfl⟩
  · have hk' : ¬ (p : Int) < bs.length := by omega
    obtain ⟨q, hq⟩ : ∃ q, q = p % bs.length := ⟨_, rfl⟩
    obtain ⟨q', hq'⟩ : ∃ q', q' = (p * 7 + 3) % bs.length := ⟨_, rfl⟩
    have hql : q < bs.length := by rw [hq]; exact Nat.mod_lt _ (by omega)
    have hql' : q' < bs.length := by rw [hq']; exact Nat.mod_lt _ (by omega)
    obtain ⟨g, o, rfl, hg, hx, hx0, hx1⟩ := hb q hql
    obtain ⟨g', o', e', hg', hy, hy0, hy1⟩ := hb q' hql'
    simp only [Option.some.injEq, Addr.mk.injEq, and_true] at e'
    obtain ⟨rfl, rfl⟩ := e'
    have hne : g ≠ r := by have := hr (fun e => by rw [e] at h0; exact h0 rfl) g o none rfl; omega
    have hx' : (w.setCell ⟨r, 1, none⟩ (.int .i64 ((p : Int) + 1))).cell? ⟨g, o + q, none⟩ = some (.int .u8 (bs.getD q 0)) := (cell_off _ _ _ _ _ _ (Or.inl hne)).trans hx
    have hy' : (w.setCell ⟨r, 1, none⟩ (.int .i64 ((p : Int) + 1))).cell? ⟨g, o + q', none⟩ = some (.int .u8 (bs.getD q' 0)) := (cell_off _ _ _ _ _ _ (Or.inl hne)).trans hy
    have i1 : (p : Int) % (bs.length : Int) = (q : Int) := by rw [hq]; exact (Int.natCast_emod _ _).symm
    have i2 : ((p : Int) * 7 + 3) % (bs.length : Int) = (q' : Int) := by rw [hq']; push_cast; rfl
    generalize bs.getD q 0 = b at *
    generalize bs.getD q' 0 = b' at *
    have i3 : (0 : Int) ≤ (q : Int) := by omega
    have i4 : (q : Int) < (bs.length : Int) := by omega
    have i5 : (0 : Int) ≤ (q' : Int) := by omega
    have i6 : (q' : Int) < (bs.length : Int) := by omega
    clear hb hx hy hr hq hq'
    go_enter Try.func48, Try.ntmps48
    go_upto_region 7 with fail
    go_quiet (fail)
    go_wp2
    go_ret
    have hd0 : 0 ≤ (p : Int) / (bs.length : Int) := Int.ediv_nonneg (by omega) (by omega)
    have hd1 : (p : Int) / (bs.length : Int) ≤ (p : Int) := Int.ediv_le_self _ (by omega)
    have F := pick_fin b b' p ((p : Int) / (bs.length : Int)) n hx0 hx1 hy0 hy1 (by omega) (by omega) hd0 (by omega) h1
    exact ⟨_, rfl, F.1, F.2, _, rfl⟩
end Go.Proofs.Ytpdcgjkfilohcaa
