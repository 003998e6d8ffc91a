import Derived.Test.YtpdcgjkfilohcabGreatSmallD
namespace Go.Proofs.YtpdcgjkfilohcabGreat
open Go.RowKit
attribute [local go_sem ↓] Go.wp_at_zero Go.wp_at_succ

/-- The bytes bs lie from an address on. -/
def BytesAt (w : World) (a : Option Addr) (bs : List Int) : Prop :=
  ∀ k, k < bs.length → ∃ g o, a = some ⟨g, o, none⟩ ∧ g < w.heap.size ∧ w.cell? ⟨g, o + k, none⟩ = some (.int .u8 (bs.getD k 0)) ∧ 0 ≤ bs.getD k 0 ∧ bs.getD k 0 ≤ 255

theorem xor_nonneg (x y : Int) (h0 : 0 ≤ x) (h1 : x < 4611686018427387904) (h2 : 0 ≤ y) (h3 : y < 4611686018427387904) : 0 ≤ bits .xor .i64 x y := by
  obtain ⟨a, rfl⟩ := Int.eq_ofNat_of_zero_le h0
  obtain ⟨b, rfl⟩ := Int.eq_ofNat_of_zero_le h2
  have hx : a ^^^ b < 2 ^ 62 := Nat.xor_lt_two_pow (by omega) (by omega)
  have e1 : (BitVec.ofInt 64 (a : Int)).toNat = a := by
    rw [BitVec.ofInt_natCast, BitVec.toNat_ofNat]; exact Nat.mod_eq_of_lt (by omega)
  have e2 : (BitVec.ofInt 64 (b : Int)).toNat = b := by
    rw [BitVec.ofInt_natCast, BitVec.toNat_ofNat]; exact Nat.mod_eq_of_lt (by omega)
  show 0 ≤ IntKind.i64.wrap ((BitVec.ofInt 64 (a : Int) ^^^ BitVec.ofInt 64 (b : Int)).toNat : Int)
  rw [BitVec.toNat_xor, e1, e2, IntKind.wrap_i64]
  omega

theorem pick_fin (b b' P d n : Int) (h0 : 0 ≤ b) (h1 : b ≤ 255) (h2 : 0 ≤ b') (h3 : b' ≤ 255) (h4 : 0 ≤ P) (h5 : P ≤ 1000000) (h6 : 0 ≤ d) (h7 : d ≤ 1000000) (hn : 1 ≤ n) :
    0 ≤ (bits .xor .i64 (wrap64 (b * 131 + b' * 1117 + P * 29 + wrap64 (wrap64 d * 53))) (wrap64 ((wrap64 (b * 131 + b' * 1117 + P * 29 + wrap64 (wrap64 d * 53))).tdiv 64))).tmod n ∧
    (bits .xor .i64 (wrap64 (b * 131 + b' * 1117 + P * 29 + wrap64 (wrap64 d * 53))) (wrap64 ((wrap64 (b * 131 + b' * 1117 + P * 29 + wrap64 (wrap64 d * 53))).tdiv 64))).tmod n < n := by
  have e1 : wrap64 d = d := IntWalk.wrap64_in _ (by omega)
  have e2 : wrap64 (d * 53) = d * 53 := IntWalk.wrap64_in _ (by omega)
  have e3 : wrap64 (b * 131 + b' * 1117 + P * 29 + d * 53) = b * 131 + b' * 1117 + P * 29 + d * 53 := IntWalk.wrap64_in _ (by omega)
  rw [e1, e2, e3]
  have x0 : 0 ≤ b * 131 + b' * 1117 + P * 29 + d * 53 := by omega
  have x1 : b * 131 + b' * 1117 + P * 29 + d * 53 ≤ 1000000000 := by omega
  generalize b * 131 + b' * 1117 + P * 29 + d * 53 = X at *
  have e4 : X.tdiv 64 = X / 64 := Int.tdiv_eq_ediv_of_nonneg x0
  have e5 : wrap64 (X / 64) = X / 64 := IntWalk.wrap64_in _ (by omega)
  rw [e4, e5]
  have hx := xor_nonneg X (X / 64) x0 (by omega) (by omega) (by omega)
  exact ⟨Int.tmod_nonneg n hx, Int.tmod_lt_of_pos _ (by omega)⟩

end Go.Proofs.YtpdcgjkfilohcabGreat
