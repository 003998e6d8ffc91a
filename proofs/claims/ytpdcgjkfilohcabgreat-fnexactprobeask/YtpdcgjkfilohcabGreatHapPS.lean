import Derived.Test.YtpdcgjkfilohcabGreatHapKO
import Derived.Test.YtpdcgjkfilohcabGreatMark
import Derived.Laws.IdiomStrings
namespace Go.Proofs.YtpdcgjkfilohcabGreat
open Go.RowKit
attribute [local go_sem ↓] Go.wp_at_zero Go.wp_at_succ

theorem set_two (A C : List Value) (x y a b : Value) (p : Nat) (hA : A.length = p * 2) : ((A ++ (x :: y :: C)).set (p * 2) a).set (p * 2 + 1) b = A ++ (a :: b :: C) := by
  rw [List.set_append, if_neg (by omega), hA, Nat.sub_self, List.set_cons_zero, List.set_append, if_neg (by omega), hA, show p * 2 + 1 - p * 2 = 1 by omega, List.set_cons_succ, List.set_cons_zero]
/-- The first tubes of a row that is being filled. -/
def FillT (g n : Nat) (wr : World) (us : List Tb) : Prop :=
  (∃ rest, wr.ownsRow g 40 2 (.slice (some ⟨g, 0, none⟩) n n) n (flatT us ++ rest) ∧ rest.length = (n - us.length) * 2) ∧ (∀ t ∈ us, InT g wr t ∧ t.blk ≠ some g ∧ ∃ q, t.a = some ⟨q, 0, none⟩) ∧ us.Pairwise (fun t u => ∀ q, t.blk = some q → u.blk ≠ some q)
theorem fill_next {g n : Nat} {wr w2 : World} {us : List Tb} {t : Tb} (h : FillT g n wr us) (g2 : Gr wr w2) (hk : us.length < n) (ht : InT wr.heap.size w2 t) (hgl : g < wr.heap.size) (hq : ∃ q, t.a = some ⟨q, 0, none⟩) : FillT g n (put2 w2 g (us.length * 2) t) (us ++ [t]) := by
  obtain ⟨⟨rest, hr, hl⟩, h2, h3⟩ := h
  have hr2 := owns_gr hr g2
  obtain ⟨x, y, C, rfl⟩ : ∃ x y C, rest = x :: y :: C := by
    match rest, hl with
    | [], hl => simp at hl; omega
    | [x], hl => simp at hl; omega
    | x :: y :: C, _ => exact ⟨x, y, C, rfl⟩
  have s1 := hr2.stored (us.length * 2) (.string t.s)
  have s2 := s1.1.stored (us.length * 2 + 1) (.slice t.a t.bs.length t.cap)
  have hG : w2.grownBy (put2 w2 g (us.length * 2) t) (some g) := grown_trans s1.2 s2.2
  have hs := g2.size
  have hne : ∀ u ∈ us ++ [t], u.blk ≠ some g ∧ InT g w2 u ∧ ∃ q, u.a = some ⟨q, 0, none⟩ := fun u hu => by
    rw [List.mem_append, List.mem_singleton] at hu
    rcases hu with hu | rfl
    · exact ⟨(h2 u hu).2.1, inT_gr (h2 u hu).1 g2, (h2 u hu).2.2⟩
    · exact ⟨fun e => by have := (blk_lt ht e).1; omega, inT_lo ht (by omega), hq⟩
  refine ⟨⟨C, ?_, by simp at hl ⊢; omega⟩, fun u hu => ⟨inT_grown (hne u hu).2.1 hG (fun q e e' => (hne u hu).1 (by rw [e, ← e'])), (hne u hu).1, (hne u hu).2.2⟩, ?_⟩
  · have e := s2.1
    rw [set_two _ _ _ _ _ _ _ (flatT_len us)] at e
    rw [flatT_snoc, List.append_assoc]
    exact e
  · rw [List.pairwise_append]
    refine ⟨h3, List.pairwise_singleton _ _, fun u hu x hx q e e' => ?_⟩
    rw [List.mem_singleton] at hx
    subst hx
    have := (blk_lt (h2 u hu).1 e).2
    have := (blk_lt ht e').1
    omega

set_option maxHeartbeats 2000000 in
theorem toTubeS_own (a : Option Addr) (cap : Nat) (ts : List Tb) (w : World) (ha : Tubes w a ts) (hS : Small ts) :
    Calls Tryz.prog 10 #[.slice a ts.length cap] w fun e w' => (∃ us : List Tb, e = .returned (.slice (some ⟨w.heap.size, 0, none⟩) us.length us.length) ∧ Like us ts ∧ OwnT w.heap.size w' (.slice (some ⟨w.heap.size, 0, none⟩) us.length us.length) us ∧ Made us) ∧ Gr w w' := by
  obtain ⟨i0, hi, hz0, hz1, hz2⟩ := info_parts Tryz.info40
  have hn := hS.1
  go_enter Tryz.func10, Tryz.ntmps10
  go_wp2_with (first
    | (at_make; refine wpList_make_full _ rfl _ _ 26 rfl w.heap.size 40 i0 _ 2 Tryz.underlying26 hi hz0 hz1 .i64 .i64 _ _ ts.length rfl rfl rfl rfl (by rw [hz2]; omega) (by unfold maxLen; omega) (Nat.le_refl _) ?_; intro w1 hown hgrow))
  have g0 : Gr w w1 := Below.grown (Below.refl _ _) hgrow (Nat.le_refl _) (fun k hk => by cases hk)
  have hlt := ownT_lt hown w.heap.size rfl
  have HF : Hid (FillT w.heap.size ts.length w1 []) := ⟨⟨_, hown, by have := hown.1; simpa using this⟩, (fun t ht => by simp at ht), List.Pairwise.nil⟩
  clear hown hgrow hi hz0 hz1 hz2
  go_loopw [4] (fun i wr => ∃ us : List Tb, us.length ≤ ts.length ∧ i = .int .i64 us.length ∧ Gr w wr ∧ w.heap.size < wr.heap.size ∧ Hid (FillT w.heap.size ts.length wr us) ∧ Hid (LikeTo us ts)) (fun i _ => ts.length - (intOf i).toNat)
  case atStart => exact ⟨[], Nat.zero_le _, rfl, g0, hlt, HF, fun j hj => by simp at hj⟩
  case round =>
    obtain ⟨us, hk, rfl, gr, hl, HF, HL⟩ := hrel
    by_cases hkl : us.length < ts.length
    · obtain ⟨g, o, rfl, hg, hx, hb⟩ := ha us.length hkl
      obtain ⟨hs, hbn⟩ := hS.2 us.length hkl
      obtain ⟨rest, hrow, -⟩ := HF.out.1
      obtain ⟨-, hroom⟩ := room2_made hrow
      have HNX : Hid (∀ a cap, LikeTo (us ++ [⟨(ts.getD us.length Tb.nil).s, a, cap, (ts.getD us.length Tb.nil).bs⟩]) ts) := fun a cap => likeTo_next HL.out rfl rfl
      obtain ⟨c0, c1⟩ := two_gr hx gr hg
      obtain ⟨⟨⟨u0, r0⟩, f0⟩, ⟨⟨u1, r1⟩, f1⟩⟩ := hroom us.length hkl
      clear hx hrow hroom
      generalize ts.getD us.length Tb.nil = t at *
      go_wp2_with (first
        | (go_at_call 19; refine (toTube_any _ _ _ t.bs _ (boxes_gr hb gr) hbn).mono ?_; rintro e w2 ⟨⟨gq, rfl, hO⟩, g2⟩; obtain ⟨hc, hf⟩ := g2.cells))
      have hI : InT wr.heap.size w2 ⟨t.s, some ⟨gq, 0, none⟩, t.bs.length, t.bs⟩ := ⟨fun q o sp e => by simp at e; obtain ⟨rfl, rfl, rfl⟩ := e; exact ⟨rfl, rfl, hO.1, hO.2.1, hO.2.2.1⟩, hO.2.2.2⟩
      have R : Hid (FillT w.heap.size ts.length (put2 w2 w.heap.size (us.length * 2) ⟨t.s, some ⟨gq, 0, none⟩, t.bs.length, t.bs⟩) (us ++ [(⟨t.s, some ⟨gq, 0, none⟩, t.bs.length, t.bs⟩ : Tb)])) := fill_next HF.out g2 hkl hI hl ⟨gq, rfl⟩
      have R2 : Hid (Gr w (put2 w2 w.heap.size (us.length * 2) ⟨t.s, some ⟨gq, 0, none⟩, t.bs.length, t.bs⟩)) := put2_gr (gr.trans g2) (Nat.le_refl _) _
      have R3 : Hid (w.heap.size < (put2 w2 w.heap.size (us.length * 2) ⟨t.s, some ⟨gq, 0, none⟩, t.bs.length, t.bs⟩).heap.size) := by show _ < _; rw [put2_size]; have := g2.size; omega
      go_roundw
      case rel => exact ⟨us ++ [(⟨t.s, some ⟨gq, 0, none⟩, t.bs.length, t.bs⟩ : Tb)], by rw [List.length_append]; simp only [List.length_cons, List.length_nil]; omega, congrArg (Value.int .i64) (by rw [List.length_append]; simp), R2.out, R3.out, R, HNX.out _ _⟩
      case measure => simp [intOf]; omega
    · have e : us.length = ts.length := by omega
      go_wp2
      go_ret
      obtain ⟨⟨rest, hrow, hrl⟩, h2, h3⟩ := HF.out
      rw [e, Nat.sub_self, Nat.zero_mul] at hrl
      rw [List.length_eq_zero_iff.1 hrl, List.append_nil, ← e] at hrow
      exact ⟨⟨us, by rw [e]; rfl, ⟨e, fun k hk => HL.out k (by omega)⟩, ⟨hrow, fun t ht => (h2 t ht).1, h3, fun t ht q e1 e2 => (h2 t ht).2.1 (by rw [e1, ← e2]; rfl)⟩, fun t ht => by obtain ⟨q, e⟩ := (h2 t ht).2.2; exact ⟨q, 0, e⟩⟩, gr⟩
end Go.Proofs.YtpdcgjkfilohcabGreat

namespace Go.Proofs.YtpdcgjkfilohcabGreat
open Go.RowKit
attribute [local go_sem ↓] Go.wp_at_zero Go.wp_at_succ

theorem tri_new {w w1 : World} {u v x : Value} {t : TypeId} (g : Gr (w.alloc (.cells #[u, v, x] t)) w1) : (w1.cell? ⟨w.heap.size, 0, none⟩ = some u ∧ w1.cell? ⟨w.heap.size, 1, none⟩ = some v ∧ w1.cell? ⟨w.heap.size, 2, none⟩ = some x) ∧ w1.frozen? ⟨w.heap.size, 0, none⟩ = false ∧ w1.frozen? ⟨w.heap.size, 1, none⟩ = false ∧ w1.frozen? ⟨w.heap.size, 2, none⟩ = false :=
  ⟨⟨(g.cells.1 _ _ (by simp)).trans (by simp), (g.cells.1 _ _ (by simp)).trans (by simp), (g.cells.1 _ _ (by simp)).trans (by simp)⟩, (g.cells.2 _ _ (by simp)).trans (by simp), (g.cells.2 _ _ (by simp)).trans (by simp), (g.cells.2 _ _ (by simp)).trans (by simp)⟩
/-- The digits of a number, ahead of a text. -/
def mtF : Nat → Nat → ByteArray → ByteArray
  | 0, _, out => out
  | f + 1, k, out => if k = 0 then out else mtF f (k / 10) (⟨#[UInt8.ofNat (48 + k % 10)]⟩ ++ out)
theorem mtF_more : ∀ (f g k : Nat) (out : ByteArray), k ≤ f → k ≤ g → mtF f k out = mtF g k out
  | 0, 0, _, _, _, _ => rfl
  | 0, g + 1, k, out, h, _ => by
    obtain rfl : k = 0 := by omega
    simp [mtF]
  | f + 1, 0, k, out, _, h => by
    obtain rfl : k = 0 := by omega
    simp [mtF]
  | f + 1, g + 1, k, out, h, h' => by
    rw [mtF, mtF]
    by_cases e : k = 0
    · rw [if_pos e, if_pos e]
    · rw [if_neg e, if_neg e]
      exact mtF_more f g (k / 10) _ (by omega) (by omega)
def mtGo (k : Nat) (out : ByteArray) : ByteArray := mtF k k out
theorem mtGo_eq (k : Nat) (out : ByteArray) : mtGo k out = if k = 0 then out else mtGo (k / 10) (⟨#[UInt8.ofNat (48 + k % 10)]⟩ ++ out) := by
  unfold mtGo
  cases k with
  | zero => rfl
  | succ k =>
    rw [mtF]
    by_cases e : k + 1 = 0
    · omega
    · rw [if_neg e, if_neg e]
      exact mtF_more _ _ _ _ (by omega) (Nat.le_refl _)
/-- The text of a mark. -/
def mtx (k : Int) : ByteArray := if k ≤ 0 then ⟨#[109, 48]⟩ else ⟨#[109]⟩ ++ mtGo k.toNat ⟨#[]⟩

set_option maxRecDepth 100000 in
set_option maxHeartbeats 1000000 in
theorem markText_any (k : Int) (w : World) (h0 : 0 < k) (h1 : k ≤ 100000000000000) :
    Calls Tryz.prog 39 #[.int .i64 k] w fun e w' => e = .returned (.string (mtx k)) ∧ Gr w w' := by
  have HM : Hid (mtx k = ⟨#[109]⟩ ++ mtGo k.toNat ⟨#[]⟩) := by show mtx k = _; unfold mtx; rw [if_neg (by omega)]
  have hkd : decide (k ≤ 0) = false := by simp; omega
  go_enter Tryz.func39, Tryz.ntmps39
  go_wp2
  go_loopw [0, 3] (fun vk vo wr => ∃ (K : Nat) (out : ByteArray), vk = .int .i64 K ∧ vo = .string out ∧ (K : Int) ≤ k ∧ Gr w wr ∧ (out.size ≤ 15 ∧ Hid (0 < K → K * 10 ^ out.size ≤ 10 ^ 14)) ∧ Hid (mtGo K out = mtGo k.toNat ⟨#[]⟩)) (fun vk _ _ => (intOf vk).toNat)
  case atStart => exact ⟨k.toNat, ⟨#[]⟩, by congr; omega, rfl, by omega, Gr.refl _, ⟨by show (0 : Nat) ≤ 15; omega, fun _ => by show k.toNat * 10 ^ 0 ≤ 10 ^ 14; omega⟩, rfl⟩
  case round =>
    obtain ⟨K, out, rfl, rfl, hK, gr, ⟨hos, HP⟩, HG⟩ := hrel
    by_cases hz : 0 < K
    · have hzi : (0 : Int) < (K : Int) := by omega
      have hps := HP.out hz
      have hos14 : out.size ≤ 14 := by
        rcases Nat.lt_or_ge 14 out.size with h | h
        · have h2 : 10 ^ 15 ≤ 10 ^ out.size := Nat.pow_le_pow_right (by omega) h
          have h3 : 10 ^ out.size ≤ K * 10 ^ out.size := Nat.le_mul_of_pos_left _ hz
          omega
        · exact h
      have HP2 : Hid (0 < K / 10 → (K / 10) * 10 ^ (out.size + 1) ≤ 10 ^ 14) := fun _ => by
        have h4 : K / 10 * 10 ≤ K := Nat.div_mul_le_self K 10
        have h5 : (K / 10) * 10 ^ (out.size + 1) = (K / 10 * 10) * 10 ^ out.size := by rw [Nat.pow_succ, Nat.mul_assoc, Nat.mul_comm (10 ^ out.size) 10]
        rw [h5]
        exact Nat.le_trans (Nat.mul_le_mul_right _ h4) hps
      clear hps
      have hd : (48 + (K : Int) % 10) = ((UInt8.ofNat (48 + K % 10)).toNat : Int) := by
        rw [UInt8.toNat_ofNat']
        omega
      have hcv : (convert 126 9 (.slice (some ⟨wr.heap.size, 0, none⟩) 1 1)).run Tryz.prog (wr.alloc (.cells #[.int .u8 (48 + (K : Int) % 10)] 5)) = .ok (.string ⟨#[UInt8.ofNat (48 + K % 10)]⟩) (wr.alloc (.cells #[.int .u8 (48 + (K : Int) % 10)] 5)) := by
        have := run_convert_bytes_back (P := Tryz.prog) (wr.alloc (.cells #[.int .u8 (48 + (K : Int) % 10)] 5)) 126 9 5 ⟨wr.heap.size, 0, none⟩ 1 [UInt8.ofNat (48 + K % 10)] Tryz.underlying126 Tryz.underlying5 Tryz.underlying9 (fun j hj => by
          obtain rfl : j = 0 := by simp at hj; omega
          show (wr.alloc (.cells #[.int .u8 (48 + (K : Int) % 10)] 5)).cell? _ = some (.int .u8 ((UInt8.ofNat (48 + K % 10)).toNat : Int))
          rw [← hd]
          simp [Addr.add])
        exact this
      have HCV : Hid _ := hcv
      have HS : Hid (mtGo (K / 10) (⟨#[UInt8.ofNat (48 + K % 10)]⟩ ++ out) = mtGo k.toNat ⟨#[]⟩) := by
        have := HG.out
        rw [mtGo_eq, if_neg (by omega)] at this
        exact this
      clear hcv hd
      go_wp2
      rw [HCV.out]
      simp only [Result.andThen]
      rw [Oper.upon_value]
      go_wp2
      go_roundw
      case rel => exact ⟨K / 10, ⟨#[UInt8.ofNat (48 + K % 10)]⟩ ++ out, by go_num, by simp [UInt8.ofNat_add], by omega, gr.alloc _, ⟨by rw [ByteArray.size_append]; show 1 + out.size ≤ 15; omega, by rw [ByteArray.size_append, show (ByteArray.size ⟨#[UInt8.ofNat (48 + K % 10)]⟩) = 1 from rfl, Nat.add_comm 1]; exact HP2⟩, HS⟩
      case measure => simp [intOf]; omega
    · obtain rfl : K = 0 := by omega
      have HE : Hid (out = mtGo k.toNat ⟨#[]⟩) := by
        have := HG.out
        rw [mtGo_eq, if_pos rfl] at this
        exact this
      go_wp2
      go_ret
      exact ⟨by rw [HM.out, ← HE.out]; rfl, gr⟩
end Go.Proofs.YtpdcgjkfilohcabGreat

namespace Go.Proofs.YtpdcgjkfilohcabGreat
open Go.RowKit
attribute [local go_sem ↓] Go.wp_at_zero Go.wp_at_succ

theorem grown_self {r c : Nat} {w : World} (v : Value) : w.grownBy (w.setCell ⟨r, c, none⟩ v) (some r) := but_own v
theorem grown_of_refl (q : Nat) (w : World) : w.grownBy w (some q) := ⟨rfl, rfl, rfl, Nat.le_refl _, fun _ _ _ => rfl⟩
theorem put6_grown (w : World) (g o : Nat) (b : Bx) : w.grownBy (put6 w g o b) (some g) :=
  grown_trans (grown_trans (grown_trans (grown_trans (grown_trans (grown_self _) (grown_self _)) (grown_self _)) (grown_self _)) (grown_self _)) (grown_self _)

set_option maxRecDepth 100000 in
set_option maxHeartbeats 2000000 in
theorem markBoxS_own (q n cap : Nat) (k : Int) (w : World) (hr : ∀ j, j < n → Room w q (j * 6)) (hq : q < w.heap.size) (hn : n ≤ 1048576) (h0 : 0 ≤ k) (h1 : k ≤ 10000000000000) :
    Calls Tryz.prog 40 #[.slice (some ⟨q, 0, none⟩) n cap, .int .i64 k] w fun e w' => e = .returned (.int .i64 (k + 6 * n)) ∧ w.grownBy w' (some q) ∧ (∀ j, j < n → Room w' q (j * 6)) ∧ (∀ j, j < n → Six w' q (j * 6) (markBx (k + 6 * j))) := by
  go_enter Tryz.func40, Tryz.ntmps40
  go_wp2
  go_loopw [1, 5] (fun x i wr => ∃ j : Nat, j ≤ n ∧ i = .int .i64 j ∧ x = .int .i64 (k + 6 * j) ∧ Hid (w.grownBy wr (some q)) ∧ Hid (∀ m, m < n → Room wr q (m * 6)) ∧ Hid (∀ m, m < j → Six wr q (m * 6) (markBx (k + 6 * m)))) (fun _ i _ => n - (intOf i).toNat)
  case atStart => exact ⟨0, Nat.zero_le _, rfl, by simp, grown_of_refl q w, hr, by intro m hm; omega⟩
  case round =>
    obtain ⟨j, hj, rfl, rfl, HG, HR, HX⟩ := hrel
    by_cases hjl : j < n
    · have hro := HR.out j hjl
      have hgr : q < wr.heap.size := Nat.lt_of_lt_of_le hq HG.out.size
      obtain ⟨K, hK⟩ : ∃ K : Int, K = k + 6 * j := ⟨_, rfl⟩
      have k0 : 0 ≤ K := by omega
      have k1 : K ≤ 100000000000000 := by omega
      rw [← hK]
      have HKe : Hid (K = k + 6 * j) := hK
      have HR2 : Hid (w.grownBy (put6 wr q (j * 6) (markBx K)) (some q) ∧ (∀ m, m < n → Room (put6 wr q (j * 6) (markBx K)) q (m * 6)) ∧ ∀ m, m < j + 1 → Six (put6 wr q (j * 6) (markBx K)) q (m * 6) (markBx (k + 6 * m))) := by
        refine ⟨grown_trans HG.out (put6_grown _ _ _ _), fun m hm => put6_room _ (HR.out m hm), fun m hm => ?_⟩
        by_cases e : m = j
        · subst e; rw [← hK]; exact put6_six _ hro
        · exact put6_other _ _ (HX.out m (by omega)) (by omega)
      obtain ⟨⟨⟨u0, r0⟩, f0⟩, ⟨⟨u1, r1⟩, f1⟩, ⟨⟨u2, r2⟩, f2⟩, ⟨⟨u3, r3⟩, f3⟩, ⟨⟨u4, r4⟩, f4⟩, ⟨⟨u5, r5⟩, f5⟩⟩ := hro
      clear hK HG HR HX
      go_wp2
      go_roundw
      case rel => exact ⟨j + 1, by omega, by go_num, congrArg (Value.int .i64) (by have := HKe.out; omega), HR2.out.1, HR2.out.2.1, HR2.out.2.2⟩
      case measure => simp [intOf]; omega
    · have e : j = n := by omega
      subst e
      go_wp2
      go_ret
      exact ⟨rfl, HG.out, HR.out, HX.out⟩
set_option maxHeartbeats 400000 in
theorem markBoxS_zero (a : Option Addr) (cap : Nat) (k : Int) (w : World) : Calls Tryz.prog 40 #[.slice a 0 cap, .int .i64 k] w fun e w' => e = .returned (.int .i64 k) ∧ w' = w := by
  go_enter Tryz.func40, Tryz.ntmps40
  go_wp2
  go_loop [1, 5] (fun x i => x = .int .i64 k ∧ i = .int .i64 0) (fun _ _ => 0)
  case atStart => exact ⟨rfl, rfl⟩
  case round =>
    obtain ⟨rfl, rfl⟩ := hrel
    go_wp2
    go_ret
    exact ⟨rfl, rfl⟩

/-- A list of boxes of marks. -/
def markBs (k : Int) (n : Nat) : List Bx := (List.range n).map fun (j : Nat) => markBx (k + 6 * (j : Int))
theorem markBs_len (k : Int) (n : Nat) : (markBs k n).length = n := by simp [markBs]
theorem markBs_get (k : Int) (n j : Nat) (hj : j < n) : (markBs k n).getD j Bx.nil = markBx (k + 6 * j) := by
  rw [List.getD_eq_getElem?_getD, List.getElem?_eq_getElem (by rw [markBs_len]; exact hj)]
  simp [markBs]
def markT (k : Int) (t : Tb) : Tb := ⟨mtx k, t.a, t.cap, markBs (k + 1) t.bs.length⟩
def nextK (k : Int) (t : Tb) : Int := k + 1 + 6 * t.bs.length
def markL : Int → List Tb → List Tb
  | _, [] => []
  | k, t :: ts => markT k t :: markL (nextK k t) ts
def endK : Int → List Tb → Int
  | k, [] => k
  | k, t :: ts => endK (nextK k t) ts
theorem markL_len : ∀ (k : Int) (us : List Tb), (markL k us).length = us.length
  | _, [] => rfl
  | k, t :: ts => by simp [markL, markL_len]
theorem markL_snoc : ∀ (k : Int) (us : List Tb) (t : Tb), markL k (us ++ [t]) = markL k us ++ [markT (endK k us) t]
  | _, [], _ => rfl
  | k, u :: us, t => by simp [markL, endK, markL_snoc]
theorem endK_snoc : ∀ (k : Int) (us : List Tb) (t : Tb), endK k (us ++ [t]) = nextK (endK k us) t
  | _, [], _ => rfl
  | k, u :: us, t => by simp [endK, endK_snoc]
theorem endK_le : ∀ (k : Int) (us : List Tb), (∀ t ∈ us, t.bs.length ≤ 1048576) → k ≤ endK k us ∧ endK k us ≤ k + us.length * 6291457
  | k, [], _ => by simp [endK]
  | k, t :: ts, h => by
    have ih := endK_le (nextK k t) ts (fun u hu => h u (List.mem_cons_of_mem _ hu))
    have h1 := h t (List.mem_cons_self ..)
    simp only [endK, nextK, List.length_cons] at *
    omega
/-- Outside of some blocks all is as it was. -/
def RM (lo hi : Nat) (w w' : World) : Prop := w'.os = w.os ∧ w'.tape = w.tape ∧ w'.output = w.output ∧ w.heap.size ≤ w'.heap.size ∧ ∀ k, k < w.heap.size → (k < lo ∨ hi ≤ k) → w'.heap[k]? = w.heap[k]?
theorem RM.trans {lo hi : Nat} {a b c : World} (h : RM lo hi a b) (k : RM lo hi b c) : RM lo hi a c :=
  ⟨k.1.trans h.1, k.2.1.trans h.2.1, k.2.2.1.trans h.2.2.1, Nat.le_trans h.2.2.2.1 k.2.2.2.1, fun i hi ho => (k.2.2.2.2 i (Nat.lt_of_lt_of_le hi h.2.2.2.1) ho).trans (h.2.2.2.2 i hi ho)⟩
theorem rm_gr {lo hi : Nat} {w w' : World} (g : Gr w w') : RM lo hi w w' := ⟨Below.os g, Below.tape g, Below.output g, Below.size g, fun k hk _ => Below.block g k hk⟩
theorem rm_grown {lo hi q : Nat} {w w' : World} (g : w.grownBy w' (some q)) (h1 : lo ≤ q) (h2 : q < hi) : RM lo hi w w' := ⟨g.os, g.tape, g.output, g.size, fun k hk ho => g.block k hk (by simp; omega)⟩
def BelowHi (hi : Nat) (v : Value) (us : List Tb) : Prop := (∀ q, v.ownBlock = some q → q < hi) ∧ ∀ t ∈ us, ∀ q, t.blk = some q → q < hi
end Go.Proofs.YtpdcgjkfilohcabGreat

namespace Go.Proofs.YtpdcgjkfilohcabGreat
open Go.RowKit
attribute [local go_sem ↓] Go.wp_at_zero Go.wp_at_succ

/-- One tube of a list in another one's place, the boxes in the same block. -/
theorem ownT_turn {lo p : Nat} {w w1 w2 : World} {g cap : Nat} {A C : List Tb} {t t' : Tb} (h : OwnT lo w (.slice (some ⟨g, 0, none⟩) (A ++ t :: C).length cap) (A ++ t :: C)) (hp : A.length = p) (hb : t'.blk = t.blk)
    (hw1 : w1 = w.setCell ⟨g, p * 2, none⟩ (.string t'.s)) (hg : w1.grownBy w2 t.blk) (hv : (Value.slice t'.a t'.bs.length t'.cap) = .slice t.a t.bs.length t.cap) (hI : InT lo w2 t') :
    OwnT lo w2 (.slice (some ⟨g, 0, none⟩) (A ++ t' :: C).length cap) (A ++ t' :: C) ∧ w.grownBy w1 (some g) := by
  obtain ⟨h1, h2, h3, h4⟩ := h
  have s1 := h1.stored (p * 2) (.string t'.s)
  rw [← hw1] at s1
  have hlen : (A ++ t' :: C).length = (A ++ t :: C).length := by simp
  have hfl : (flatT (A ++ t :: C)).set (p * 2) (.string t'.s) = flatT (A ++ t' :: C) := by
    rw [flatT_app, flatT_app]
    have e1 : flatT (t :: C) = Value.string t.s :: Value.slice t.a t.bs.length t.cap :: flatT C := rfl
    have e2 : flatT (t' :: C) = Value.string t'.s :: Value.slice t'.a t'.bs.length t'.cap :: flatT C := rfl
    rw [e1, e2, hv, List.set_append, if_neg (by rw [flatT_len]; omega), flatT_len, hp, Nat.sub_self, List.set_cons_zero]
  rw [hfl] at s1
  have htm : t ∈ A ++ t :: C := by simp
  have hother : ∀ u ∈ A ++ t' :: C, u = t' ∨ (u ∈ A ++ t :: C ∧ (u.blk = none ∨ u.blk ≠ t.blk)) := fun u hu => by
    simp only [List.mem_append, List.mem_cons] at hu
    rcases hu with hu | rfl | hu
    · refine Or.inr ⟨by simp [hu], ?_⟩
      rw [List.pairwise_append] at h3
      rcases hub : u.blk with _ | q
      · exact Or.inl rfl
      · refine Or.inr (fun e => ?_)
        exact h3.2.2 u hu t (by simp) q hub e.symm
    · exact Or.inl rfl
    · refine Or.inr ⟨by simp [hu], ?_⟩
      rw [List.pairwise_append, List.pairwise_cons] at h3
      rcases hub : u.blk with _ | q
      · exact Or.inl rfl
      · refine Or.inr (fun e => ?_)
        exact h3.2.1.1 u hu q e.symm hub
  have hne : ∀ u ∈ A ++ t' :: C, ∀ q, u.blk = some q → (Value.slice (some ⟨g, 0, none⟩) (A ++ t :: C).length cap).ownBlock ≠ some q := fun u hu q e => by
    rcases hother u hu with rfl | ⟨hu', -⟩
    · exact h4 t htm q (by rw [← hb]; exact e)
    · exact h4 u hu' q e
  refine ⟨⟨?_, fun u hu => ?_, ?_, ?_⟩, s1.2⟩
  · rw [hlen]
    refine s1.1.kept hg ?_
    rcases htb : t.blk with _ | q
    · exact Or.inr (by simp [Value.ownBlock])
    · exact Or.inr (h4 t htm q htb)
  · rcases hother u hu with rfl | ⟨hu', ho⟩
    · exact hI
    · refine inT_grown (inT_grown (h2 u hu') s1.2 (fun q e e' => ?_)) hg (fun q e e' => ?_)
      · exact h4 u hu' q e (by rw [← e']; rfl)
      · rcases ho with ho | ho
        · rw [ho] at e; cases e
        · exact ho (by rw [e, e'])
  · rw [List.pairwise_append, List.pairwise_cons] at h3 ⊢
    refine ⟨h3.1, ⟨fun u hu q e => h3.2.1.1 u hu q (by rw [← hb]; exact e), h3.2.1.2⟩, fun x hx y hy => ?_⟩
    simp only [List.mem_cons] at hy
    rcases hy with rfl | hy
    · intro q e e'
      exact h3.2.2 x hx t (by simp) q e (by rw [← hb]; exact e')
    · exact h3.2.2 x hx y (by simp [hy])
  · intro u hu q e
    rw [hlen]
    exact hne u hu q e
end Go.Proofs.YtpdcgjkfilohcabGreat
