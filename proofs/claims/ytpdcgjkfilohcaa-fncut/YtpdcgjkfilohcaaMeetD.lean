import Derived.RangeFuncNested
import Derived.RangeFuncWrites
import Derived.RangeFuncBound
import Derived.RangeFuncCalls
import Derived.RangeFuncLeaves
import Derived.Shelf.Abstract
import Derived.WalkKit
import Derived.OwnWalkIn
import Derived.TacticsInMore
import Derived.LoopNIn
import Derived.LoopIn
import Derived.Test.YtpdcgjkfilohcaaMeetB
namespace Go.Proofs.Ytpdcgjkfilohcaa
open Go.RowKit
attribute [local go_sem ↓] Go.wp_at_zero Go.wp_at_succ

/-- The pairs of places of a row, and of all rows ahead of one. -/
def rowP (i : Nat) : Nat → List (Nat × Nat)
  | 0 => []
  | j + 1 => rowP i j ++ [(i, j)]
def allP (m : Nat) : Nat → List (Nat × Nat)
  | 0 => []
  | i + 1 => allP m i ++ rowP i m
def foldP (cs bs : List Bx) (pre : List (Nat × Nat)) : Option (Int × Nat × Nat) := pre.foldl (fun st p => meetStep cs bs p.1 p.2 st) none
theorem foldP_snoc (cs bs : List Bx) (pre : List (Nat × Nat)) (p : Nat × Nat) : foldP cs bs (pre ++ [p]) = meetStep cs bs p.1 p.2 (foldP cs bs pre) := by simp [foldP]
theorem fold_row (cs bs : List Bx) (i : Nat) (st : Option (Int × Nat × Nat)) : ∀ j, (rowP i j).foldl (fun st p => meetStep cs bs p.1 p.2 st) st = meetRow cs bs i st j
  | 0 => rfl
  | j + 1 => by simp [rowP, meetRow, fold_row cs bs i st j]
theorem foldP_all (cs bs : List Bx) : ∀ i, foldP cs bs (allP bs.length i) = meetAll cs bs i
  | 0 => rfl
  | i + 1 => by
    have h := foldP_all cs bs i
    unfold foldP at *
    rw [allP, List.foldl_append, h, fold_row]; rfl
theorem rowP_in {i m : Nat} {p : Nat × Nat} : ∀ {j}, j ≤ m → p ∈ rowP i j → p.1 = i ∧ p.2 < m
  | 0, _, h => by simp [rowP] at h
  | j + 1, hj, h => by
    simp only [rowP, List.mem_append, List.mem_singleton] at h
    rcases h with h | rfl
    · exact rowP_in (by omega) h
    · exact ⟨rfl, by show j < m; omega⟩
theorem allP_in {m : Nat} {p : Nat × Nat} : ∀ {n}, p ∈ allP m n → p.1 < n ∧ p.2 < m
  | 0, h => by simp [allP] at h
  | n + 1, h => by
    simp only [allP, List.mem_append] at h
    rcases h with h | h
    · have := allP_in h; omega
    · have := rowP_in (Nat.le_refl m) h; omega
theorem rowP_pre (i : Nat) {m : Nat} : ∀ {j}, j ≤ m → rowP i j <+: rowP i m := by
  induction m with
  | zero => intro j h; obtain rfl : j = 0 := (by omega); exact List.prefix_refl _
  | succ m ih =>
    intro j h
    by_cases e : j = m + 1
    · subst e; exact List.prefix_refl _
    · exact (ih (by omega)).trans (List.prefix_append _ _)
theorem allP_pre (m : Nat) {n : Nat} : ∀ {i}, i ≤ n → allP m i <+: allP m n := by
  induction n with
  | zero => intro i h; obtain rfl : i = 0 := (by omega); exact List.prefix_refl _
  | succ n ih =>
    intro i h
    by_cases e : i = n + 1
    · subst e; exact List.prefix_refl _
    · exact (ih (by omega)).trans (List.prefix_append _ _)
theorem part_pre {m n i j : Nat} (hi : i < n) (hj : j ≤ m) : allP m i ++ rowP i j <+: allP m n := by
  refine List.IsPrefix.trans ?_ (allP_pre m (i := i + 1) hi)
  rw [allP]
  obtain ⟨t, ht⟩ := rowP_pre i hj
  exact ⟨t, by rw [List.append_assoc, ht]⟩
theorem part_lt {m n i j : Nat} (hi : i < n) (hj : j < m) : (allP m i ++ rowP i j).length < (allP m n).length := by
  have := (part_pre (j := j + 1) hi hj).length_le
  simp [rowP] at this ⊢
  omega

/-- The first tick of any of the first k boxes. -/
def beginTo (bs : List Bx) : Nat → Int
  | 0 => 10000
  | k + 1 => if (bs.getD k Bx.nil).i < beginTo bs k then (bs.getD k Bx.nil).i else beginTo bs k
theorem beginTo_le (bs : List Bx) {k : Nat} : ∀ {n}, k < n → beginTo bs n ≤ (bs.getD k Bx.nil).i
  | 0, h => by omega
  | n + 1, h => by
    rw [beginTo]
    by_cases e : k = n
    · subst e; split <;> omega
    · have := beginTo_le bs (k := k) (n := n) (by omega); split <;> omega
/-- The soonest tick that two tubes allow. -/
def soonT (cs bs : List Bx) : Int := if beginTo cs cs.length < beginTo bs bs.length then beginTo bs bs.length else beginTo cs cs.length
theorem soon_le {cs bs : List Bx} {i j : Nat} (hi : i < cs.length) (hj : j < bs.length) (h : closeB (cs.getD i Bx.nil) (bs.getD j Bx.nil) = true) : soonT cs bs ≤ closeT (cs.getD i Bx.nil) (bs.getD j Bx.nil) := by
  have h1 := beginTo_le cs hi
  have h2 := beginTo_le bs hj
  unfold soonT closeT
  rw [if_pos h]
  split <;> split <;> omega
theorem fold_stay {cs bs : List Bx} {T : Int} {i j : Nat} (hT : T = soonT cs bs) : ∀ (rest : List (Nat × Nat)), (∀ p ∈ rest, p.1 < cs.length ∧ p.2 < bs.length) → rest.foldl (fun st p => meetStep cs bs p.1 p.2 st) (some (T, i, j)) = some (T, i, j)
  | [], _ => rfl
  | p :: rest, h => by
    have hs : meetStep cs bs p.1 p.2 (some (T, i, j)) = some (T, i, j) := by
      cases hc : closeB (cs.getD p.1 Bx.nil) (bs.getD p.2 Bx.nil)
      · exact step_far hc
      · have hp := h p (by simp)
        have := soon_le hp.1 hp.2 hc
        exact step_more hc (by omega)
    rw [List.foldl_cons, hs]
    exact fold_stay hT rest (fun q hq => h q (by simp [hq]))
theorem fold_stop {cs bs : List Bx} {pre : List (Nat × Nat)} {i j : Nat} (hp : pre <+: allP bs.length cs.length) (h : foldP cs bs pre = some (soonT cs bs, i, j)) : meetAll cs bs cs.length = some (soonT cs bs, i, j) := by
  obtain ⟨t, ht⟩ := hp
  rw [← foldP_all, ← ht]
  unfold foldP at *
  rw [List.foldl_append, h]
  refine fold_stay rfl t (fun p hp => ?_)
  exact allP_in (m := bs.length) (n := cs.length) (by rw [← ht]; simp [hp])

set_option maxRecDepth 100000 in
set_option maxHeartbeats 2000000 in
theorem begin_any (a : Option Addr) (cap : Nat) (bs : List Bx) (w : World) (ha : Boxes w a bs) (hn : bs.length ≤ 40) :
    Calls Try.prog 43 #[.slice a bs.length cap] w fun e w' => e = .returned (.int .i64 (beginTo bs bs.length)) ∧ Gr w w' := by
  go_enter Try.func43, Try.ntmps43
  go_wp2
  go_loopw [3, 8] (fun f i wr => ∃ k : Nat, k ≤ bs.length ∧ i = .int .i64 k ∧ f = .int .i64 (beginTo bs k) ∧ Gr w wr) (fun _ i _ => bs.length - (intOf i).toNat)
  case atStart => exact ⟨0, Nat.zero_le _, rfl, rfl, Gr.refl _⟩
  case round =>
    obtain ⟨k, hk, rfl, rfl, gr⟩ := hrel
    by_cases hkl : k < bs.length
    · obtain ⟨g, o, rfl, hg, hx⟩ := ha k hkl
      have hi0 : (0 : Int) ≤ (k : Int) := by omega
      have hi1 : (k : Int) < (bs.length : Int) := by omega
      have HR : Hid (beginTo bs (k + 1) = if (bs.getD k Bx.nil).i < beginTo bs k then (bs.getD k Bx.nil).i else beginTo bs k) := rfl
      obtain ⟨c0, c1, c2, c3, c4, c5⟩ := six_gr hx gr hg
      clear hx
      generalize bs.getD k Bx.nil = b at *
      generalize beginTo bs k = m at *
      by_cases hm : b.i < m
      · go_wp2
        go_roundw
        case rel => exact ⟨k + 1, by omega, by go_num, by rw [HR.out, if_pos hm], gr.alloc _⟩
        case measure => simp [intOf]; omega
      · go_wp2
        go_roundw
        case rel => exact ⟨k + 1, by omega, by go_num, by rw [HR.out, if_neg hm], gr.alloc _⟩
        case measure => simp [intOf]; omega
    · obtain rfl : k = bs.length := by omega
      go_wp2
      go_ret
      exact ⟨rfl, gr⟩

set_option maxHeartbeats 400000 in
theorem pairsWith_any (u v : Value) (w : World) (hu : ∃ a n c, u = .slice a n c) (hv : ∃ a n c, v = .slice a n c) :
    Calls Try.prog 44 #[u, v] w fun e w' => e = .returned (.func (.func 80) #[] #[.pointer (some ⟨w.heap.size, 0, none⟩), .pointer (some ⟨w.heap.size + 1, 0, none⟩)]) ∧ w' = (w.alloc (.cells #[u] 69)).alloc (.cells #[v] 69) := by
  obtain ⟨a, n, c, rfl⟩ := hu
  obtain ⟨a', n', c', rfl⟩ := hv
  go_enter Try.func44, Try.ntmps44
  go_wp2
  go_ret
  exact ⟨rfl, rfl⟩
end Go.Proofs.Ytpdcgjkfilohcaa
