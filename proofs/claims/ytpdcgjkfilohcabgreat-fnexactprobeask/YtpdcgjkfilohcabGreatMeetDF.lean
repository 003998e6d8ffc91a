import Derived.RangeFuncNested
import Derived.RangeFuncWrites
import Derived.RangeFuncBound
import Derived.RangeFuncCalls
import Derived.RangeFuncLeaves
import Derived.Shelf.Abstract
import Derived.WalkKit
import Derived.OwnWalkIn
import Derived.TacticsInMore
import Derived.LoopNIn
import Derived.LoopIn
import Derived.Test.YtpdcgjkfilohcabGreatMeetAB
namespace Go.Proofs.YtpdcgjkfilohcabGreat
open Go.RowKit
attribute [local go_sem ↓] Go.wp_at_zero Go.wp_at_succ

/-- The pairs of places of a row, and of all rows ahead of one. -/
def rowP (i : Nat) : Nat → List (Nat × Nat)
  | 0 => []
  | j + 1 => rowP i j ++ [(i, j)]
def allP (m : Nat) : Nat → List (Nat × Nat)
  | 0 => []
  | i + 1 => allP m i ++ rowP i m
def foldP (cs bs : List Bx) (pre : List (Nat × Nat)) : Option (Int × Nat × Nat) := pre.foldl (fun st p => meetStep cs bs p.1 p.2 st) none
theorem foldP_snoc (cs bs : List Bx) (pre : List (Nat × Nat)) (p : Nat × Nat) : foldP cs bs (pre ++ [p]) = meetStep cs bs p.1 p.2 (foldP cs bs pre) := by simp [foldP]
theorem fold_row (cs bs : List Bx) (i : Nat) (st : Option (Int × Nat × Nat)) : ∀ j, (rowP i j).foldl (fun st p => meetStep cs bs p.1 p.2 st) st = meetRow cs bs i st j
  | 0 => rfl
  | j + 1 => by simp [rowP, meetRow, fold_row cs bs i st j]
theorem foldP_all (cs bs : List Bx) : ∀ i, foldP cs bs (allP bs.length i) = meetAll cs bs i
  | 0 => rfl
  | i + 1 => by
    have h := foldP_all cs bs i
    unfold foldP at *
    rw [allP, List.foldl_append, h, fold_row]; rfl
theorem rowP_in {i m : Nat} {p : Nat × Nat} : ∀ {j}, j ≤ m → p ∈ rowP i j → p.1 = i ∧ p.2 < m
  | 0, _, h => by simp [rowP] at h
  | j + 1, hj, h => by
    simp only [rowP, List.mem_append, List.mem_singleton] at h
    rcases h with h | rfl
    · exact rowP_in (by omega) h
    · exact ⟨rfl, by show j < m; omega⟩
theorem allP_in {m : Nat} {p : Nat × Nat} : ∀ {n}, p ∈ allP m n → p.1 < n ∧ p.2 < m
  | 0, h => by simp [allP] at h
  | n + 1, h => by
    simp only [allP, List.mem_append] at h
    rcases h with h | h
    · have := allP_in h; omega
    · have := rowP_in (Nat.le_refl m) h; omega
theorem rowP_pre (i : Nat) {m : Nat} : ∀ {j}, j ≤ m → rowP i j <+: rowP i m := by
  induction m with
  | zero => intro j h; obtain rfl : j = 0 := (by omega); exact List.prefix_refl _
  | succ m ih =>
    intro j h
    by_cases e : j = m + 1
    · subst e; exact List.prefix_refl _
    · exact (ih (by omega)).trans (List.prefix_append _ _)
theorem allP_pre (m : Nat) {n : Nat} : ∀ {i}, i ≤ n → allP m i <+: allP m n := by
  induction n with
  | zero => intro i h; obtain rfl : i = 0 := (by omega); exact List.prefix_refl _
  | succ n ih =>
    intro i h
    by_cases e : i = n + 1
    · subst e; exact List.prefix_refl _
    · exact (ih (by omega)).trans (List.prefix_append _ _)
theorem part_pre {m n i j : Nat} (hi : i < n) (hj : j ≤ m) : allP m i ++ rowP i j <+: allP m n := by
  refine List.IsPrefix.trans ?_ (allP_pre m (i := i + 1) hi)
  rw [allP]
  obtain ⟨t, ht⟩ := rowP_pre i hj
  exact ⟨t, by rw [List.append_assoc, ht]⟩
theorem part_lt {m n i j : Nat} (hi : i < n) (hj : j < m) : (allP m i ++ rowP i j).length < (allP m n).length := by
  have := (part_pre (j := j + 1) hi hj).length_le
  simp [rowP] at this ⊢
  omega

/-- The first tick of any of the first k boxes. -/
def beginTo (bs : List Bx) : Nat → Int
  | 0 => 10000
  | k + 1 => if (bs.getD k Bx.nil).i < beginTo bs k then (bs.getD k Bx.nil).i else beginTo bs k
theorem beginTo_le (bs : List Bx) {k : Nat} : ∀ {n}, k < n → beginTo bs n ≤ (bs.getD k Bx.nil).i
  | 0, h => by omega
  | n + 1, h => by
    rw [beginTo]
    by_cases e : k = n
    · subst e; split <;> omega
    · have := beginTo_le bs (k := k) (n := n) (by omega); split <;> omega
/-- The soonest tick that two tubes allow. -/
def soonT (cs bs : List Bx) : Int := if beginTo cs cs.length < beginTo bs bs.length then beginTo bs bs.length else beginTo cs cs.length
theorem soon_le {cs bs : List Bx} {i j : Nat} (hi : i < cs.length) (hj : j < bs.length) (h : closeB (cs.getD i Bx.nil) (bs.getD j Bx.nil) = true) : soonT cs bs ≤ closeT (cs.getD i Bx.nil) (bs.getD j Bx.nil) := by
  have h1 := beginTo_le cs hi
  have h2 := beginTo_le bs hj
  unfold soonT closeT
  rw [if_pos h]
  split <;> split <;> omega
theorem fold_stay {cs bs : List Bx} {T : Int} {i j : Nat} (hT : T = soonT cs bs) : ∀ (rest : List (Nat × Nat)), (∀ p ∈ rest, p.1 < cs.length ∧ p.2 < bs.length) → rest.foldl (fun st p => meetStep cs bs p.1 p.2 st) (some (T, i, j)) = some (T, i, j)
  | [], _ => rfl
  | p :: rest, h => by
    have hs : meetStep cs bs p.1 p.2 (some (T, i, j)) = some (T, i, j) := by
      cases hc : closeB (cs.getD p.1 Bx.nil) (bs.getD p.2 Bx.nil)
      · exact step_far hc
      · have hp := h p (by simp)
        have := soon_le hp.1 hp.2 hc
        exact step_more hc (by omega)
    rw [List.foldl_cons, hs]
    exact fold_stay hT rest (fun q hq => h q (by simp [hq]))
theorem fold_stop {cs bs : List Bx} {pre : List (Nat × Nat)} {i j : Nat} (hp : pre <+: allP bs.length cs.length) (h : foldP cs bs pre = some (soonT cs bs, i, j)) : meetAll cs bs cs.length = some (soonT cs bs, i, j) := by
  obtain ⟨t, ht⟩ := hp
  rw [← foldP_all, ← ht]
  unfold foldP at *
  rw [List.foldl_append, h]
  refine fold_stay rfl t (fun p hp => ?_)
  exact allP_in (m := bs.length) (n := cs.length) (by rw [← ht]; simp [hp])

set_option maxRecDepth 100000 in
set_option maxHeartbeats 2000000 in
theorem begin_any (a : Option Addr) (cap : Nat) (bs : List Bx) (w : World) (ha : Boxes w a bs) (hn : bs.length ≤ 40) :
    Calls Tryz.prog 156 #[.slice a bs.length cap] w fun e w' => e = .returned (.int .i64 (beginTo bs bs.length)) ∧ Gr w w' := by
  go_enter Tryz.func156, Tryz.ntmps156
  go_wp2
  go_loopw [3, 8] (fun f i wr => ∃ k : Nat, k ≤ bs.length ∧ i = .int .i64 k ∧ f = .int .i64 (beginTo bs k) ∧ Gr w wr) (fun _ i _ => bs.length - (intOf i).toNat)
  case atStart => exact ⟨0, Nat.zero_le _, rfl, rfl, Gr.refl _⟩
  case round =>
    obtain ⟨k, hk, rfl, rfl, gr⟩ := hrel
    by_cases hkl : k < bs.length
    · obtain ⟨g, o, rfl, hg, hx⟩ := ha k hkl
      have hi0 : (0 : Int) ≤ (k : Int) := by omega
      have hi1 : (k : Int) < (bs.length : Int) := by omega
      have HR : Hid (beginTo bs (k + 1) = if (bs.getD k Bx.nil).i < beginTo bs k then (bs.getD k Bx.nil).i else beginTo bs k) := rfl
      obtain ⟨c0, c1, c2, c3, c4, c5⟩ := six_gr hx gr hg
      clear hx
      generalize bs.getD k Bx.nil = b at *
      generalize beginTo bs k = m at *
      by_cases hm : b.i < m
      · go_wp2
        go_roundw
        case rel => exact ⟨k + 1, by omega, by go_num, by rw [HR.out, if_pos hm], gr.alloc _⟩
        case measure => simp [intOf]; omega
      · go_wp2
        go_roundw
        case rel => exact ⟨k + 1, by omega, by go_num, by rw [HR.out, if_neg hm], gr.alloc _⟩
        case measure => simp [intOf]; omega
    · obtain rfl : k = bs.length := by omega
      go_wp2
      go_ret
      exact ⟨rfl, gr⟩

set_option maxHeartbeats 400000 in
theorem pairsWith_any (u v : Value) (w : World) (hu : ∃ a n c, u = .slice a n c) (hv : ∃ a n c, v = .slice a n c) :
    Calls Tryz.prog 157 #[u, v] w fun e w' => e = .returned (.func (.func 170) #[] #[.pointer (some ⟨w.heap.size, 0, none⟩), .pointer (some ⟨w.heap.size + 1, 0, none⟩)]) ∧ w' = (w.alloc (.cells #[u] 132)).alloc (.cells #[v] 132) := by
  obtain ⟨a, n, c, rfl⟩ := hu
  obtain ⟨a', n', c', rfl⟩ := hv
  go_enter Tryz.func157, Tryz.ntmps157
  go_wp2
  go_ret
  exact ⟨rfl, rfl⟩
end Go.Proofs.YtpdcgjkfilohcabGreat

namespace Go.Proofs.YtpdcgjkfilohcabGreat
open Go.RowKit
attribute [local go_sem] Oper.semAt_some

/-- The places of a pair, within bounds. -/
abbrev Prs (n m : Nat) := { p : Nat × Nat // p.1 < n ∧ p.2 < m }
abbrev encP {n m : Nat} (x : Prs n m) : Array Value := #[.int .i64 (x.1.1 : Int), .int .i64 (x.1.2 : Int)]
/-- What a round keeps of what the iterator reads. -/
def KeepAt (b : Nat) (W W' : World) : Prop := W'.cell? ⟨b, 0, none⟩ = W.cell? ⟨b, 0, none⟩

set_option maxRecDepth 100000 in
set_option maxHeartbeats 2000000 in
theorem pairs_in (F : Fence) (k : Nat) (hF : F.fn 170) (hro : F.round = none) (hk : 1 ≤ k) (n m : Nat) (hn : n ≤ 40) (hm : m ≤ 40) (l Bl Bo : Nat) (a a' : Option Addr) (cap cap' : Nat) (J Jx : List (Prs n m) → World → Prop)
    (hY : ∀ pre x W, J pre W → pre.length < (allP m n).length → YieldAt F (k - 1) Tryz.prog l (encP x) W fun e W' =>
      (e = .returned (.bool true) ∧ J (pre ++ [x]) W' ∧ KeepAt Bo W W') ∨ (e = .returned (.bool false) ∧ Jx (pre ++ [x]) W'))
    (W : World) (hl : W.cell? ⟨Bl, 0, none⟩ = some (.slice a n cap)) (ho : W.cell? ⟨Bo, 0, none⟩ = some (.slice a' m cap')) (h0 : J [] W) :
    CallsIn F k Tryz.prog 170 #[.func (.yield l) #[] #[], .pointer (some ⟨Bl, 0, none⟩), .pointer (some ⟨Bo, 0, none⟩)] W fun e W' => (∃ v, e = .returned v) ∧
      ((∃ xs, xs.map (·.1) = allP m n ∧ J xs W') ∨ (∃ pre, pre.map (·.1) <+: allP m n ∧ Jx pre W')) := by
  refine callsIn_of_wp Tryz.func170 rfl hF ?_ hro
  simp only [Tryz.ntmps170, List.size_toArray, List.length_cons, List.length_nil, Nat.reduceAdd, Nat.reduceSub, Array.replicate_succ, Array.replicate_zero, List.push_toArray, List.append_toArray, List.nil_append, List.cons_append]
  gi_wp2
  gi_loopw [8] (fun i wr => ∃ (q : Nat) (pre : List (Prs n m)), q ≤ n ∧ i = .int .i64 q ∧ pre.map (·.1) = allP m q ∧ J pre wr ∧ wr.cell? ⟨Bo, 0, none⟩ = some (.slice a' m cap')) (fun i _ => n - (intOf i).toNat)
  case atStart => exact ⟨0, [], Nat.zero_le _, rfl, rfl, h0, ho⟩
  case round =>
    obtain ⟨q, pre, hq, rfl, hp, hJs, hc⟩ := hrel
    by_cases hql : q < n
    · gi_wp2
      gi_loopw [13] (fun j wq => ∃ (r : Nat) (pre : List (Prs n m)), r ≤ m ∧ j = .int .i64 r ∧ pre.map (·.1) = allP m q ++ rowP q r ∧ J pre wq ∧ wq.cell? ⟨Bo, 0, none⟩ = some (.slice a' m cap')) (fun j _ => m - (intOf j).toNat)
      case atStart => exact ⟨0, pre, Nat.zero_le _, rfl, by simp [hp, rowP], hJs, hc⟩
      case round =>
        obtain ⟨r, pr, hr, rfl, hp', hJ', hc'⟩ := hrel
        by_cases hrl : r < m
        · have hlen : pr.length < (allP m n).length := by
            have := part_lt hql hrl
            rw [← hp'] at this
            simpa using this
          obtain ⟨fn, tmps, assign, body, hy, hR⟩ := hY pr ⟨(q, r), hql, hrl⟩ wr hJ' hlen
          dsimp only [encP] at hy
          gi_wp2
          refine hR.mono ?_
          rintro e W3 (⟨rfl, hJ3, hk3⟩ | ⟨rfl, hJx3⟩)
          · gi_wp2
            go_roundw
            case rel => exact ⟨r + 1, pr ++ [⟨(q, r), hql, hrl⟩], by omega, by go_num, by simp [hp', rowP], hJ3, hk3.trans hc'⟩
            case measure => simp [intOf]; omega
          · gi_wp2
            refine bodyPost_ret (results_none rfl _ _ _) rfl ?_
            exact ⟨⟨_, rfl⟩, .inr ⟨pr ++ [⟨(q, r), hql, hrl⟩], by have := part_pre (n := n) hql (j := r + 1) hrl; simpa [hp', rowP] using this, hJx3⟩⟩
        · have hrm : r = m := by omega
          subst hrm
          gi_wp2
          go_roundw
          case rel => exact ⟨q + 1, pr, by omega, by go_num, by simp [hp', allP], hJ', hc'⟩
          case measure => simp [intOf]; omega
    · have hqn : q = n := by omega
      subst hqn
      gi_wp2
      go_end0
      exact ⟨⟨_, rfl⟩, .inl ⟨pre, hp, hJs⟩⟩

theorem pairs_stops (F : Fence) (k : Nat) (hF : F.fn 170) (hro : F.round = none) (hk : 1 ≤ k) (n m : Nat) (hn : n ≤ 40) (hm : m ≤ 40) (Bl Bo : Nat) (a a' : Option Addr) (cap cap' : Nat) (w : World) (hBl : Bl < w.heap.size) (hBo : Bo < w.heap.size)
    (hl : w.cell? ⟨Bl, 0, none⟩ = some (.slice a n cap)) (ho : w.cell? ⟨Bo, 0, none⟩ = some (.slice a' m cap')) :
    SeqStopsK F k Tryz.prog 170 #[.pointer (some ⟨Bl, 0, none⟩), .pointer (some ⟨Bo, 0, none⟩)] (encP (n := n) (m := m)) (KeepAt Bo) (fun xs => xs.map (·.1) = allP m n) (fun pre => pre.map (·.1) <+: allP m n) (allP m n).length w :=
  fun l J Jx W hW _ _ hY h0 => pairs_in F k hF hro hk n m hn hm l Bl Bo a a' cap cap' J Jx hY W ((hW.cell hBl).trans hl) ((hW.cell hBo).trans ho) h0
end Go.Proofs.YtpdcgjkfilohcabGreat

namespace Go.Proofs.YtpdcgjkfilohcabGreat
open Go.RowKit

/-- In a round an operation that is no 'defer' goes as everywhere. -/
theorem oper_round {P : Program} {o : Oper} {a : Act} {w : World} {K : Act → World → Prop} {Q : Exit → Act → World → Prop} (l n : Nat) (hd : ∀ c, o.op ≠ .defer c) (h : o.wp P a w K Q) : o.wpIn (Fence.wide.inRound l) n P a w K Q := by
  unfold Oper.wp at h
  refine ⟨fun _ _ => trivial, ?_⟩
  rw [Oper.semAt_eq _ _ _ hd]
  generalize (execOp a.eval o).run P w = r at *
  cases r with
  | ok x w' =>
    cases x <;> simp only [Oper.upon, Oper.uponIn] at h ⊢
    case value => exact h
    case skip => exact h
    case defer => exact h
    case enter => exact ⟨fun h => (by cases h), CallsIn.inRound l (callsIn_wide.2 h)⟩
    case row => exact ⟨fun h => (by cases h), fun c cs _ => let ⟨v, w', r, s⟩ := h c cs; ⟨v, w', r, stepsIn_wide.2 s⟩⟩
  | halt x w' => cases x <;> simp only [Oper.upon, Oper.uponIn] at h ⊢ <;> exact h

/-- No operation of a region is a 'defer'. -/
def noDefer (ops : Array Oper) : Bool := ops.all fun o => match o.op with | .defer _ => false | _ => true
theorem noDefer_at {ops : Array Oper} (h : noDefer ops = true) {i : Nat} {o : Oper} (hi : ops[i]? = some o) : ∀ c, o.op ≠ .defer c := by
  intro c hc
  obtain ⟨hlt, rfl⟩ := Array.getElem?_eq_some_iff.1 hi
  have := (Array.all_eq_true.1 h) i hlt
  rw [hc] at this
  cases this

theorem any_round {P : Program} {ops : Array Oper} {Q : Exit → Act → World → Prop} {md : Region.Mode} (l n : Nat) (hd : noDefer ops = true) (hL : ¬ LetsOut Q) :
    ∀ (fuel : Nat) (listed : Array Bool) (a : Act) (w : World), wpAny P md ops Q fuel listed a w → wpAnyIn (Fence.wide.inRound l) n P md ops Q fuel listed a w
  | 0, _, _, _, h => h
  | fuel + 1, listed, a, w, h => ⟨h.1, fun i hi => by
      have h2 := h.2 i hi
      unfold wpOp at h2
      unfold wpOpIn
      cases ho : ops[i]? with
      | none =>
        simp only [ho] at h2
        exact any_round l n hd hL fuel _ _ _ h2
      | some o =>
        simp only [ho] at h2
        by_cases hw : Region.wanted o (yielded ops a.tmps) = true
        · simp only [hw, if_true] at h2 ⊢
          rcases h2 with h2 | ⟨_, h2⟩
          · exact Oper.wpIn_mono (fun a w h => any_round l n hd hL fuel _ a w h) (oper_round l n (noDefer_at hd ho) h2)
          · exact absurd h2 hL
        · simp only [hw] at h2 ⊢
          exact ⟨fun _ _ => trivial, any_round l n hd hL fuel _ _ _ h2⟩⟩

/-- **A region that draws, in a round: by the laws of a region that draws alone.** -/
theorem region_round {P : Program} {id : Nat} {ops : Array Oper} {Q : Exit → Act → World → Prop} {S : World → Prop} {a : Act} {w : World} {l n : Nat} (hm : P.follows .mixedOrders = true) (hd : noDefer ops = true) (hL : ¬ LetsOut Q)
    (h : wpAnyH P .any ops Q S ops.size (Array.replicate ops.size false) a w.drew) : (Code.region id ops true).wpIn (Fence.wide.inRound l) n P Q a w :=
  wpIn_region_any hm (any_round l n hd hL _ _ _ _ (wpAny_of_held _ _ _ _ h))

theorem takeH {P : Program} {md : Region.Mode} {ops : Array Oper} {Q : Exit → Act → World → Prop} {S : World → Prop} {i d : Nat} {oi : Oper} {v : Value} {fuel : Nat} {listed : Array Bool} {a : Act} {w : World} (hi : ops[i]? = some oi) (hd : oi.dst = some d)
    (hs : Region.noSelect ops = true) (hf : Region.free md ops listed i = true) (hr : (Region.ready md ops listed).contains i = true)
    (hQ : ∀ c a w, Q (.panic c) (a.put oi.dst v) w → Q (.panic c) a w) (hS : S w) (hy : YieldsIf P ops S oi v a)
    (h : wpAnyH P md ops Q S fuel (listed.setIfInBounds i true) (a.put (some d) v) w) : wpAnyH P md ops Q S (fuel + 1) listed a w :=
  wpAnyH_take hi hs hf hr hQ hy hS (by rw [hd]; exact h)
end Go.Proofs.YtpdcgjkfilohcabGreat
