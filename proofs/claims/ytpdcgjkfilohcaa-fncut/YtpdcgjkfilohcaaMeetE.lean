import Derived.Test.YtpdcgjkfilohcaaMeetD
namespace Go.Proofs.Ytpdcgjkfilohcaa
open Go.RowKit
attribute [local go_sem] Oper.semAt_some

/-- The places of a pair, within bounds. -/
abbrev Prs (n m : Nat) := { p : Nat × Nat // p.1 < n ∧ p.2 < m }
abbrev encP {n m : Nat} (x : Prs n m) : Array Value := #[.int .i64 (x.1.1 : Int), .int .i64 (x.1.2 : Int)]
/-- What a round keeps of what the iterator reads. -/
def KeepAt (b : Nat) (W W' : World) : Prop := W'.cell? ⟨b, 0, none⟩ = W.cell? ⟨b, 0, none⟩

set_option maxRecDepth 100000 in
set_option maxHeartbeats 2000000 in
theorem pairs_in (F : Fence) (k : Nat) (hF : F.fn 80) (hro : F.round = none) (hk : 1 ≤ k) (n m : Nat) (hn : n ≤ 40) (hm : m ≤ 40) (l Bl Bo : Nat) (a a' : Option Addr) (cap cap' : Nat) (J Jx : List (Prs n m) → World → Prop)
    (hY : ∀ pre x W, J pre W → pre.length < (allP m n).length → YieldAt F (k - 1) Try.prog l (encP x) W fun e W' =>
      (e = .returned (.bool true) ∧ J (pre ++ [x]) W' ∧ KeepAt Bo W W') ∨ (e = .returned (.bool false) ∧ Jx (pre ++ [x]) W'))
    (W : World) (hl : W.cell? ⟨Bl, 0, none⟩ = some (.slice a n cap)) (ho : W.cell? ⟨Bo, 0, none⟩ = some (.slice a' m cap')) (h0 : J [] W) :
    CallsIn F k Try.prog 80 #[.func (.yield l) #[] #[], .pointer (some ⟨Bl, 0, none⟩), .pointer (some ⟨Bo, 0, none⟩)] W fun e W' => (∃ v, e = .returned v) ∧
      ((∃ xs, xs.map (·.1) = allP m n ∧ J xs W') ∨ (∃ pre, pre.map (·.1) <+: allP m n ∧ Jx pre W')) := by
  refine callsIn_of_wp Try.func80 rfl hF ?_ hro
  simp only [Try.ntmps80, List.size_toArray, List.length_cons, List.length_nil, Nat.reduceAdd, Nat.reduceSub, Array.replicate_succ, Array.replicate_zero, List.push_toArray, List.append_toArray, List.nil_append, List.cons_append]
  gi_wp2
  gi_loopw [8] (fun i wr => ∃ (q : Nat) (pre : List (Prs n m)), q ≤ n ∧ i = .int .i64 q ∧ pre.map (·.1) = allP m q ∧ J pre wr ∧ wr.cell? ⟨Bo, 0, none⟩ = some (.slice a' m cap')) (fun i _ => n - (intOf i).toNat)
  case atStart => exact ⟨0, [], Nat.zero_le _, rfl, rfl, h0, ho⟩
  case round =>
    obtain ⟨q, pre, hq, rfl, hp, hJs, hc⟩ := hrel
    by_cases hql : q < n
    · gi_wp2
      gi_loopw [13] (fun j wq => ∃ (r : Nat) (pre : List (Prs n m)), r ≤ m ∧ j = .int .i64 r ∧ pre.map (·.1) = allP m q ++ rowP q r ∧ J pre wq ∧ wq.cell? ⟨Bo, 0, none⟩ = some (.slice a' m cap')) (fun j _ => m - (intOf j).toNat)
      case atStart => exact ⟨0, pre, Nat.zero_le _, rfl, by simp [hp, rowP], hJs, hc⟩
      case round =>
        obtain ⟨r, pr, hr, rfl, hp', hJ', hc'⟩ := hrel
        by_cases hrl : r < m
        · have hlen : pr.length < (allP m n).length := by
            have := part_lt hql hrl
            rw [← hp'] at this
            simpa using this
          obtain ⟨fn, tmps, assign, body, hy, hR⟩ := hY pr ⟨(q, r), hql, hrl⟩ wr hJ' hlen
          dsimp only [encP] at hy
          gi_wp2
          refine hR.mono ?_
          rintro e W3 (⟨rfl, hJ3, hk3⟩ | ⟨rfl, hJx3⟩)
          · gi_wp2
            go_roundw
            case rel => exact ⟨r + 1, pr ++ [⟨(q, r), hql, hrl⟩], by omega, by go_num, by simp [hp', rowP], hJ3, hk3.trans hc'⟩
            case measure => simp [intOf]; omega
          · gi_wp2
            refine bodyPost_ret (results_none rfl _ _ _) rfl ?_
            exact ⟨⟨_, rfl⟩, .inr ⟨pr ++ [⟨(q, r), hql, hrl⟩], by have := part_pre (n := n) hql (j := r + 1) hrl; simpa [hp', rowP] using this, hJx3⟩⟩
        · have hrm : r = m := by omega
          subst hrm
          gi_wp2
          go_roundw
          case rel => exact ⟨q + 1, pr, by omega, by go_num, by simp [hp', allP], hJ', hc'⟩
          case measure => simp [intOf]; omega
    · have hqn : q = n := by omega
      subst hqn
      gi_wp2
      go_end0
      exact ⟨⟨_, rfl⟩, .inl ⟨pre, hp, hJs⟩⟩

theorem pairs_stops (F : Fence) (k : Nat) (hF : F.fn 80) (hro : F.round = none) (hk : 1 ≤ k) (n m : Nat) (hn : n ≤ 40) (hm : m ≤ 40) (Bl Bo : Nat) (a a' : Option Addr) (cap cap' : Nat) (w : World) (hBl : Bl < w.heap.size) (hBo : Bo < w.heap.size)
    (hl : w.cell? ⟨Bl, 0, none⟩ = some (.slice a n cap)) (ho : w.cell? ⟨Bo, 0, none⟩ = some (.slice a' m cap')) :
    SeqStopsK F k Try.prog 80 #[.pointer (some ⟨Bl, 0, none⟩), .pointer (some ⟨Bo, 0, none⟩)] (encP (n := n) (m := m)) (KeepAt Bo) (fun xs => xs.map (·.1) = allP m n) (fun pre => pre.map (·.1) <+: allP m n) (allP m n).length w :=
  fun l J Jx W hW _ _ hY h0 => pairs_in F k hF hro hk n m hn hm l Bl Bo a a' cap cap' J Jx hY W ((hW.cell hBl).trans hl) ((hW.cell hBo).trans ho) h0
end Go.Proofs.Ytpdcgjkfilohcaa
