import Derived.Test.YtpdcgjkfilohcabGreatIdxAM
import Derived.Deep.RegionHeld3
import Derived.Sort.Grow
import Derived.Test.YtpdcgjkfilohcabGreatShelf
import Derived.RangeFuncNested
import Derived.RangeFuncWrites
import Derived.RangeFuncBound
import Derived.RangeFuncCalls
import Derived.RangeFuncLeaves
import Derived.Shelf.Abstract
import Derived.OwnWalkIn
import Derived.TacticsInMore
import Derived.LoopNIn
import Derived.LoopIn
import Derived.Sort.MapsRangeIn
import Derived.DeepKeys4
namespace Go.Proofs.YtpdcgjkfilohcabGreat
open Go.RowKit Go.Sort
set_option linter.unusedSimpArgs false
set_option linter.unusedVariables false

/-! What compares cells, and slots. -/

/-- Memory has grown, to the letter. -/
def Gw (w w' : World) : Prop := ∃ q os, w' = grow (w.drewN q) os
theorem Gw.refl (w : World) : Gw w w := ⟨0, #[], by simp [grow, World.drewN]⟩
theorem Gw.alloc {a w : World} (h : Gw a w) (o : Obj) : Gw a (w.alloc o) := by
  obtain ⟨q, os, rfl⟩ := h
  exact ⟨q, os.push o, by simp [grow, World.alloc]⟩
theorem Gw.drew {a w : World} (h : Gw a w) : Gw a w.drew := by
  obtain ⟨q, os, rfl⟩ := h
  exact ⟨q + 1, os, rfl⟩
theorem Gw.trans {a b c : World} (h : Gw a b) (k : Gw b c) : Gw a c := by
  obtain ⟨q, os, rfl⟩ := h
  obtain ⟨q', os', rfl⟩ := k
  exact ⟨q + q', os ++ os', by simp [grow, World.drewN, Nat.add_assoc]⟩
theorem Gw.gr {a b : World} (h : Gw a b) : Gr a b := by
  obtain ⟨q, os, rfl⟩ := h
  exact ⟨rfl, rfl, rfl, by simp [grow, World.drewN], fun k hk => by show (a.heap ++ os)[k]? = _; rw [Array.getElem?_append_left hk]⟩

set_option maxHeartbeats 400000 in
theorem nanI_any (x : Int) (w : World) : Calls Tryz.prog 161 #[.int .i64 x] w fun e w' => e = .returned (.bool false) ∧ w' = w := by
  go_enter Tryz.func161, Tryz.ntmps161
  go_wp2
  go_ret
  exact ⟨by simp, rfl⟩
set_option maxHeartbeats 400000 in
theorem nanB_any (x : ByteArray) (w : World) : Calls Tryz.prog 220 #[.string x] w fun e w' => e = .returned (.bool false) ∧ w' = w := by
  go_enter Tryz.func220, Tryz.ntmps220
  go_wp2
  go_ret
  exact ⟨by simp, rfl⟩
set_option maxHeartbeats 1000000 in
theorem cmpI_any (x y : Int) (w : World) : Calls Tryz.prog 131 #[.int .i64 x, .int .i64 y] w fun e w' => e = .returned (.int .i64 (cmpI x y)) ∧ w' = w := by
  have hv : (x < y ∧ cmpI x y = -1) ∨ (¬ x < y ∧ y < x ∧ cmpI x y = 1) ∨ (¬ x < y ∧ ¬ y < x ∧ cmpI x y = 0) := by
    unfold cmpI
    by_cases h1 : x < y
    · exact Or.inl ⟨h1, if_pos h1⟩
    · by_cases h2 : y < x
      · exact Or.inr (Or.inl ⟨h1, h2, by rw [if_neg h1, if_pos h2]⟩)
      · exact Or.inr (Or.inr ⟨h1, h2, by rw [if_neg h1, if_neg h2]⟩)
  generalize cmpI x y = r at *
  rcases hv with ⟨h1, rfl⟩ | ⟨h1, h2, rfl⟩ | ⟨h1, h2, rfl⟩
  all_goals
    go_enter Tryz.func131, Tryz.ntmps131
    go_wp2_with (first | (go_at_call 161; refine (nanI_any _ _).mono ?_; rintro e w' ⟨rfl, rfl⟩))
    go_ret
    exact ⟨rfl, rfl⟩
set_option maxHeartbeats 1000000 in
theorem cmpB_any (x y : ByteArray) (w : World) : Calls Tryz.prog 242 #[.string x, .string y] w fun e w' => e = .returned (.int .i64 (cmpB x.toList y.toList)) ∧ w' = w := by
  have hv : (Op.bytesLess x.toList y.toList = true ∧ cmpB x.toList y.toList = -1) ∨ (Op.bytesLess x.toList y.toList = false ∧ (x.toList == y.toList) = false ∧ cmpB x.toList y.toList = 1) ∨ (Op.bytesLess x.toList y.toList = false ∧ (x.toList == y.toList) = true ∧ cmpB x.toList y.toList = 0) := by
    cases h1 : Op.bytesLess x.toList y.toList
    · by_cases e : x.toList = y.toList
      · exact Or.inr (Or.inr ⟨rfl, by simp [e], cmpB_zero.2 e⟩)
      · refine Or.inr (Or.inl ⟨rfl, by simp [e], ?_⟩)
        unfold cmpB
        rw [if_neg (by rw [h1]; simp), if_pos (bl_total e h1)]
    · refine Or.inl ⟨rfl, ?_⟩
      unfold cmpB
      rw [if_pos h1]
  generalize cmpB x.toList y.toList = r at *
  rcases hv with ⟨h1, rfl⟩ | ⟨h1, h2, rfl⟩ | ⟨h1, h2, rfl⟩
  all_goals
    go_enter Tryz.func242, Tryz.ntmps242
    go_wp2_with (first | (go_at_call 220; refine (nanB_any _ _).mono ?_; rintro e w' ⟨rfl, rfl⟩))
    go_ret
    exact ⟨rfl, rfl⟩

/-- The first that is not 0. -/
def orTo : List Int → Int
  | [] => 0
  | x :: l => if x = 0 then orTo l else x
theorem orTo_drop {l : List Int} {k : Nat} (h : ∀ j, j < k → l.getD j 0 = 0) : orTo l = orTo (l.drop k) := by
  induction k with
  | zero => rfl
  | succ k ih =>
    rw [ih (fun j hj => h j (by omega))]
    by_cases hk : k < l.length
    · rw [List.drop_eq_getElem_cons hk, orTo, if_pos]
      have := h k (by omega)
      rw [List.getD_eq_getElem?_getD, List.getElem?_eq_getElem hk] at this
      exact this
    · rw [List.drop_of_length_le (by omega), List.drop_of_length_le (by omega)]
theorem orTo_at {l : List Int} {k : Nat} (hk : k < l.length) (h : ∀ j, j < k → l.getD j 0 = 0) (hx : l.getD k 0 ≠ 0) : orTo l = l.getD k 0 := by
  rw [orTo_drop h, List.drop_eq_getElem_cons hk, orTo]
  rw [List.getD_eq_getElem?_getD, List.getElem?_eq_getElem hk] at *
  exact if_neg hx
set_option maxHeartbeats 1000000 in
theorem or_any (g cap : Nat) (l : List Int) (w : World) (hn : l.length ≤ 1000) (hc : ∀ k, k < l.length → w.cell? ⟨g, k, none⟩ = some (.int .i64 (l.getD k 0))) : Calls Tryz.prog 147 #[.slice (some ⟨g, 0, none⟩) l.length cap] w fun e w' => e = .returned (.int .i64 (orTo l)) ∧ w' = w := by
  go_enter Tryz.func147, Tryz.ntmps147
  go_wp2
  go_loop [8] (fun i => ∃ k : Nat, k ≤ l.length ∧ i = .int .i64 k ∧ ∀ j, j < k → l.getD j 0 = 0) (fun i => l.length - (intOf i).toNat)
  case atStart => exact ⟨0, Nat.zero_le _, rfl, fun j hj => by omega⟩
  case round =>
    obtain ⟨k, hk, rfl, hz⟩ := hrel
    by_cases hkl : k < l.length
    · have c0 := hc k hkl
      have HZ : Hid (∀ j, j < k → l.getD j 0 = 0) := hz
      have HA : Hid (l.getD k 0 ≠ 0 → orTo l = l.getD k 0) := fun h => orTo_at hkl hz h
      have HX : Hid (l.getD k 0 = 0 → ∀ j, j < k + 1 → l.getD j 0 = 0) := fun h j hj => by
        by_cases e : j = k
        · subst e; exact h
        · exact hz j (by omega)
      clear hz hc
      generalize l.getD k 0 = x at *
      by_cases hx : x = 0
      · subst hx
        go_wp2
        go_round
        case rel => exact ⟨k + 1, by omega, by go_num, HX.out rfl⟩
        case measure => simp [intOf]; omega
      · have e0 : (x == 0) = false := by simp [hx]
        have HE : Hid (orTo l = x) := HA.out hx
        clear HA HX
        go_wp2
        go_ret
        exact ⟨by rw [HE.out]; rfl, rfl⟩
    · have HE : Hid (orTo l = 0) := by
        show orTo l = 0
        rw [orTo_drop hz, List.drop_of_length_le (by omega)]
        rfl
      clear hz hc
      go_wp2
      go_ret
      exact ⟨by rw [HE.out]; rfl, rfl⟩
end Go.Proofs.YtpdcgjkfilohcabGreat

namespace Go.Proofs.YtpdcgjkfilohcabGreat
open Go.RowKit Go.Sort
set_option linter.unusedSimpArgs false
set_option linter.unusedVariables false

theorem or2_any (x y : Int) (w : World) (n cap : Nat) (h0 : w.cell? ⟨n, 0, none⟩ = some (.int .i64 x)) (h1 : w.cell? ⟨n, 1, none⟩ = some (.int .i64 y)) : Calls Tryz.prog 147 #[.slice (some ⟨n, 0, none⟩) 2 cap] w fun e w' => e = .returned (.int .i64 (orI x y)) ∧ w' = w := by
  have h := or_any n cap [x, y] w (by simp) (fun k hk => by
    have hk : k < 2 := hk
    rcases (by omega : k = 0 ∨ k = 1) with rfl | rfl
    · exact h0
    · exact h1)
  have e : orTo [x, y] = orI x y := by
    unfold orI
    simp only [orTo]
    by_cases h1 : x = 0
    · by_cases h2 : y = 0 <;> simp [h1, h2]
    · simp [h1]
  rw [e] at h
  exact h
theorem or3_any (x y z : Int) (w : World) (n cap : Nat) (h0 : w.cell? ⟨n, 0, none⟩ = some (.int .i64 x)) (h1 : w.cell? ⟨n, 1, none⟩ = some (.int .i64 y)) (h2 : w.cell? ⟨n, 2, none⟩ = some (.int .i64 z)) : Calls Tryz.prog 147 #[.slice (some ⟨n, 0, none⟩) 3 cap] w fun e w' => e = .returned (.int .i64 (orI x (orI y z))) ∧ w' = w := by
  have h := or_any n cap [x, y, z] w (by simp) (fun k hk => by
    have hk : k < 3 := hk
    rcases (by omega : k = 0 ∨ k = 1 ∨ k = 2) with rfl | rfl | rfl
    · exact h0
    · exact h1
    · exact h2)
  have e : orTo [x, y, z] = orI x (orI y z) := by
    unfold orI
    simp only [orTo]
    by_cases h1 : x = 0
    · by_cases h2 : y = 0
      · by_cases h3 : z = 0 <;> simp [h1, h2, h3]
      · simp [h1, h2]
    · simp [h1]
  rw [e] at h
  exact h

set_option maxRecDepth 100000 in
set_option maxHeartbeats 600000 in
theorem cmpK_any (a b : Int × Int) (w : World) : Calls Tryz.prog 240 #[.agg #[.int .i64 a.1, .int .i64 a.2], .agg #[.int .i64 b.1, .int .i64 b.2]] w fun e w' => e = .returned (.int .i64 (cmpK a b)) ∧ Gw w w' := by
  have HV : Hid (cmpK a b = orI (cmpI a.1 b.1) (cmpI a.2 b.2)) := rfl
  generalize cmpK a b = r at *
  have G0 : Gw w ((w.alloc (.cells #[.int .i64 a.1, .int .i64 a.2] 82)).alloc (.cells #[.int .i64 b.1, .int .i64 b.2] 82)) := ((Gw.refl w).alloc _).alloc _
  have K : Hid (∀ w', Gw ((w.alloc (.cells #[.int .i64 a.1, .int .i64 a.2] 82)).alloc (.cells #[.int .i64 b.1, .int .i64 b.2] 82)) w' → Gw w w' ∧ w'.cell? ⟨w.heap.size, 0, none⟩ = some (.int .i64 a.1) ∧ w'.cell? ⟨w.heap.size, 1, none⟩ = some (.int .i64 a.2) ∧ w'.cell? ⟨w.heap.size + 1, 0, none⟩ = some (.int .i64 b.1) ∧ w'.cell? ⟨w.heap.size + 1, 1, none⟩ = some (.int .i64 b.2)) := by
    intro w' h
    obtain ⟨hc, -⟩ := h.gr.cells
    refine ⟨G0.trans h, ?_, ?_, ?_, ?_⟩ <;> rw [hc _ _ (by simp; try omega)] <;> simp
  have G1 := Gw.refl ((w.alloc (.cells #[.int .i64 a.1, .int .i64 a.2] 82)).alloc (.cells #[.int .i64 b.1, .int .i64 b.2] 82))
  go_enter Tryz.func240, Tryz.ntmps240
  go_upto_region 1 with fail
  go_region_held3 (fun w' => Gw w w' ∧ w'.cell? ⟨w.heap.size, 0, none⟩ = some (.int .i64 a.1) ∧ w'.cell? ⟨w.heap.size, 1, none⟩ = some (.int .i64 a.2) ∧ w'.cell? ⟨w.heap.size + 1, 0, none⟩ = some (.int .i64 b.1) ∧ w'.cell? ⟨w.heap.size + 1, 1, none⟩ = some (.int .i64 b.2))
    ((refine K.out _ ?_; repeat (first | exact G1 | assumption | with_reducible refine Gw.drew ?_ | with_reducible refine Gw.alloc ?_ _)))
    (first
      | (go_at_call 131; (with_reducible refine Calls.mono (cmpI_any _ _ _) ?_); rintro e w1 ⟨rfl, rfl⟩)
      | (go_at_call 147; (with_reducible refine Calls.mono (or2_any (cmpI a.1 b.1) (cmpI a.2 b.2) _ _ _ (by go_simp) (by go_simp)) ?_); rintro e w1 ⟨rfl, rfl⟩) | fail)
  all_goals
    go_wp2_with fail
    go_ret
    exact ⟨congrArg _ (congrArg _ HV.out.symm), And.left (by assumption)⟩
set_option maxRecDepth 100000 in
set_option maxHeartbeats 600000 in
theorem cmpS_any (a b : Sl) (w : World) : Calls Tryz.prog 241 #[.agg #[.int .i64 a.i, .int .i64 a.o, .int .i64 a.l, .int .i64 a.h, .string a.s, .int .i64 a.p], .agg #[.int .i64 b.i, .int .i64 b.o, .int .i64 b.l, .int .i64 b.h, .string b.s, .int .i64 b.p]] w fun e w' => e = .returned (.int .i64 (cmpS a b)) ∧ Gw w w' := by
  have HV : Hid (cmpS a b = orI (cmpI a.i b.i) (orI (cmpB a.s.toList b.s.toList) (cmpI a.p b.p))) := rfl
  generalize cmpS a b = r at *
  have G0 : Gw w ((w.alloc (.cells #[.int .i64 a.i, .int .i64 a.o, .int .i64 a.l, .int .i64 a.h, .string a.s, .int .i64 a.p] 84)).alloc (.cells #[.int .i64 b.i, .int .i64 b.o, .int .i64 b.l, .int .i64 b.h, .string b.s, .int .i64 b.p] 84)) := ((Gw.refl w).alloc _).alloc _
  have K : Hid (∀ w', Gw ((w.alloc (.cells #[.int .i64 a.i, .int .i64 a.o, .int .i64 a.l, .int .i64 a.h, .string a.s, .int .i64 a.p] 84)).alloc (.cells #[.int .i64 b.i, .int .i64 b.o, .int .i64 b.l, .int .i64 b.h, .string b.s, .int .i64 b.p] 84)) w' → Gw w w' ∧ w'.cell? ⟨w.heap.size, 0, none⟩ = some (.int .i64 a.i) ∧ w'.cell? ⟨w.heap.size, 4, none⟩ = some (.string a.s) ∧ w'.cell? ⟨w.heap.size, 5, none⟩ = some (.int .i64 a.p) ∧ w'.cell? ⟨w.heap.size + 1, 0, none⟩ = some (.int .i64 b.i) ∧ w'.cell? ⟨w.heap.size + 1, 4, none⟩ = some (.string b.s) ∧ w'.cell? ⟨w.heap.size + 1, 5, none⟩ = some (.int .i64 b.p)) := by
    intro w' h
    obtain ⟨hc, -⟩ := h.gr.cells
    refine ⟨G0.trans h, ?_, ?_, ?_, ?_, ?_, ?_⟩ <;> rw [hc _ _ (by simp; try omega)] <;> simp
  have G1 := Gw.refl ((w.alloc (.cells #[.int .i64 a.i, .int .i64 a.o, .int .i64 a.l, .int .i64 a.h, .string a.s, .int .i64 a.p] 84)).alloc (.cells #[.int .i64 b.i, .int .i64 b.o, .int .i64 b.l, .int .i64 b.h, .string b.s, .int .i64 b.p] 84))
  go_enter Tryz.func241, Tryz.ntmps241
  go_upto_region 1 with fail
  go_region_held3 (fun w' => Gw w w' ∧ w'.cell? ⟨w.heap.size, 0, none⟩ = some (.int .i64 a.i) ∧ w'.cell? ⟨w.heap.size, 4, none⟩ = some (.string a.s) ∧ w'.cell? ⟨w.heap.size, 5, none⟩ = some (.int .i64 a.p) ∧ w'.cell? ⟨w.heap.size + 1, 0, none⟩ = some (.int .i64 b.i) ∧ w'.cell? ⟨w.heap.size + 1, 4, none⟩ = some (.string b.s) ∧ w'.cell? ⟨w.heap.size + 1, 5, none⟩ = some (.int .i64 b.p))
    ((refine K.out _ ?_; repeat (first | exact G1 | assumption | with_reducible refine Gw.drew ?_ | with_reducible refine Gw.alloc ?_ _)))
    (first
      | (go_at_call 131; (with_reducible refine Calls.mono (cmpI_any _ _ _) ?_); rintro e w1 ⟨rfl, rfl⟩)
      | (go_at_call 242; (with_reducible refine Calls.mono (cmpB_any _ _ _) ?_); rintro e w1 ⟨rfl, rfl⟩)
      | (go_at_call 147; (with_reducible refine Calls.mono (or3_any (cmpI a.i b.i) (cmpB a.s.toList b.s.toList) (cmpI a.p b.p) _ _ _ (by go_simp) (by go_simp) (by go_simp)) ?_); rintro e w1 ⟨rfl, rfl⟩) | fail)
  all_goals
    go_wp2_with fail
    go_ret
    exact ⟨congrArg _ (congrArg _ HV.out.symm), And.left (by assumption)⟩

theorem meth_cell (v : Value) (w : World) : (Go.method 406 82 v "loop.example/lapprobe/impl.compare").run Tryz.prog w = .ok (240, v) w := by kernel_rfl
theorem meth_slot (v : Value) (w : World) : (Go.method 406 84 v "loop.example/lapprobe/impl.compare").run Tryz.prog w = .ok (241, v) w := by kernel_rfl
set_option maxHeartbeats 600000 in
theorem closeK_any (a b : Int × Int) (w : World) : Calls Tryz.prog 138 #[.agg #[.int .i64 a.1, .int .i64 a.2], .agg #[.int .i64 b.1, .int .i64 b.2]] w fun e w' => e = .returned (.int .i64 (cmpK a b)) ∧ Gw w w' := by
  have HC := cmpK_any a b
  generalize cmpK a b = r at *
  have hm := meth_cell
  go_enter Tryz.func138, Tryz.ntmps138
  go_wp2_with fail
  refine (HC _).mono ?_
  rintro e w1 ⟨rfl, g1⟩
  go_wp2
  go_ret
  exact ⟨rfl, (((Gw.refl w).alloc _).alloc _).trans g1⟩
set_option maxHeartbeats 600000 in
theorem closeS_any (a b : Sl) (w : World) : Calls Tryz.prog 140 #[.agg #[.int .i64 a.i, .int .i64 a.o, .int .i64 a.l, .int .i64 a.h, .string a.s, .int .i64 a.p], .agg #[.int .i64 b.i, .int .i64 b.o, .int .i64 b.l, .int .i64 b.h, .string b.s, .int .i64 b.p]] w fun e w' => e = .returned (.int .i64 (cmpS a b)) ∧ Gw w w' := by
  have HC := cmpS_any a b
  generalize cmpS a b = r at *
  have hm := meth_slot
  go_enter Tryz.func140, Tryz.ntmps140
  go_wp2_with fail
  refine (HC _).mono ?_
  rintro e w1 ⟨rfl, g1⟩
  go_wp2
  go_ret
  exact ⟨rfl, (((Gw.refl w).alloc _).alloc _).trans g1⟩
end Go.Proofs.YtpdcgjkfilohcabGreat

namespace Go.Proofs.YtpdcgjkfilohcabGreat
open Go.RowKit Go.Sort Go.Shelf
set_option linter.unusedSimpArgs false
set_option linter.unusedVariables false

def encK (k : Int × Int) : List Value := [.int .i64 k.1, .int .i64 k.2]
def encS (s : Sl) : List Value := [.int .i64 s.i, .int .i64 s.o, .int .i64 s.l, .int .i64 s.h, .string s.s, .int .i64 s.p]
theorem Tryz.aggCell (w : World) : (isAgg 82).run Tryz.prog w = .ok true w := by kernel_rfl
theorem Tryz.sizeCell (w : World) : (Go.sizeOf 82).run Tryz.prog w = .ok 2 w := by kernel_rfl
theorem Tryz.aggSlot (w : World) : (isAgg 84).run Tryz.prog w = .ok true w := by kernel_rfl
theorem Tryz.sizeSlot (w : World) : (Go.sizeOf 84).run Tryz.prog w = .ok 6 w := by kernel_rfl

theorem ltK : (ltOf cmpK) = keyLt := by
  funext a b
  exact cmpK_lt a b
theorem ltS : (ltOf cmpS) = slLt := by
  funext a b
  exact cmpS_lt a b

set_option maxHeartbeats 1000000 in
theorem putK_any (v : Value) (ks : List (Int × Int)) (lo : Nat) (w : World) (h : w.ownsRow lo 82 2 v ks.length (ks.flatMap encK)) (hnd : ks.Nodup) (hn : ks.length ≤ 100000) :
    Calls Tryz.prog 87 #[v] w fun e w' => e = .returned (.tuple #[]) ∧ ∃ ks' : List (Int × Int), ks'.Perm ks ∧ (ks'.Pairwise fun a b => keyLt a b = true) ∧ w'.ownsRow lo 82 2 v ks'.length (ks'.flatMap encK) ∧ w.grownBy w' v.ownBlock := by
  have eg : ∀ args w, (callFunc 138 args).run Tryz.prog w = .ok (.enter 138 args) w := enters_of Tryz.func138 (by kernel_rfl) rfl
  have key : Calls Tryz.prog 137 #[v, .func (.func 138) #[] #[]] w fun e w' => e = .returned (.tuple #[]) ∧ ∃ ks' : List (Int × Int), ks'.Perm ks ∧ (ks'.Pairwise fun a b => keyLt a b = true) ∧ w'.ownsRow lo 82 2 v ks'.length (ks'.flatMap encK) ∧ w.grownBy w' v.ownBlock := by
    rcases id h.2 with ⟨rfl, h0⟩ | ⟨g, cap, cur, rfl, hb, hg, _⟩
    · have e0 : ks = [] := List.length_eq_zero_iff.1 h0
      subst e0
      have hc := AnyF.slices_SortFunc_none { Tryz.sortK with } none 0 (.func (.func 138) #[] #[]) w
      change Calls Tryz.prog 137 _ _ _ at hc
      refine hc.mono ?_
      rintro e w' ⟨rfl, rfl⟩
      exact ⟨rfl, [], List.Perm.refl _, List.Pairwise.nil, h, ⟨rfl, rfl, rfl, Nat.le_refl _, fun _ _ _ => rfl⟩⟩
    · have hlt : g < w.heap.size := (Array.getElem?_eq_some_iff.1 hg).1
      have hl2 : ∀ x, (encK x).length = 2 := fun _ => rfl
      have h' : w.ownsRow lo 82 2 (.slice (some ⟨g, 0, none⟩) ks.toArray.size cap) ks.toArray.size (ks.toArray.toList.flatMap encK) := h
      have hc := AnyQ.slices_SortFunc Tryz.sortK 2 Tryz.aggCell Tryz.sizeCell encK hl2 (fun x v hv => by simp [encK] at hv; rcases hv with rfl | rfl <;> rfl) cmpK (by rw [ltK]; exact swoKey) 138 #[] g 0 cap ks.toArray w eg (fun _ _ _ _ x y => closeK_any x y _) (owns_holds hl2 h') hlt (by simp; omega)
      change Calls Tryz.prog 137 _ _ _ at hc
      refine hc.mono ?_
      rintro e w' ⟨rfl, d', n, os, hp, hs, rfl⟩
      obtain ⟨p1, p2⟩ := permIn_list hp
      have hsz : d'.toList.length = ks.length := by simpa using p2
      obtain ⟨o1, o2⟩ := owns_sorted hl2 h' d' p2 n os
      refine ⟨rfl, d'.toList, p1, ?_, ?_, o2⟩
      · rw [ltK] at hs
        rw [← p2] at hs
        exact sortedIn_strict (D := fun a b => a ≠ b) (fun h => h.symm) keyLt_total hs ((p1.nodup_iff).2 (by simpa using hnd))
      · rw [hsz]
        exact o1
  clear h
  go_enter Tryz.func87, Tryz.ntmps87
  go_wp2_with (go_at_call 137; refine key.mono ?_; rintro e w' ⟨rfl, hr⟩)
  go_end0
  exact ⟨rfl, hr⟩
set_option maxHeartbeats 1000000 in
theorem putS_any (v : Value) (ks : List Sl) (lo : Nat) (w : World) (h : w.ownsRow lo 84 6 v ks.length (ks.flatMap encS)) (hnd : ks.Pairwise Differ) (hn : ks.length ≤ 100000) :
    Calls Tryz.prog 88 #[v] w fun e w' => e = .returned (.tuple #[]) ∧ ∃ ks' : List Sl, ks'.Perm ks ∧ (ks'.Pairwise fun a b => slLt a b = true) ∧ w'.ownsRow lo 84 6 v ks'.length (ks'.flatMap encS) ∧ w.grownBy w' v.ownBlock := by
  let inh : Inhabited Sl := ⟨Sl.nil⟩
  have eg : ∀ args w, (callFunc 140 args).run Tryz.prog w = .ok (.enter 140 args) w := enters_of Tryz.func140 (by kernel_rfl) rfl
  have key : Calls Tryz.prog 139 #[v, .func (.func 140) #[] #[]] w fun e w' => e = .returned (.tuple #[]) ∧ ∃ ks' : List Sl, ks'.Perm ks ∧ (ks'.Pairwise fun a b => slLt a b = true) ∧ w'.ownsRow lo 84 6 v ks'.length (ks'.flatMap encS) ∧ w.grownBy w' v.ownBlock := by
    rcases id h.2 with ⟨rfl, h0⟩ | ⟨g, cap, cur, rfl, hb, hg, _⟩
    · have e0 : ks = [] := List.length_eq_zero_iff.1 h0
      subst e0
      have hc := AnyF.slices_SortFunc_none { Tryz.sortS with } none 0 (.func (.func 140) #[] #[]) w
      change Calls Tryz.prog 139 _ _ _ at hc
      refine hc.mono ?_
      rintro e w' ⟨rfl, rfl⟩
      exact ⟨rfl, [], List.Perm.refl _, List.Pairwise.nil, h, ⟨rfl, rfl, rfl, Nat.le_refl _, fun _ _ _ => rfl⟩⟩
    · have hlt : g < w.heap.size := (Array.getElem?_eq_some_iff.1 hg).1
      have hl2 : ∀ x, (encS x).length = 6 := fun _ => rfl
      have h' : w.ownsRow lo 84 6 (.slice (some ⟨g, 0, none⟩) ks.toArray.size cap) ks.toArray.size (ks.toArray.toList.flatMap encS) := h
      have hc := AnyQ.slices_SortFunc Tryz.sortS 6 Tryz.aggSlot Tryz.sizeSlot encS hl2 (fun x v hv => by simp [encS] at hv; rcases hv with rfl | rfl | rfl | rfl | rfl | rfl <;> rfl) cmpS (by rw [ltS]; exact swoSl) 140 #[] g 0 cap ks.toArray w eg (fun _ _ _ _ x y => closeS_any x y _) (owns_holds hl2 h') hlt (by simp; omega)
      change Calls Tryz.prog 139 _ _ _ at hc
      refine hc.mono ?_
      rintro e w' ⟨rfl, d', n, os, hp, hs, rfl⟩
      obtain ⟨p1, p2⟩ := permIn_list hp
      have hsz : d'.toList.length = ks.length := by simpa using p2
      obtain ⟨o1, o2⟩ := owns_sorted hl2 h' d' p2 n os
      refine ⟨rfl, d'.toList, p1, ?_, ?_, o2⟩
      · rw [ltS] at hs
        rw [← p2] at hs
        exact sortedIn_strict (D := Differ) (fun h => differ_symm h) slLt_total hs ((p1.pairwise_iff (fun h => differ_symm h)).2 (by simpa using hnd))
      · rw [hsz]
        exact o1
  clear h
  go_enter Tryz.func88, Tryz.ntmps88
  go_wp2_with (go_at_call 139; refine key.mono ?_; rintro e w' ⟨rfl, hr⟩)
  go_end0
  exact ⟨rfl, hr⟩
end Go.Proofs.YtpdcgjkfilohcabGreat

namespace Go.Proofs.YtpdcgjkfilohcabGreat
open Go.RowKit Go.Sort Go.Maps
set_option linter.unusedSimpArgs false
set_option linter.unusedVariables false
attribute [local go_sem] Oper.semAt_some

/-- The keys that have come. -/
def Came (D : DataW Value) (left : Lit → Bool) (ks : List (Int × Int)) : Prop := ks.Nodup ∧ ∀ k, k ∈ ks ↔ (Wk k ∧ has D (kl k) = true ∧ left (kl k) = false)
theorem came_start (D : DataW Value) : Came D (has D) [] := ⟨List.nodup_nil, fun k => by cases has D (kl k) <;> simp⟩
theorem came_step {P : Program} {K : TypeId} (T : KeyT P K) {D : DataW Value} {left : Lit → Bool} {ks : List (Int × Int)} (h : Came D left ks) {k : Int × Int} (hk : Wk k) (hh : has D (kl k) = true) (hl : left (kl k) = true) :
    Came D (fun z => left z && !z.sameKey (kl k)) (ks ++ [k]) := by
  have hnew : k ∉ ks := fun hm => by
    have := ((h.2 k).1 hm).2.2
    rw [hl] at this
    cases this
  refine ⟨List.nodup_append.2 ⟨h.1, by simp, fun a ha b hb e => ?_⟩, fun j => ?_⟩
  · rw [List.mem_singleton] at hb
    subst hb
    subst e
    exact hnew ha
  · rw [List.mem_append, List.mem_singleton, h.2 j]
    constructor
    · rintro (⟨h1, h2, h3⟩ | rfl)
      · exact ⟨h1, h2, by show (left (kl j) && !(kl j).sameKey (kl k)) = false; rw [h3]; rfl⟩
      · exact ⟨hk, hh, by show (left (kl j) && !(kl j).sameKey (kl j)) = false; rw [WideAt.sameKey_self (T.isKey hk)]; simp⟩
    · rintro ⟨h1, h2, h3⟩
      have h3 : (left (kl j) && !(kl j).sameKey (kl k)) = false := h3
      cases hs : (kl j).sameKey (kl k)
      · rw [hs] at h3
        exact Or.inl ⟨h1, h2, by simpa using h3⟩
      · exact Or.inr (T.inj h1 hk (WideAt.sameKey_eq hs))
/-- All of them. -/
def AllKeys (D : DataW Value) (ks : List (Int × Int)) : Prop := ks.Nodup ∧ (∀ k, k ∈ ks ↔ (Wk k ∧ has D (kl k) = true)) ∧ ks.length ≤ Maps.size D
theorem came_all {D : DataW Value} {left : Lit → Bool} {ks : List (Int × Int)} (h : Came D left ks) (hl : ∀ z, left z = false) (hn : ks.length ≤ Maps.size D) : AllKeys D ks := ⟨h.1, fun k => by rw [h.2 k, hl]; simp, hn⟩

set_option maxRecDepth 100000 in
set_option maxHeartbeats 2000000 in
theorem keys_in (T : KeyT Tryz.prog 82) (F : Fence) (n : Nat) (hF : F.fn 136) (hro : F.round = none) (hn : 1 ≤ n) (l Bm b nn : Nat) (D : DataW Value) (J Jx : List (Int × Int) → World → Prop)
    (hY : ∀ pre x W, J pre W → pre.length < Maps.size D → YieldAt F (n - 1) Tryz.prog l #[kv x] W fun e W' => (e = .returned (.bool true) ∧ J (pre ++ [x]) W' ∧ KeepsWalks W W') ∨ (e = .returned (.bool false) ∧ Jx (pre ++ [x]) W'))
    (W : World) (hJ : AbidesFrom W.heap.size J) (hm : W.cell? ⟨Bm, 0, none⟩ = some (.map (some b))) (hown : W.ownsMap Tryz.prog 82 tok b nn D) (h0 : J [] W) :
    CallsIn F n Tryz.prog 136 #[.func (.yield l) #[] #[], .pointer (some ⟨Bm, 0, none⟩)] W fun e W' => (∃ v, e = .returned v) ∧ ((∃ xs, AllKeys D xs ∧ J xs W') ∨ (∃ pre, True ∧ Jx pre W')) := by
  refine callsIn_of_wp Tryz.func136 rfl hF ?_ hro
  simp only [Tryz.ntmps136, List.size_toArray, List.length_cons, List.length_nil, Nat.reduceAdd, Nat.reduceSub, Array.replicate_succ, Array.replicate_zero, List.push_toArray, List.append_toArray, List.nil_append, List.cons_append]
  gi_wp2_with (first
    | (gi_at_range; refine wpListIn_range_own _ rfl _ 79 rfl 82 94 T.law Tryz.underlying79 _ b nn _ rfl hown ?_; intro w0 hrg0 hg0 hs0)
    | gi_in)
  go_frame
  gi_loopw [3] (fun _ wr => ∃ (left : Lit → Bool) (cnt : Nat) (ks : List (Int × Int)), wr.ranges Tryz.prog 82 tok b W.heap.size nn D left cnt ∧ ks.length + cnt ≤ Maps.size D ∧ Came D left ks ∧ J ks wr)
    (fun _ wr => wr.rangeLeft b W.heap.size)
  case atStart => exact ⟨_, _, [], hrg0, by simp, came_start D, hJ [] W w0 none h0 hg0 (fun r e => by cases e)⟩
  case round =>
    obtain ⟨left, cnt, ks, hrg, hcs, hC, hJs⟩ := hrel
    gi_wp2_with (first
      | (gi_at_next; refine wpListIn_next_ranges _ rfl _ rfl 82 T.law tok kv id (fun key l hk => by obtain ⟨x, _, hx, _⟩ := T.inv hk; exact ⟨x, hx⟩) (fun v _ _ => ⟨v, rfl⟩) b W.heap.size nn _ _ _ rfl hrg ?_ ?_)
      | gi_in)
    · intro hc0 hl0
      gi_wp2
      go_end0
      exact ⟨⟨_, rfl⟩, .inl ⟨ks, came_all hC hl0 (by omega), hJs⟩⟩
    · intro x1 x2 c kl' yd yp w2 cnt2 hkey hlk hv hat hrg2 hlt hg2 hs2 hen
      obtain ⟨x', hW, ex, rfl⟩ := T.inv hkey
      obtain rfl : (x1, x2) = x' := kv_inj ex
      have hh : has D (kl (x1, x2)) = true := has_true_of_atKey hat
      have hJ2 : J ks w2 := hJ ks wr w2 (some W.heap.size) hJs hg2 (fun r e => by cases e; exact ⟨Nat.le_refl _, hrg.iter_walk⟩)
      have HC : Hid (Came D (fun z => left z && !z.sameKey (kl (x1, x2))) (ks ++ [(x1, x2)])) := came_step T hC hW hh hlk
      dsimp only [kv] at hen
      have hJ3 : J ks (w2.alloc (.cells #[.int .i64 x1, .int .i64 x2] 82)) := hJ ks w2 _ none hJ2 (World.grownBy_alloc _ _ _) (fun r e => by cases e)
      obtain ⟨fn, tmps, assign, body, hy, hR⟩ := hY ks (x1, x2) _ hJ3 (by omega)
      dsimp only [kv] at hy
      clear hs2 ex hkey hat hh
      gi_wp2
      refine hR.mono ?_
      rintro e W3 (⟨rfl, hJ4, hk4⟩ | ⟨rfl, hJx⟩)
      · gi_wp2
        have hrg3 := hrg2.of_walks ((KeepsWalks.alloc w2 (.cells #[.int .i64 x1, .int .i64 x2] 82)).trans hk4)
        go_roundw
        case rel => exact ⟨_, cnt2, ks ++ [(x1, x2)], hrg3, by simp; omega, HC.out, hJ4⟩
        case measure => rw [hrg3.left_eq, hrg.left_eq]; exact hlt
      · gi_wp2
        refine bodyPost_ret (results_none rfl _ _ _) rfl ?_
        exact ⟨⟨_, rfl⟩, .inr ⟨ks ++ [(x1, x2)], trivial, hJx⟩⟩

theorem keys_stops (T : KeyT Tryz.prog 82) (F : Fence) (n : Nat) (hF : F.fn 136) (hro : F.round = none) (hn : 1 ≤ n) (Bm b nn : Nat) (D : DataW Value) (w : World) (hBm : Bm < w.heap.size)
    (hm : w.cell? ⟨Bm, 0, none⟩ = some (.map (some b))) (hown : w.ownsMap Tryz.prog 82 tok b nn D) :
    SeqStopsK F n Tryz.prog 136 #[.pointer (some ⟨Bm, 0, none⟩)] (fun k => #[kv k]) KeepsWalks (AllKeys D) (fun _ => True) (Maps.size D) w :=
  fun l J Jx W hW hJ _ hY h0 => by
    have hown' : W.ownsMap Tryz.prog 82 tok b nn D := hown.kept (row := none) ⟨hW.os, hW.tape, hW.output, hW.size, fun k hk _ => hW.block k hk⟩ (by simp)
    exact keys_in T F n hF hro hn l Bm b nn D J Jx hY W hJ ((hW.cell hBm).trans hm) hown' h0

set_option maxHeartbeats 400000 in
theorem mapsKeys_any (b : Option Nat) (w : World) : Calls Tryz.prog 86 #[.map b] w fun e w' => e = .returned (.func (.func 136) #[] #[.pointer (some ⟨w.heap.size, 0, none⟩)]) ∧ w' = w.alloc (.cells #[.map b] 79) := by
  go_enter Tryz.func86, Tryz.ntmps86
  go_wp2
  go_ret
  exact ⟨rfl, rfl⟩
end Go.Proofs.YtpdcgjkfilohcabGreat

namespace Go.Proofs.YtpdcgjkfilohcabGreat
open Go.RowKit Go.Sort Go.Maps
set_option linter.unusedSimpArgs false
set_option linter.unusedVariables false
attribute [local go_sem] Oper.semAt_some

theorem news_cells (W : World) (H : Nat) (hH : H = W.heap.size) (vs : List Value) (t : TypeId) (j : Nat) (u : Value) (h : vs[j]? = some u) : (W.alloc (.cells vs.toArray t)).cell? ((⟨H, 0, none⟩ : Addr).add j) = some u := by
  subst hH
  have e : (⟨W.heap.size, 0, none⟩ : Addr).add j = ⟨W.heap.size, j, none⟩ := by unfold Addr.add; split <;> simp_all
  rw [e]
  unfold World.cell?
  rw [World.alloc_heap_new]
  simpa using h
theorem Tryz.info82 : (Tryz.prog.info? 82).map (fun i => (i.zero, i.size, i.bytes)) = some (some (.agg #[.int .i64 0, .int .i64 0]), 2, 16) := by kernel_rfl
/-- A row of cells is no block that is none of cells. -/
theorem row_not {W : World} {base : Nat} {e : TypeId} {size : Nat} {v : Value} {k : Nat} {xs : List Value} (h : W.ownsRow base e size v k xs) {row : Option Nat} (hr : ∀ r, row = some r → ∃ o : Obj, W.heap[r]? = some o ∧ o.isCells = false) : v.ownBlock = none ∨ v.ownBlock ≠ row := by
  cases hb : v.ownBlock with
  | none => exact Or.inl rfl
  | some g =>
    refine Or.inr (fun e1 => ?_)
    obtain ⟨o, ho, hc⟩ := hr g e1.symm
    obtain ⟨_, _, cur, hcur⟩ := row_block h hb
    rw [hcur] at ho
    cases ho
    cases hc
theorem boxed_set {W : World} {B : Nat} {v : Value} {t : TypeId} (h : W.heap[B]? = some (.cells #[v] t (0, 0))) (v' : Value) : (W.setCell ⟨B, 0, none⟩ v').heap[B]? = some (.cells #[v'] t (0, 0)) := by
  obtain ⟨hlt, hk⟩ := Array.getElem?_eq_some_iff.1 h
  show (W.heap.modify B _)[B]? = _
  rw [Array.getElem?_eq_getElem (by rw [Array.size_modify]; exact hlt), Array.getElem_modify_self, hk]
  rfl
/-- Between two rounds. -/
def SeqAt (w : World) (ks : List (Int × Int)) (W : World) : Prop :=
  ∃ v, W.heap[w.heap.size]? = some (.cells #[v] 140 (0, 0)) ∧ W.ownsRow w.heap.size 82 2 v ks.length (ks.flatMap encK) ∧ Gr w W ∧ w.heap.size + 1 ≤ W.heap.size
theorem seqAt_own (w : World) : OwnFrom (w.heap.size + 1) (SeqAt w) := by
  rintro ks A B row ⟨v, h1, h2, h3, h4⟩ hg hr
  refine ⟨v, ?_, h2.kept hg (row_not h2 (fun r e => (hr r e).2)), ?_, Nat.le_trans h4 hg.size⟩
  · refine (hg.block _ (Array.getElem?_eq_some_iff.1 h1).1 (fun e => ?_)).trans h1
    have := (hr _ e.symm).1
    omega
  · exact Below.grown h3 hg h3.size (fun k e => by have := (hr k e).1; omega)
theorem keepsOthers_grown {W W' : World} {row : Option Nat} (hg : W.grownBy W' row) (hr : ∀ r, row = some r → ∃ cur e, W.heap[r]? = some (.cells cur e (0, 0))) : KeepsOthers W W' := by
  refine ⟨hg.size, fun k o hk ho => (hg.block k (Array.getElem?_eq_some_iff.1 hk).1 (fun e => ?_)).trans hk⟩
  obtain ⟨cur, e1, hc⟩ := hr k e.symm
  rw [hk] at hc
  cases hc
  cases ho
theorem keepsWalks_of {W W' : World} (h : KeepsOthers W W') : KeepsWalks W W' := ⟨h.size, fun k o hk ho => h.same k o hk (by cases o <;> simp_all [Obj.isWalk, Obj.isCells])⟩

set_option maxRecDepth 100000 in
set_option maxHeartbeats 2000000 in
theorem appendSeq_any (T : KeyT Tryz.prog 82) (Bm b nn : Nat) (D : DataW Value) (w : World) (hBm : Bm < w.heap.size) (hm : w.cell? ⟨Bm, 0, none⟩ = some (.map (some b))) (hown : w.ownsMap Tryz.prog 82 tok b nn D) (hN : Maps.size D ≤ 100000) :
    Calls Tryz.prog 135 #[.slice none 0 0, .func (.func 136) #[] #[.pointer (some ⟨Bm, 0, none⟩)]] w fun e w' => ∃ v ks, e = .returned v ∧ AllKeys D ks ∧ w'.ownsRow w.heap.size 82 2 v ks.length (ks.flatMap encK) ∧ Gr w w' := by
  obtain ⟨i0, hi, hz0, hz1, hz2⟩ := info_parts Tryz.info82
  have hst := keys_stops T Fence.wide 2 trivial rfl (by decide) Bm b nn D w hBm hm hown
  refine (callsIn_wide (n := 3)).1 ?_
  refine callsIn_of_wp_marks Tryz.func135 rfl trivial ?_
  simp only [Tryz.ntmps135, List.size_toArray, List.length_cons, List.length_nil, Nat.reduceAdd, Nat.reduceSub, Array.replicate_succ, Array.replicate_zero, List.push_toArray, List.append_toArray, List.nil_append, List.cons_append]
  gi_wp2
  have e1 : (w.alloc (.cells #[.slice none 0 0] 140)).heap.size = w.heap.size + 1 := by simp
  refine' wpIn_rangeFunc_ownH (F := Fence.wide) rfl (by decide) (gf := 136) (lb := #[.pointer (some ⟨Bm, 0, none⟩)]) rfl trivial (enters_of Tryz.func136 (by kernel_rfl) rfl)
    hst (fun h k => h.trans k) (fun W l o o' _ h h1 h2 => ?kb) ((Gr.refl w).alloc _) (fun _ => rfl)
    (SeqAt w) (fun _ _ _ => False) (by rw [e1]; exact seqAt_own w) (fun c s A B row h _ _ => h.elim)
    ⟨_, World.alloc_heap_new _ _, World.ownsRow_nil _ _ _ _, (Gr.refl w).alloc _, by simp⟩
    (fun x a' W => ∃ p, a' = { tmps := #[.slice none 0 0, .func (.func 136) #[] #[.pointer (some ⟨Bm, 0, none⟩)], .pointer (some ⟨w.heap.size, 0, none⟩), undef, .slice none 0 0, .pointer (some ⟨p, 0, none⟩), .func (.func 136) #[] #[.pointer (some ⟨Bm, 0, none⟩)], kv x, undef, undef, undef, undef, undef], defers := [] } ∧ W.heap[p]? = some (.cells #[.int .i64 x.1, .int .i64 x.2] 82 (0, 0)))
    ?ax ?assign ?body ?done ?stop
  case kb => exact KeepsWalks.putObj _ h h2
  case ax =>
    rintro x a' u A B row ⟨p, e, hp⟩ hg hr
    refine ⟨p, e, (hg.block p (Array.getElem?_eq_some_iff.1 hp).1 (fun e2 => ?_)).trans hp⟩
    obtain ⟨_, o, ho, hc⟩ := hr p e2.symm
    rw [hp] at ho
    cases ho
    cases hc
  case assign =>
    rintro l pre ⟨x1, x2⟩ W K ⟨v, h1, h2, h3, h4⟩ hK
    dsimp only [kv]
    gi_wp2
    refine hK _ _ ((KeepsOthers.alloc _ _).from _) (KeepsWalks.alloc _ _) ⟨v, ?_, h2.alloc _, h3.alloc _, by simp; omega⟩ ⟨W.heap.size, rfl, World.alloc_heap_new _ _⟩
    exact (Below.heap_alloc _ _ _ (Array.getElem?_eq_some_iff.1 h1).1).trans h1
  case body =>
    rintro l pre ⟨x1, x2⟩ a' W hl hr ⟨v, h1, h2, h3, h4⟩ ⟨p, rfl, hp⟩ hlen
    have c0 : W.cell? ⟨w.heap.size, 0, none⟩ = some v := by simp [World.cell?, h1]
    have p0 : W.cell? ⟨p, 0, none⟩ = some (.int .i64 x1) := by simp [World.cell?, hp]
    have p1 : W.cell? ⟨p, 1, none⟩ = some (.int .i64 x2) := by simp [World.cell?, hp]
    have hBlt : w.heap.size < W.heap.size := (Array.getElem?_eq_some_iff.1 h1).1
    have hnb : some w.heap.size ≠ v.ownBlock := fun e => by
      obtain ⟨_, _, cur, hc⟩ := row_block h2 e.symm
      rw [h1] at hc
      simp at hc
    have HB := h3.size
    have HL := hlen
    clear hr hp
    gi_wp2_with (first
      | (gi_at_builtin; refine wpListIn_append_own _ rfl _ _ 140 rfl w.heap.size 82 i0 _ 2 16 Tryz.underlying140 hi hz0 hz1 hz2 rfl (by decide) _ _ _ rfl (h2.alloc _) ⟨W.heap.size, 0, none⟩ 1 1 [.int .i64 x1, .int .i64 x2] rfl rfl (news_cells _ _ rfl [.int .i64 x1, .int .i64 x2] _) (by simp [Value.oneCell']) (by unfold maxLen; omega) (by omega) (by simp; omega) ?_; intro v' w3 hown' hg3 hnil3
         have hv3 : w3.heap[w.heap.size]? = some (.cells #[v] 140 (0, 0)) := (hg3.block _ (by simp; omega) hnb).trans ((Below.heap_alloc _ _ _ hBlt).trans h1)
         have c3 : w3.cell? ⟨w.heap.size, 0, none⟩ = some v := by simp [World.cell?, hv3]
         have f3 : w3.frozen? ⟨w.heap.size, 0, none⟩ = false := by simp [World.frozen?, hv3]
         obtain ⟨g', cap', rfl⟩ : ∃ g' cap', v' = .slice (some ⟨g', 0, none⟩) (pre.length + 1) cap' := by
           rcases hown'.2 with ⟨_, h0⟩ | ⟨g', cap', cur', e, _⟩
           · exact absurd h0 (by omega)
           · exact ⟨g', cap', e⟩
         go_frame)
      | gi_in)
    have hgA : W.grownBy w3 v.ownBlock := (World.grownBy_alloc W (.cells #[.int .i64 x1, .int .i64 x2] 82) _).trans hg3
    have hnb4 : some w.heap.size ≠ (Value.slice (some ⟨g', 0, none⟩) (pre.length + 1) cap').ownBlock := fun e => by
      obtain ⟨_, _, cur, hc⟩ := row_block hown' e.symm
      rw [hv3] at hc
      simp at hc
    have hg4 : w3.grownBy (w3.setCell ⟨w.heap.size, 0, none⟩ (.slice (some ⟨g', 0, none⟩) (pre.length + 1) cap')) (some w.heap.size) := grownBy_setCell' _ _ _
    have KO : KeepsOthers W (w3.setCell ⟨w.heap.size, 0, none⟩ (.slice (some ⟨g', 0, none⟩) (pre.length + 1) cap')) :=
      (keepsOthers_grown hgA (fun r e => by obtain ⟨_, _, cur, hc⟩ := row_block h2 e; exact ⟨cur, _, hc⟩)).trans (KeepsOthers.setCell _ _ _)
    refine ⟨KO.from _, keepsWalks_of KO, .slice (some ⟨g', 0, none⟩) (pre.length + 1) cap', ?_, ?_, ?_, ?_⟩
    · exact boxed_set hv3 _
    · have := hown'.kept hg4 (Or.inr (fun e => hnb4 e.symm))
      simpa [encK] using this
    · exact (Below.grown h3 hgA h3.size (fun k e => (row_block h2 e).1)).setCell (Nat.le_refl _) _
    · have := hgA.size
      simp
      omega
  case done =>
    rintro D' xs W hD hS ⟨v, h1, h2, h3, h4⟩ hK
    have c0 : W.cell? ⟨w.heap.size, 0, none⟩ = some v := by simp [World.cell?, h1]
    have HF : Hid (AllKeys D xs ∧ (W.putObj D' (.deferred none)).ownsRow w.heap.size 82 2 v xs.length (xs.flatMap encK) ∧ Gr w (W.putObj D' (.deferred none))) := by
      refine ⟨hS, h2.kept (grownBy_putObj' _ _ _) (row_not h2 (fun r e => by cases e; exact ⟨_, hK, rfl⟩)), ?_⟩
      rw [e1] at hD
      exact Below.grown h3 (grownBy_putObj' _ _ _) h3.size (fun k e => by cases e; omega)
    gi_wp2
    exact ⟨by simp, .inl ⟨_, _, rfl, run_takeDeferred hK, _, results_tmp rfl _ _ _, v, xs, rfl, HF.out⟩⟩
  case stop =>
    rintro D' c pre W hD hS h hK
    exact h.elim
set_option maxHeartbeats 400000 in
theorem collect_any (T : KeyT Tryz.prog 82) (Bm b nn : Nat) (D : DataW Value) (w : World) (hBm : Bm < w.heap.size) (hm : w.cell? ⟨Bm, 0, none⟩ = some (.map (some b))) (hown : w.ownsMap Tryz.prog 82 tok b nn D) (hN : Maps.size D ≤ 100000) :
    Calls Tryz.prog 85 #[.func (.func 136) #[] #[.pointer (some ⟨Bm, 0, none⟩)]] w fun e w' => ∃ v ks, e = .returned v ∧ AllKeys D ks ∧ w'.ownsRow w.heap.size 82 2 v ks.length (ks.flatMap encK) ∧ Gr w w' := by
  have HA := appendSeq_any T Bm b nn D w hBm hm hown hN
  clear hm hown
  go_enter Tryz.func85, Tryz.ntmps85
  go_wp2_with (first | (go_at_call 135; refine HA.mono ?_; rintro e w' ⟨v, ks, rfl, hr⟩))
  go_ret
  exact ⟨v, ks, rfl, hr⟩

/-! The key's type. -/
theorem Tryz.keyLaid : laidOutB Tryz.prog = true := by kernel_rfl
theorem Tryz.keyRow : (82 : TypeId) < Tryz.prog.types.size := of_decide_eq_true (by kernel_rfl)
theorem Tryz.keyType : Tryz.prog.keyType 82 = true := by kernel_rfl
theorem Tryz.keyCells : Tryz.prog.cellsOf 82 = 2 := by kernel_rfl
theorem Tryz.intCells : Tryz.prog.cellsOf 3 = 1 := by kernel_rfl
theorem Tryz.keyAt3 : Tryz.prog.keyTypeAt 3 82 = true := by kernel_rfl
theorem keyDeep : WideMaps.KeyLaw Tryz.prog 82 := deep_law_laid Tryz.keyLaid (m := 3) (by decide) Tryz.keyRow Tryz.keyAt3 (by rw [Tryz.underlying82])
theorem keyLits_eq (a b : Value) : Tryz.prog.keyLits (Tryz.prog.types.size + 1) 82 [a, b] = ((Tryz.prog.keyLits Tryz.prog.types.size 3 [a]).bind fun x => (Tryz.prog.keyLits Tryz.prog.types.size 3 [b]).map fun y => x ++ y) := by
  rw [Program.keyLits.eq_def]
  simp only [Tryz.underlying82, Tryz.keyCells, List.length_cons, List.length_nil]
  rw [if_pos (by simp)]
  simp only [List.mapM_cons, List.mapM_nil, Tryz.intCells, List.drop_zero, List.drop_succ_cons, List.take_succ_cons, List.take_zero]
  cases Tryz.prog.keyLits Tryz.prog.types.size 3 [a] <;> cases Tryz.prog.keyLits Tryz.prog.types.size 3 [b] <;> simp
theorem keyLit_at (N : Nat) (hN : 0 < N) (v : Value) (ls : List Lit) : Tryz.prog.keyLits N 3 [v] = some ls ↔ ∃ n, v = .int .i64 n ∧ (Lit.int .i64 n).wf = true ∧ ls = [.int .i64 n] := by
  cases N with
  | zero => omega
  | succ m =>
    rw [Program.keyLits.eq_def]
    simp only [Tryz.underlying3]
    constructor
    · intro h
      cases v <;> simp at h
      obtain ⟨⟨rfl, hw⟩, rfl⟩ := h
      exact ⟨_, rfl, hw, rfl⟩
    · rintro ⟨n, rfl, hw, rfl⟩
      simp [hw]
theorem Tryz.typesPos : 0 < Tryz.prog.types.size := of_decide_eq_true (by kernel_rfl)
theorem keyLit_int (v : Value) (ls : List Lit) : Tryz.prog.keyLits Tryz.prog.types.size 3 [v] = some ls ↔ ∃ n, v = .int .i64 n ∧ (Lit.int .i64 n).wf = true ∧ ls = [.int .i64 n] := keyLit_at _ Tryz.typesPos v ls
theorem keyT : KeyT Tryz.prog 82 where
  deep := keyDeep
  is := by
    rintro ⟨x, y⟩ ⟨hx, hy⟩
    unfold keyOf
    simp only [Tryz.underlying82]
    rw [if_pos (by simp [Tryz.keyType, kv, Value.formed, Tryz.underlying82, Tryz.keyCells])]
    show (Tryz.prog.keyLits _ _ [.int .i64 x, .int .i64 y]).map _ = _
    rw [keyLits_eq, (keyLit_int _ _).2 ⟨x, rfl, hx, rfl⟩, (keyLit_int _ _).2 ⟨y, rfl, hy, rfl⟩]
    rfl
  inv := by
    intro v l h
    unfold keyOf at h
    simp only [Tryz.underlying82] at h
    split at h
    · rename_i hf
      obtain ⟨ls, hls, rfl⟩ := Option.map_eq_some_iff.1 h
      have hF : v.formed Tryz.prog 82 = true := (Bool.and_eq_true_iff.1 hf).2
      cases v with
      | agg cs =>
        have hsz : cs.size = 2 := by
          simp only [Value.formed, Tryz.underlying82, Tryz.keyCells] at hF
          simpa using hF
        obtain ⟨a, b, rfl⟩ : ∃ a b, cs = #[a, b] := by
          rcases cs with ⟨_ | ⟨a, _ | ⟨b, _ | ⟨c, l⟩⟩⟩⟩ <;> simp at hsz
          exact ⟨a, b, rfl⟩
        have h2 : Tryz.prog.keyLits (Tryz.prog.types.size + 1) 82 [a, b] = some ls := hls
        rw [keyLits_eq] at h2
        obtain ⟨p, hp, h3⟩ := Option.bind_eq_some_iff.1 h2
        obtain ⟨q, hq, rfl⟩ := Option.map_eq_some_iff.1 h3
        obtain ⟨x, rfl, hx, rfl⟩ := (keyLit_int _ _).1 hp
        obtain ⟨y, rfl, hy, rfl⟩ := (keyLit_int _ _).1 hq
        exact ⟨(x, y), ⟨hx, hy⟩, rfl, rfl⟩
      | _ => simp [Value.formed, Tryz.underlying82] at hF
    · cases h
end Go.Proofs.YtpdcgjkfilohcabGreat
