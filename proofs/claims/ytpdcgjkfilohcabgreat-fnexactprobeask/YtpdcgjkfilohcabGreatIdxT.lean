import Derived.Test.YtpdcgjkfilohcabGreatIdxO
namespace Go.Proofs.YtpdcgjkfilohcabGreat
open Go.RowKit Go.Sort Go.Maps
attribute [local go_sem ↓] Go.wp_at_zero Go.wp_at_succ
set_option linter.unusedSimpArgs false
set_option linter.unusedVariables false

/-- Whether the cell at a place comes ahead of another one; whether it is this one. -/
def clAt (cs : List Cx) (k : Nat) (p : Int × Int) : Bool := match cs[k]? with | some c => keyLt c.1 p | none => false
def hitAt (cs : List Cx) (k : Nat) (p : Int × Int) : Bool := match cs[k]? with | some c => c.1 == p | none => false
theorem clAt_some {cs : List Cx} {k : Nat} {p : Int × Int} (hk : k < cs.length) : clAt cs k p = keyLt (cs.getD k Cx.nil).1 p := by
  unfold clAt
  rw [cx_get hk]
theorem clAt_none {cs : List Cx} {k : Nat} {p : Int × Int} (hk : ¬ k < cs.length) : clAt cs k p = false := by
  unfold clAt
  rw [List.getElem?_eq_none (by omega)]
theorem hitAt_some {cs : List Cx} {k : Nat} {p : Int × Int} (hk : k < cs.length) : hitAt cs k p = ((cs.getD k Cx.nil).1 == p) := by
  unfold hitAt
  rw [cx_get hk]
theorem hitAt_none {cs : List Cx} {k : Nat} {p : Int × Int} (hk : ¬ k < cs.length) : hitAt cs k p = false := by
  unfold hitAt
  rw [List.getElem?_eq_none (by omega)]
theorem clAt_true {cs : List Cx} {k : Nat} {p : Int × Int} (h : clAt cs k p = true) (hT : ∀ x ∈ cs.take k, keyLt x.1 p = true) : k < cs.length ∧ ∀ x ∈ cs.take (k + 1), keyLt x.1 p = true := by
  unfold clAt at h
  split at h
  · rename_i x hx
    refine ⟨(List.getElem?_eq_some_iff.1 hx).1, fun y hy => ?_⟩
    rw [List.take_add_one, hx] at hy
    rcases List.mem_append.1 hy with hy | hy
    · exact hT y hy
    · simp at hy
      subst hy
      exact h
  · cases h
theorem clAt_ahead {cs : List Cx} {k : Nat} {p : Int × Int} (h : clAt cs k p = false) (hk : k ≤ cs.length) (hT : ∀ x ∈ cs.take k, keyLt x.1 p = true) : ahead (fun a : Cl => keyLt a.1 p) (idxOf cs) k := by
  refine ⟨by rw [idx_len]; exact hk, fun x hx => ?_, fun x hx => ?_⟩
  · rw [idxOf, ← List.map_take] at hx
    obtain ⟨c, hc, rfl⟩ := List.mem_map.1 hx
    exact hT c hc
  · rw [idxOf, List.getElem?_map] at hx
    obtain ⟨c, hc, rfl⟩ := Option.map_eq_some_iff.1 hx
    unfold clAt at h
    rw [hc] at h
    exact h
theorem keyLt_three (x y p q : Int) : keyLt (x, y) (p, q) = (decide (x < p) || (x == p && decide (y < q))) := by
  unfold keyLt
  simp only
  by_cases h : x = p
  · subst h
    simp
  · have e : (x == p) = false := by simp [h]
    rw [if_neg h, e]
    simp

/-- What an index is behind a box that was put in. -/
def PutTo (cs cs' : List Cx) (p : Pt) : Prop := (∀ all, IsIdx all (idxOf cs) → (∀ q ∈ all, Differ q.2 p.2) → IsIdx (all ++ [p]) (idxOf cs')) ∧ cs'.length ≤ cs.length + 1 ∧ ∀ m, (∀ c ∈ cs, c.2.2 ≠ [] ∧ c.2.2.length ≤ m) → ∀ c ∈ cs', c.2.2 ≠ [] ∧ c.2.2.length ≤ m + 1
theorem put_hit {cs A C : List Cx} {k j : Nat} {c : Cx} {v : Value} {p : Pt} (he : cs = A ++ c :: C) (hA : A.length = k) (hp : c.1 = p.1) (hj : ahead (fun a => slLt a p.2) c.2.2 j) : PutTo cs (A ++ (c.1, v, c.2.2.take j ++ p.2 :: c.2.2.drop j) :: C) p := by
  subst he
  refine ⟨fun all hI hd => ?_, by simp, fun m hm d hd => ?_⟩
  · rw [idx_turn]
    have hk : A.length < (A ++ c :: C).length := by simp
    have hg : (idxOf (A ++ c :: C))[A.length]? = some (c.1, c.2.2) := by simp [idxOf]
    exact idx_in hI hg hp hj hd
  · simp only [List.mem_append, List.mem_cons] at hd
    rcases hd with hd | rfl | hd
    · have := hm d (by simp [hd])
      exact ⟨this.1, by omega⟩
    · have := hm c (by simp)
      refine ⟨by simp, ?_⟩
      have hj2 := hj.1
      simp
      omega
    · have := hm d (by simp [hd])
      exact ⟨this.1, by omega⟩
theorem put_new {cs : List Cx} {k : Nat} {v : Value} {p : Pt} (hk : ahead (fun a : Cl => keyLt a.1 p.1) (idxOf cs) k) (hn : hitAt cs k p.1 = false) : PutTo cs (cs.take k ++ (p.1, v, [p.2]) :: cs.drop k) p := by
  refine ⟨fun all hI hd => ?_, by simp; omega, fun m hm d hd => ?_⟩
  · have e : idxOf (cs.take k ++ (p.1, v, [p.2]) :: cs.drop k) = (idxOf cs).take k ++ (p.1, [p.2]) :: (idxOf cs).drop k := by simp [idxOf]
    rw [e]
    refine idx_new hI hk (fun c hc e => ?_)
    rw [idxOf, List.getElem?_map] at hc
    obtain ⟨x, hx, rfl⟩ := Option.map_eq_some_iff.1 hc
    unfold hitAt at hn
    rw [hx] at hn
    simp at hn
    exact hn e
  · simp only [List.mem_append, List.mem_cons] at hd
    rcases hd with hd | rfl | hd
    · have := hm d (List.mem_of_mem_take hd)
      exact ⟨this.1, by omega⟩
    · simp
    · have := hm d (List.mem_of_mem_drop hd)
      exact ⟨this.1, by omega⟩
theorem cellRow_one {cs : List Cx} {lo : Nat} {w : World} {v : Value} (h : OwnX lo w v cs) : ∀ u ∈ cellRow (cs.map fun c => (c.1, c.2.1)), u.oneCell' = true := by
  intro u hu
  unfold cellRow at hu
  obtain ⟨d, hd, hu⟩ := List.mem_flatMap.1 hu
  obtain ⟨c, hc, rfl⟩ := List.mem_map.1 hd
  obtain ⟨a, cp, e⟩ := row_form (h.slots c hc)
  simp only [List.mem_cons, List.not_mem_nil, or_false] at hu
  rcases hu with rfl | rfl | rfl
  · rfl
  · rfl
  · rw [e]; rfl
/-- The place of a cell that is hit. -/
theorem cell_old {w : World} {o : Obj} {k j : Nat} (h : k < w.heap.size) : (w.alloc o).cell? ⟨k, j, none⟩ = w.cell? ⟨k, j, none⟩ := World.cell?_of_block (Below.heap_alloc _ _ _ h)
theorem cell_new {w : World} {vs : Array Value} {t : TypeId} {k j : Nat} (h : k = w.heap.size) : (w.alloc (.cells vs t)).cell? ⟨k, j, none⟩ = vs[j]? := by
  subst h
  unfold World.cell?
  rw [World.alloc_heap_new]
  simp
theorem frozen_new {w : World} {vs : Array Value} {t : TypeId} {k j : Nat} (h : k = w.heap.size) : (w.alloc (.cells vs t)).frozen? ⟨k, j, none⟩ = false := by
  subst h
  unfold World.frozen?
  rw [World.alloc_heap_new]
  simp
theorem frozen_old {w : World} {o : Obj} {k j : Nat} (h : k < w.heap.size) : (w.alloc o).frozen? ⟨k, j, none⟩ = w.frozen? ⟨k, j, none⟩ := World.frozen?_of_block (Below.heap_alloc _ _ _ h)
theorem hit_form {cs : List Cx} {k : Nat} {p : Int × Int} (h : hitAt cs k p = true) : k < cs.length ∧ (cs.getD k Cx.nil).1 = p ∧ cs = cs.take k ++ cs.getD k Cx.nil :: cs.drop (k + 1) := by
  unfold hitAt at h
  split at h
  · rename_i c hc
    have hk := (List.getElem?_eq_some_iff.1 hc).1
    have e : cs.getD k Cx.nil = c := by rw [List.getD_eq_getElem?_getD, hc]; rfl
    refine ⟨hk, by rw [e]; simpa using h, ?_⟩
    have := (List.take_append_drop k cs).symm
    rw [List.drop_eq_getElem_cons hk] at this
    rw [e, ← (List.getElem?_eq_some_iff.1 hc).2]
    exact this
  · cases h
theorem row_cap {w : World} {base : Nat} {e : TypeId} {size n cap : Nat} {a : Option Addr} {xs : List Value} (h : w.ownsRow base e size (.slice a n cap) n xs) : n ≤ cap := by
  rcases h.2 with ⟨e1, h0⟩ | ⟨g, c, cur, e1, _, _, h1, _⟩
  · omega
  · simp only [Value.slice.injEq] at e1
    obtain ⟨-, -, rfl⟩ := e1
    exact h1
theorem cellRow_takeLen (cs : List Cx) (k : Nat) (hk : k ≤ cs.length) : (cellRow ((cs.take k).map fun c => (c.1, c.2.1))).length = k * 3 := by rw [cellRow_len, List.length_map, List.length_take, Nat.min_eq_left hk]
theorem cellRow_dropLen (cs : List Cx) (k : Nat) : (cellRow ((cs.drop k).map fun c => (c.1, c.2.1))).length = (cs.length - k) * 3 := by rw [cellRow_len, List.length_map, List.length_drop]
theorem cellRow_takeMem {cs : List Cx} {k : Nat} {u : Value} (h : u ∈ (cellRow ((cs.take k).map fun c => (c.1, c.2.1)))) : u ∈ cellRow (cs.map fun c => (c.1, c.2.1)) := by
  unfold cellRow at *
  obtain ⟨d, hd, hu⟩ := List.mem_flatMap.1 h
  obtain ⟨c, hc, rfl⟩ := List.mem_map.1 hd
  exact List.mem_flatMap.2 ⟨_, List.mem_map.2 ⟨c, List.mem_of_mem_take hc, rfl⟩, hu⟩
theorem cellRow_dropMem {cs : List Cx} {k : Nat} {u : Value} (h : u ∈ (cellRow ((cs.drop k).map fun c => (c.1, c.2.1)))) : u ∈ cellRow (cs.map fun c => (c.1, c.2.1)) := by
  unfold cellRow at *
  obtain ⟨d, hd, hu⟩ := List.mem_flatMap.1 h
  obtain ⟨c, hc, rfl⟩ := List.mem_map.1 hd
  exact List.mem_flatMap.2 ⟨_, List.mem_map.2 ⟨c, List.mem_of_mem_drop hc, rfl⟩, hu⟩
theorem cellRow_split (cs : List Cx) (k : Nat) : cellRow (cs.map fun c => (c.1, c.2.1)) = (cellRow ((cs.take k).map fun c => (c.1, c.2.1))) ++ (cellRow ((cs.drop k).map fun c => (c.1, c.2.1))) := by
  rw [← cellRow_app, ← List.map_append, List.take_append_drop]
theorem add_none (g o j : Nat) : (⟨g, o, none⟩ : Addr).add j = ⟨g, o + j, none⟩ := by unfold Addr.add; split <;> simp_all
/-- The cells of the first, and of the last. -/
theorem cells_take {lo g n cap : Nat} {w : World} {cs : List Cx} (k : Nat) (h : OwnX lo w (.slice (some ⟨g, 0, none⟩) n cap) cs) : ∀ j u, (cellRow ((cs.take k).map fun c => (c.1, c.2.1)))[j]? = some u → w.cell? ((⟨g, 0, none⟩ : Addr).add j) = some u := by
  intro j u hu
  obtain ⟨rfl, -⟩ := own_cells h
  have hj := (List.getElem?_eq_some_iff.1 hu).1
  rw [cellRow_len, List.length_map, List.length_take] at hj
  rw [add_none, Nat.zero_add, h.row.cellAt j (by omega), cellRow_split cs k, List.getElem?_append_left (by rw [cellRow_len, List.length_map, List.length_take]; omega)]
  exact hu
theorem cells_drop {lo g n cap : Nat} {w : World} {cs : List Cx} (k : Nat) (hk : k ≤ cs.length) (h : OwnX lo w (.slice (some ⟨g, 0, none⟩) n cap) cs) : ∀ j u, (cellRow ((cs.drop k).map fun c => (c.1, c.2.1)))[j]? = some u → w.cell? ((⟨g, k * 3, none⟩ : Addr).add j) = some u := by
  intro j u hu
  obtain ⟨rfl, -⟩ := own_cells h
  have hj := (List.getElem?_eq_some_iff.1 hu).1
  rw [cellRow_dropLen] at hj
  rw [add_none, h.row.cellAt _ (by omega), cellRow_split cs k, List.getElem?_append_right (by rw [cellRow_takeLen cs k hk]; omega), cellRow_takeLen cs k hk, Nat.add_sub_cancel_left]
  exact hu
/-- A new cell among those of an index. -/
theorem ownX_ins {lo k : Nat} {w w1 : World} {v v' u : Value} {cs : List Cx} {x y : Int} {ss : List Sl} {base n : Nat} {xs : List Value} (hr : w.ownsRow base 96 3 v n xs) (h : OwnX lo w v cs) (hk : k ≤ cs.length) (hg : Gr w w1)
    (hown : w1.ownsRow w.heap.size 96 3 v' (cs.length + 1) ((cellRow ((cs.take k).map fun c => (c.1, c.2.1))) ++ [.int .i64 x, .int .i64 y, u] ++ (cellRow ((cs.drop k).map fun c => (c.1, c.2.1))))) (hs : w.ownsRow lo 84 6 u ss.length (ss.flatMap encS) ∧ ∀ c ∈ cs, ∀ q, u.ownBlock = some q → c.2.1.ownBlock ≠ some q) (hlo : lo ≤ w.heap.size) :
    OwnX lo w1 v' (cs.take k ++ ((x, y), u, ss) :: cs.drop k) := by
  refine ⟨?_, fun c hc => ?_, ?_⟩
  · have e : cellRow ((cs.take k ++ ((x, y), u, ss) :: cs.drop k).map fun c => (c.1, c.2.1)) = (cellRow ((cs.take k).map fun c => (c.1, c.2.1))) ++ [.int .i64 x, .int .i64 y, u] ++ (cellRow ((cs.drop k).map fun c => (c.1, c.2.1))) := by
      rw [List.map_append, List.map_cons, cellRow_app, cellRow_cons, List.append_assoc]
      rfl
    have e2 : (cs.take k ++ ((x, y), u, ss) :: cs.drop k).length = cs.length + 1 := by simp; omega
    rw [e, e2]
    exact own_lo hown hlo
  · simp only [List.mem_append, List.mem_cons] at hc
    rcases hc with hc | rfl | hc
    · exact owns_gr (h.slots c (List.mem_of_mem_take hc)) hg
    · exact owns_gr hs.1 hg
    · exact owns_gr (h.slots c (List.mem_of_mem_drop hc)) hg
  · have hp := h.apart
    rw [← List.take_append_drop k cs, List.pairwise_append] at hp
    rw [List.pairwise_append, List.pairwise_cons]
    refine ⟨hp.1, ⟨fun d hd q e => hs.2 d (List.mem_of_mem_drop hd) q e, hp.2.1⟩, fun c hc d hd => ?_⟩
    rcases List.mem_cons.1 hd with rfl | hd
    · exact fun q e e' => hs.2 c (List.mem_of_mem_take hc) q e' e
    · exact hp.2.2 c hc d hd
theorem step_append_none {P : Program} {ops : Array Oper} {o : Oper} {a : Act} {w : World} {K : Act → World → Prop} {Q : Exit → Act → World → Prop} {E : Prop}
    (hg : o.guard = none) (s x : Operand) (t : TypeId) (hop : o.op = Op.call { callee := Callee.builtin Builtin.append, args := #[s, x], argTypes := #[t, t] })
    (base : Nat) (e : TypeId) (i : TypeInfo) (size : Nat) (h1 : P.underlying t = some (.slice e)) (h2 : P.info? e = some i)
    (v : Value) (n : Nat) (xs : List Value) (hs : a.eval s = v) (hown : w.ownsRow base e size v n xs) (hx : a.eval x = .slice none 0 0) (hK : K (a.put o.dst v) w) :
    if Region.wanted o (yielded ops a.tmps) = true then Oper.wp P o a w K Q else E := by
  have hw : Region.wanted o (yielded ops a.tmps) = true := by simp [Region.wanted, hg]
  rw [if_pos hw]
  have hrun := run_append_owned_none (P := P) (w := w) base t o.type e i size h1 h2 v n xs hown
  unfold Oper.wp
  simp [execOp, hop, resolve, invoke, builtin, hs, hx, hrun, Result.andThen]
  exact hK
/-- A box of another kind is written. -/
theorem ownX_box {lo q : Nat} {w : World} {v : Value} {cs : List Cx} (h : OwnX lo w v cs) (hq : ∃ cur fr, w.heap[q]? = some (.cells cur 48 fr)) (u : Value) : OwnX lo (w.setCell ⟨q, 0, none⟩ u) v cs := by
  obtain ⟨cur, fr, hq⟩ := hq
  have key : ∀ {e : TypeId} {size n : Nat} {z : Value} {xs : List Value}, e ≠ 48 → w.ownsRow lo e size z n xs → (w.setCell ⟨q, 0, none⟩ u).ownsRow lo e size z n xs := fun {e size n z xs} he hr => hr.kept (row := some q) (grownBy_setCell' _ _ _) (by
    cases hb : z.ownBlock with
    | none => exact Or.inl rfl
    | some g =>
      refine Or.inr (fun e1 => he ?_)
      cases e1
      obtain ⟨-, -, cur', hc⟩ := row_block hr hb
      rw [hq] at hc
      cases hc
      rfl)
  exact ⟨key (by decide) h.row, fun c hc => key (by decide) (h.slots c hc), h.apart⟩

set_option maxRecDepth 100000 in
set_option maxHeartbeats 4000000 in
theorem l5Put_any (lo : Nat) (v : Value) (cs : List Cx) (b : Bx) (s : ByteArray) (n : Nat) (w : World) (h : OwnX lo w v cs) (hlo : lo ≤ w.heap.size) (hn : cs.length ≤ 1000) (hs : ∀ c ∈ cs, c.2.2 ≠ [] ∧ c.2.2.length ≤ 1000) :
    Calls Tryz.prog 47 #[.agg #[v], .agg #[.int .i64 b.x, .int .i64 b.y, .int .i64 b.l, .int .i64 b.h, .int .i64 b.i, .int .i64 b.o], .string s, .int .i64 n] w fun e w' => (∃ v' cs', e = .returned (.agg #[v']) ∧ OwnX lo w' v' cs' ∧ PutTo cs cs' (slotOf s n b)) ∧ ∀ w0, Gr w0 w → w0.heap.size ≤ lo → Gr w0 w' := by
  obtain ⟨i0, hi, hz0, hz1, hz2⟩ := info_parts Tryz.info96
  obtain ⟨a, cap, rfl⟩ := row_form h.row
  have hcap := row_cap h.row
  have HX := hidE h
  have HS := hidE hs
  have G1 : Gr w ((((w.alloc (.cells #[.slice a cs.length cap] 48)).alloc (.cells #[.int .i64 b.x, .int .i64 b.y, .int .i64 b.l, .int .i64 b.h, .int .i64 b.i, .int .i64 b.o] 77)).alloc (.cells #[.slice none 0 0] 48)).alloc (.cells #[.int .i64 b.i, .int .i64 b.o, .int .i64 b.l, .int .i64 b.h, .string s, .int .i64 n] 84)) := ((((Gr.refl w).alloc _).alloc _).alloc _).alloc _
  have K1 : Hid (∀ w', Gr ((((w.alloc (.cells #[.slice a cs.length cap] 48)).alloc (.cells #[.int .i64 b.x, .int .i64 b.y, .int .i64 b.l, .int .i64 b.h, .int .i64 b.i, .int .i64 b.o] 77)).alloc (.cells #[.slice none 0 0] 48)).alloc (.cells #[.int .i64 b.i, .int .i64 b.o, .int .i64 b.l, .int .i64 b.h, .string s, .int .i64 n] 84)) w' → (w'.cell? ⟨w.heap.size, 0, none⟩ = some (.slice a cs.length cap) ∧ w'.cell? ⟨w.heap.size + 1, 0, none⟩ = some (.int .i64 b.x) ∧ w'.cell? ⟨w.heap.size + 1, 1, none⟩ = some (.int .i64 b.y)) ∧ (w'.cell? ⟨w.heap.size + 1 + 1 + 1, 0, none⟩ = some (.int .i64 b.i) ∧ w'.cell? ⟨w.heap.size + 1 + 1 + 1, 1, none⟩ = some (.int .i64 b.o) ∧ w'.cell? ⟨w.heap.size + 1 + 1 + 1, 2, none⟩ = some (.int .i64 b.l) ∧ w'.cell? ⟨w.heap.size + 1 + 1 + 1, 3, none⟩ = some (.int .i64 b.h) ∧ w'.cell? ⟨w.heap.size + 1 + 1 + 1, 4, none⟩ = some (.string s) ∧ w'.cell? ⟨w.heap.size + 1 + 1 + 1, 5, none⟩ = some (.int .i64 n)) ∧ w'.cell? ⟨w.heap.size + 1 + 1, 0, none⟩ = some (.slice none 0 0) ∧ w'.frozen? ⟨w.heap.size + 1 + 1, 0, none⟩ = false ∧ ∃ cur fr, w'.heap[w.heap.size + 1 + 1]? = some (.cells cur 48 fr)) := fun w' h => by
    obtain ⟨hc, hf⟩ := h.cells
    refine ⟨⟨(hc _ _ (by simp; try omega)).trans ((cell_old (by simp; try omega)).trans ((cell_old (by simp; try omega)).trans ((cell_old (by simp; try omega)).trans ((cell_new (by simp)).trans rfl)))), (hc _ _ (by simp; try omega)).trans ((cell_old (by simp; try omega)).trans ((cell_old (by simp; try omega)).trans ((cell_new (by simp)).trans rfl))), (hc _ _ (by simp; try omega)).trans ((cell_old (by simp; try omega)).trans ((cell_old (by simp; try omega)).trans ((cell_new (by simp)).trans rfl)))⟩, ⟨(hc _ _ (by simp; try omega)).trans ((cell_new (by simp)).trans rfl), (hc _ _ (by simp; try omega)).trans ((cell_new (by simp)).trans rfl), (hc _ _ (by simp; try omega)).trans ((cell_new (by simp)).trans rfl), (hc _ _ (by simp; try omega)).trans ((cell_new (by simp)).trans rfl), (hc _ _ (by simp; try omega)).trans ((cell_new (by simp)).trans rfl), (hc _ _ (by simp; try omega)).trans ((cell_new (by simp)).trans rfl)⟩, (hc _ _ (by simp; try omega)).trans ((cell_old (by simp; try omega)).trans ((cell_new (by simp)).trans rfl)), (hf _ _ (by simp; try omega)).trans ((frozen_old (by simp; try omega)).trans (frozen_new (by simp))), #[.slice none 0 0], (0, 0), (Below.block h _ (by simp; try omega)).trans ((Below.heap_alloc _ _ _ (by simp; try omega)).trans ?_)⟩
    have := World.alloc_heap_new ((w.alloc (.cells #[.slice a cs.length cap] 48)).alloc (.cells #[.int .i64 b.x, .int .i64 b.y, .int .i64 b.l, .int .i64 b.h, .int .i64 b.i, .int .i64 b.o] 77)) (.cells #[.slice none 0 0] 48)
    simpa only [World.size_alloc] using this
  have HG1 := hidE G1
  clear h hs G1
  go_enter Tryz.func47, Tryz.ntmps47
  go_wp2
  go_loopw [10] (fun i wr => ∃ k : Nat, k ≤ cs.length ∧ i = .int .i64 k ∧ Gr ((((w.alloc (.cells #[.slice a cs.length cap] 48)).alloc (.cells #[.int .i64 b.x, .int .i64 b.y, .int .i64 b.l, .int .i64 b.h, .int .i64 b.i, .int .i64 b.o] 77)).alloc (.cells #[.slice none 0 0] 48)).alloc (.cells #[.int .i64 b.i, .int .i64 b.o, .int .i64 b.l, .int .i64 b.h, .string s, .int .i64 n] 84)) wr ∧ Hid (∀ x ∈ cs.take k, keyLt x.1 (b.x, b.y) = true)) (fun i _ => cs.length - (intOf i).toNat)
  case atStart => exact ⟨0, Nat.zero_le _, rfl, Gr.refl _, fun x hx => by simp at hx⟩
  case round =>
    obtain ⟨k, hk, rfl, gr, HT⟩ := hrel
    have hi0 : (0 : Int) ≤ (k : Int) := by omega
    have HGR := hidE gr
    obtain ⟨⟨x0, b0, b1⟩, -⟩ := K1.out wr gr
    have HCE := hidE (own_cells (ownX_gr HX.out (HG1.out.trans gr))).2
    clear gr
    go_upto_region 3 with fail
    go_cut [60] from 23 to 62 (fun s60 wx => s60 = .bool (clAt cs k (b.x, b.y)) ∧ Gr wr wx)
    case first =>
      by_cases hkl : k < cs.length
      · have ES := hidE (clAt_some (p := (b.x, b.y)) hkl)
        have hi1 : (k : Int) < (cs.length : Int) := by omega
        obtain ⟨g, sa, sc, rfl, hg, -, c0, c1, -⟩ := HCE.out k hkl
        generalize cs.getD k Cx.nil = c at *
        obtain ⟨⟨cx, cy⟩, cv, css⟩ := c
        simp only at c0 c1
        have ES2 : Hid (clAt cs k (b.x, b.y) = (decide (cx < b.x) || (cx == b.x && decide (cy < b.y)))) := ES.out.trans (keyLt_three _ _ _ _)
        clear ES
        have hu : undef = Value.tuple #[] := rfl
        cases d1 : decide (cx < b.x)
        · cases d2 : (cx == b.x)
          · go_quiet (fail)
            go_wp2_with fail
            go_meet
            exact ⟨by rw [ES2.out, d1, d2]; rfl, (Gr.refl _).drewN _⟩
          · cases d3 : decide (cy < b.y)
            · go_quiet (fail)
              go_wp2_with fail
              go_meet
              exact ⟨by rw [ES2.out, d1, d2, d3]; rfl, (Gr.refl _).drewN _⟩
            · go_quiet (fail)
              go_wp2_with fail
              go_meet
              exact ⟨by rw [ES2.out, d1, d2, d3]; rfl, (Gr.refl _).drewN _⟩
        · go_quiet (fail)
          go_wp2_with fail
          go_meet
          exact ⟨by rw [ES2.out, d1]; rfl, (Gr.refl _).drewN _⟩
      · have hd : decide (k < cs.length) = false := by simpa using hkl
        have ES := hidE (clAt_none (p := (b.x, b.y)) hkl)
        have hu : undef = Value.tuple #[] := rfl
        clear hkl
        go_quiet (fail)
        go_wp2_with fail
        go_meet
        exact ⟨by rw [ES.out], (Gr.refl _).drewN _⟩
    obtain ⟨rfl, g3⟩ := hcut
    obtain ⟨wA, hA⟩ : ∃ x, x = wc := ⟨_, rfl⟩
    subst hA
    cases hB : clAt cs k (b.x, b.y)
    · have HAH := hidE (clAt_ahead hB hk HT.out)
      obtain ⟨⟨x0, b0, b1⟩, -⟩ := K1.out wA (HGR.out.trans g3)
      have HCA := hidE (own_cells (ownX_gr HX.out ((HG1.out.trans HGR.out).trans g3))).2
      have HGA := hidE (HGR.out.trans g3)
      clear HT hB HCE HGR g3
      go_upto_region 5 with fail
      go_cut [89] (fun s89 wx => s89 = .bool (hitAt cs k (b.x, b.y)) ∧ Gr wA wx)
      case first =>
        by_cases hkl : k < cs.length
        · have ES := hidE (hitAt_some (p := (b.x, b.y)) hkl)
          have hi1 : (k : Int) < (cs.length : Int) := by omega
          obtain ⟨g, sa, sc, rfl, hg, -, c0, c1, -⟩ := HCA.out k hkl
          generalize cs.getD k Cx.nil = c at *
          obtain ⟨⟨cx, cy⟩, cv, css⟩ := c
          simp only at c0 c1
          have ES2 : Hid (hitAt cs k (b.x, b.y) = ((cx == b.x) && (cy == b.y))) := ES.out.trans rfl
          clear ES
          have hu : undef = Value.tuple #[] := rfl
          cases d2 : (cx == b.x)
          · go_quiet (fail)
            go_wp2_with fail
            go_meet
            exact ⟨by rw [ES2.out, d2]; rfl, (Gr.refl _).drewN _⟩
          · cases d3 : (cy == b.y)
            · go_quiet (fail)
              go_wp2_with fail
              go_meet
              exact ⟨by rw [ES2.out, d2, d3]; rfl, (Gr.refl _).drewN _⟩
            · go_quiet (fail)
              go_wp2_with fail
              go_meet
              exact ⟨by rw [ES2.out, d2, d3]; rfl, (Gr.refl _).drewN _⟩
        · have hd : decide (k < cs.length) = false := by simpa using hkl
          have ES := hidE (hitAt_none (p := (b.x, b.y)) hkl)
          have hu : undef = Value.tuple #[] := rfl
          clear hkl
          go_quiet (fail)
          go_wp2_with fail
          go_meet
          exact ⟨by rw [ES.out], (Gr.refl _).drewN _⟩
      obtain ⟨rfl, g5⟩ := hcut
      obtain ⟨wB, hB⟩ : ∃ x, x = wc := ⟨_, rfl⟩
      subst hB
      have HGB := hidE (HGA.out.trans g5)
      have HXB := hidE (ownX_gr HX.out (HG1.out.trans HGB.out))
      have hNB : w.heap.size + 1 + 1 + 1 < wB.heap.size := by have := HGB.out.size; simp at this; omega
      clear HCA HGA g5 x0 b0 b1
      cases hH : hitAt cs k (b.x, b.y)
      · have HPN : Hid (∀ u, PutTo cs (cs.take k ++ ((b.x, b.y), u, [(slotOf s n b).2]) :: cs.drop k) (slotOf s n b)) := fun u => put_new HAH.out hH
        obtain ⟨⟨x0, b0, b1⟩, ⟨s0, s1, s2, s3, s4, s5⟩, -⟩ := K1.out wB HGB.out
        clear HAH hH
        go_upto_region 9 with fail
        obtain ⟨wC, hwC⟩ : ∃ x, x = (wB.alloc (.cells #[.int .i64 b.i, .int .i64 b.o, .int .i64 b.l, .int .i64 b.h, .string s, .int .i64 n] 84)).alloc (.cells #[.int .i64 b.x, .int .i64 b.y, .slice (some ⟨wB.heap.size, 0, none⟩) 1 1] 96) := ⟨_, rfl⟩
        have HBC : Hid (Gr wB wC) := hwC ▸ ((Gr.refl wB).alloc _).alloc _
        have hMC : wC.heap.size = wB.heap.size + 1 + 1 := by rw [hwC]; simp
        have hbM : wC.heap[wB.heap.size]? = some (.cells #[.int .i64 b.i, .int .i64 b.o, .int .i64 b.l, .int .i64 b.h, .string s, .int .i64 n] 84 (0, 0)) := by rw [hwC]; exact (Below.heap_alloc _ _ _ (by simp)).trans (World.alloc_heap_new _ _)
        have hbN : wC.heap[wB.heap.size + 1]? = some (.cells #[.int .i64 b.x, .int .i64 b.y, .slice (some ⟨wB.heap.size, 0, none⟩) 1 1] 96 (0, 0)) := by rw [hwC]; exact alloc_at _ _ _
        rw [← hwC]
        clear hwC s0 s1 s2 s3 s4 s5 b0 b1 x0
        have HGC : Hid (Gr w wC) := (HG1.out.trans HGB.out).trans HBC.out
        have HXC : Hid (OwnX lo wC (.slice a cs.length cap) cs) := ownX_gr HXB.out HBC.out
        have hloC : lo ≤ wC.heap.size := by omega
        have HSB : Hid (wC.ownsRow lo 84 6 (.slice (some ⟨wB.heap.size, 0, none⟩) 1 1) [(slotOf s n b).2].length ([(slotOf s n b).2].flatMap encS) ∧ ∀ c ∈ cs, ∀ q, (Value.slice (some ⟨wB.heap.size, 0, none⟩) 1 1).ownBlock = some q → c.2.1.ownBlock ≠ some q) := by
          refine ⟨⟨by simp [encS, slotOf], .inr ⟨wB.heap.size, 1, _, rfl, by omega, hbM, Nat.le_refl _, by unfold maxLen; omega, by simp, by simp [encS, slotOf]⟩⟩, fun c hc q e e' => ?_⟩
          have h1 := (row_block (HXB.out.slots c hc) e').2.1
          have h2 : wB.heap.size = q := by simpa [Value.ownBlock] using e
          omega
        have hcb : ∀ w', Gr wC w' → w'.cell? ⟨wB.heap.size + 1, 0, none⟩ = some (.int .i64 b.x) ∧ w'.cell? ⟨wB.heap.size + 1, 1, none⟩ = some (.int .i64 b.y) ∧ w'.cell? ⟨wB.heap.size + 1, 2, none⟩ = some (.slice (some ⟨wB.heap.size, 0, none⟩) 1 1) := fun w' h => by
          have e := (Below.block h _ (Array.getElem?_eq_some_iff.1 hbN).1).trans hbN
          simp [World.cell?, e]
        have HRB : Hid (∀ w', Gr wC w' → w'.cell? ⟨w.heap.size + 1 + 1, 0, none⟩ = some (.slice none 0 0) ∧ w'.frozen? ⟨w.heap.size + 1 + 1, 0, none⟩ = false) := fun w' h => ⟨(K1.out w' ((HGB.out.trans HBC.out).trans h)).2.2.1, (K1.out w' ((HGB.out.trans HBC.out).trans h)).2.2.2.1⟩
        have HRK : Hid (∀ w', Gr wC w' → ∃ cur fr, w'.heap[w.heap.size + 1 + 1]? = some (.cells cur 48 fr)) := fun w' h => (K1.out w' ((HGB.out.trans HBC.out).trans h)).2.2.2.2
        have K9 : Hid (∀ w', Gr wC w' → Gr w w' ∧ w'.cell? ⟨w.heap.size, 0, none⟩ = some (.slice a cs.length cap) ∧ w'.cell? ⟨wB.heap.size + 1, 0, none⟩ = some (.int .i64 b.x) ∧ w'.cell? ⟨wB.heap.size + 1, 1, none⟩ = some (.int .i64 b.y) ∧ w'.cell? ⟨wB.heap.size + 1, 2, none⟩ = some (.slice (some ⟨wB.heap.size, 0, none⟩) 1 1)) := fun w' h => ⟨HGC.out.trans h, (K1.out w' ((HGB.out.trans HBC.out).trans h)).1.1, hcb w' h⟩
        have KZ : Hid (∀ (w' : World) (u : Value), Gr wC w' → Gr w (w'.setCell ⟨w.heap.size + 1 + 1, 0, none⟩ u) ∧ (w'.setCell ⟨w.heap.size + 1 + 1, 0, none⟩ u).cell? ⟨w.heap.size, 0, none⟩ = some (.slice a cs.length cap) ∧ (w'.setCell ⟨w.heap.size + 1 + 1, 0, none⟩ u).cell? ⟨wB.heap.size + 1, 0, none⟩ = some (.int .i64 b.x) ∧ (w'.setCell ⟨w.heap.size + 1 + 1, 0, none⟩ u).cell? ⟨wB.heap.size + 1, 1, none⟩ = some (.int .i64 b.y) ∧ (w'.setCell ⟨w.heap.size + 1 + 1, 0, none⟩ u).cell? ⟨wB.heap.size + 1, 2, none⟩ = some (.slice (some ⟨wB.heap.size, 0, none⟩) 1 1)) := fun w' u h => by
          have hb : ∀ x o, x ≠ w.heap.size + 1 + 1 → (w'.setCell ⟨w.heap.size + 1 + 1, 0, none⟩ u).cell? ⟨x, o, none⟩ = w'.cell? ⟨x, o, none⟩ := fun x o hx => World.cell?_of_block (Below.heap_setCell _ _ _ _ (by exact hx))
          simp only [hb w.heap.size _ (by omega), hb (wB.heap.size + 1) _ (by omega)]
          exact ⟨(HGC.out.trans h).setCell (by dsimp only; omega) _, (K9.out w' h).2⟩
        have HONE := hidE (cellRow_one HXC.out)
        have HOa : Hid ((wC.alloc (.cells #[] 96)).drew.ownsRow wC.heap.size 96 3 (.slice (some ⟨wC.heap.size, 0, none⟩) 0 0) 0 []) := own_empty 3 (Nat.le_refl _) (World.alloc_heap_new _ _)
        have HOb : Hid (((wC.alloc (.cells #[] 96)).alloc (.cells #[.int .i64 b.x, .int .i64 b.y, .slice (some ⟨wB.heap.size, 0, none⟩) 1 1] 96)).drew.ownsRow wC.heap.size 96 3 (.slice (some ⟨wC.heap.size, 0, none⟩) 0 0) 0 []) := own_empty 3 (Nat.le_refl _) ((Below.heap_alloc _ _ _ (by simp)).trans (World.alloc_heap_new _ _))
        have HOc : Hid (((wC.alloc (.cells #[.int .i64 b.x, .int .i64 b.y, .slice (some ⟨wB.heap.size, 0, none⟩) 1 1] 96)).alloc (.cells #[] 96)).drew.ownsRow wC.heap.size 96 3 (.slice (some ⟨wC.heap.size + 1, 0, none⟩) 0 0) 0 []) := own_empty 3 (by omega) (alloc_at _ _ _)
        have HBb : Hid (((wC.alloc (.cells #[] 96)).alloc (.cells #[.int .i64 b.x, .int .i64 b.y, .slice (some ⟨wB.heap.size, 0, none⟩) 1 1] 96)).heap[wC.heap.size + 1]? = some (.cells #[.int .i64 b.x, .int .i64 b.y, .slice (some ⟨wB.heap.size, 0, none⟩) 1 1] 96 (0, 0))) := alloc_at _ _ _
        have HBc : Hid (((wC.alloc (.cells #[.int .i64 b.x, .int .i64 b.y, .slice (some ⟨wB.heap.size, 0, none⟩) 1 1] 96)).alloc (.cells #[] 96)).heap[wC.heap.size]? = some (.cells #[.int .i64 b.x, .int .i64 b.y, .slice (some ⟨wB.heap.size, 0, none⟩) 1 1] 96 (0, 0))) := (Below.heap_alloc _ _ _ (by simp)).trans (World.alloc_heap_new _ _)
        have q0 := Gr.refl wC
        have HMC := hidE hMC
        clear hMC hbM hbN hcb HBC HXB HGB
        rcases id HXC.out.row.2 with ⟨ea, hz⟩ | ⟨g, cg, cur, ea, -⟩
        · simp only [Value.slice.injEq] at ea
          obtain ⟨rfl, -, rfl⟩ := ea
          obtain rfl : cs = [] := List.length_eq_zero_iff.1 hz
          obtain rfl : k = 0 := by simpa using hk
          have K9' : Hid (∀ w', Gr wC w' → Gr w w' ∧ w'.cell? ⟨w.heap.size, 0, none⟩ = some (.slice none 0 0) ∧ w'.cell? ⟨wB.heap.size + 1, 0, none⟩ = some (.int .i64 b.x) ∧ w'.cell? ⟨wB.heap.size + 1, 1, none⟩ = some (.int .i64 b.y) ∧ w'.cell? ⟨wB.heap.size + 1, 2, none⟩ = some (.slice (some ⟨wB.heap.size, 0, none⟩) 1 1)) := fun w' h => K9.out w' h
          have KZ' : Hid (∀ (w' : World) (u : Value), Gr wC w' → Gr w (w'.setCell ⟨w.heap.size + 1 + 1, 0, none⟩ u) ∧ (w'.setCell ⟨w.heap.size + 1 + 1, 0, none⟩ u).cell? ⟨w.heap.size, 0, none⟩ = some (.slice none 0 0) ∧ (w'.setCell ⟨w.heap.size + 1 + 1, 0, none⟩ u).cell? ⟨wB.heap.size + 1, 0, none⟩ = some (.int .i64 b.x) ∧ (w'.setCell ⟨w.heap.size + 1 + 1, 0, none⟩ u).cell? ⟨wB.heap.size + 1, 1, none⟩ = some (.int .i64 b.y) ∧ (w'.setCell ⟨w.heap.size + 1 + 1, 0, none⟩ u).cell? ⟨wB.heap.size + 1, 2, none⟩ = some (.slice (some ⟨wB.heap.size, 0, none⟩) 1 1)) := fun w' u h => KZ.out w' u h
          clear K9 KZ hz
          go_region_held3 (fun w' => Gr w w' ∧ w'.cell? ⟨w.heap.size, 0, none⟩ = some (.slice none 0 0) ∧ w'.cell? ⟨wB.heap.size + 1, 0, none⟩ = some (.int .i64 b.x) ∧ w'.cell? ⟨wB.heap.size + 1, 1, none⟩ = some (.int .i64 b.y) ∧ w'.cell? ⟨wB.heap.size + 1, 2, none⟩ = some (.slice (some ⟨wB.heap.size, 0, none⟩) 1 1))
            (first | (refine K9'.out _ ?_; (repeat (first | with_reducible exact q0 | with_reducible assumption | with_reducible refine Gr.drew ?_ | with_reducible refine Gr.alloc ?_ _)); done) | (refine KZ'.out _ _ ?_; with_reducible assumption) | fail)
            (first
              | (refine step_append_own rfl (.tmp 116) (.tmp 118) 46 rfl wC.heap.size 96 i0 _ 3 40 Tryz.underlying46 hi hz0 hz1 hz2 rfl (by decide) _ _ _ (by simp [Act.eval]) HOb.out ⟨wC.heap.size + 1, 0, none⟩ 1 1 [.int .i64 b.x, .int .i64 b.y, .slice (some ⟨wB.heap.size, 0, none⟩) 1 1] (by simp [Act.eval]) rfl (blk_cells (vs := [.int .i64 b.x, .int .i64 b.y, .slice (some ⟨wB.heap.size, 0, none⟩) 1 1]) HBb.out) (by simp [Value.oneCell']) (by unfold maxLen; omega) (by omega) (Gr.size (((Gr.refl wC).alloc _).alloc _).drew) ?_; intro v124 w124 hown124 hgr124; have G124 : Gr wC w124 := Below.grown (((Gr.refl wC).alloc _).alloc _).drew hgr124 (Gr.size (((Gr.refl wC).alloc _).alloc _).drew) (fun z hz => (row_block HOb.out hz).1); rw [Nat.zero_add] at hown124; obtain ⟨a124, c124, e124⟩ := row_form hown124; subst e124; obtain ⟨z0, z1⟩ := HRB.out _ G124)
              | (refine step_append_own rfl (.tmp 116) (.tmp 118) 46 rfl wC.heap.size 96 i0 _ 3 40 Tryz.underlying46 hi hz0 hz1 hz2 rfl (by decide) _ _ _ (by simp [Act.eval]) HOc.out ⟨wC.heap.size, 0, none⟩ 1 1 [.int .i64 b.x, .int .i64 b.y, .slice (some ⟨wB.heap.size, 0, none⟩) 1 1] (by simp [Act.eval]) rfl (blk_cells (vs := [.int .i64 b.x, .int .i64 b.y, .slice (some ⟨wB.heap.size, 0, none⟩) 1 1]) HBc.out) (by simp [Value.oneCell']) (by unfold maxLen; omega) (by omega) (Gr.size (((Gr.refl wC).alloc _).alloc _).drew) ?_; intro v124 w124 hown124 hgr124; have G124 : Gr wC w124 := Below.grown (((Gr.refl wC).alloc _).alloc _).drew hgr124 (Gr.size (((Gr.refl wC).alloc _).alloc _).drew) (fun z hz => (row_block HOc.out hz).1); rw [Nat.zero_add] at hown124; obtain ⟨a124, c124, e124⟩ := row_form hown124; subst e124; obtain ⟨z0, z1⟩ := HRB.out _ G124)
              | (refine step_append_none rfl (.tmp 119) (.tmp 123) 46 rfl wC.heap.size 96 i0 3 Tryz.underlying46 hi _ _ _ (by simp [Act.eval]) hown124 (by simp [Act.eval]) ?_))
          all_goals
            have HF := hidE (ownX_ins (k := 0) (ss := [(slotOf s n b).2]) (u := .slice (some ⟨wB.heap.size, 0, none⟩) 1 1) (x := b.x) (y := b.y) HXC.out.row HXC.out (Nat.zero_le _) G124 (by simpa [cellRow] using hown124) HSB.out hloC)
            have HF2 := hidE (ownX_box HF.out (HRK.out _ G124) (.slice a124 1 c124))
            have HG9 : Hid (∀ w0, Gr w0 w → w0.heap.size ≤ lo → Gr w0 (w124.setCell ⟨w.heap.size + 1 + 1, 0, none⟩ (.slice a124 1 c124))) := fun w0 g0 h0 => ((g0.trans HGC.out).trans G124).setCell (by have := g0.size; dsimp only; omega) _
            clear hown124
            go_wp2
            exact bodyPost_ret (v := .agg #[.slice a124 1 c124]) (by simp [results, Tryz.results47, go_sem, z0]) rfl ⟨⟨_, _, rfl, HF2.out, HPN.out _⟩, HG9.out⟩
        · simp only [Value.slice.injEq, true_and] at ea
          obtain ⟨rfl, rfl⟩ := ea
          have hi1 : (k : Int) ≤ (cs.length : Int) := by omega
          have hi2 : (cs.length : Int) ≤ (cap : Int) := by omega
          have hi3 : (k : Int) ≤ (cap : Int) := by omega
          have HTK : Hid (∀ w', Gr wC w' → ∀ j u, (cellRow ((cs.take k).map fun c => (c.1, c.2.1)))[j]? = some u → w'.cell? ((⟨g, 0, none⟩ : Addr).add j) = some u) := fun w' h => cells_take k (ownX_gr HXC.out h)
          obtain ⟨A, hnews, hck⟩ : ∃ A : Addr, (∀ w', Gr wC w' → ∀ j u, (cellRow ((cs.drop k).map fun c => (c.1, c.2.1)))[j]? = some u → w'.cell? (A.add j) = some u) ∧ ((cap = k ∧ A = ⟨g, 0, none⟩) ∨ (¬ cap = k ∧ A = ⟨g, k * 3, none⟩)) := by
            by_cases hck : cap = k
            · refine ⟨_, fun w' _ j u hu => ?_, Or.inl ⟨hck, rfl⟩⟩
              rw [List.drop_of_length_le (by omega)] at hu
              simp [cellRow] at hu
            · exact ⟨_, fun w' h => cells_drop k hk (ownX_gr HXC.out h), Or.inr ⟨hck, rfl⟩⟩
          have HDR := hidE hnews
          clear hnews
          rcases hck with ⟨hck, rfl⟩ | ⟨hck, rfl⟩
          · have hck' : k = cap := hck.symm
            clear hck
            subst hck'
            go_region_held3 (fun w' => Gr w w' ∧ w'.cell? ⟨w.heap.size, 0, none⟩ = some (.slice (some ⟨g, 0, none⟩) cs.length k) ∧ w'.cell? ⟨wB.heap.size + 1, 0, none⟩ = some (.int .i64 b.x) ∧ w'.cell? ⟨wB.heap.size + 1, 1, none⟩ = some (.int .i64 b.y) ∧ w'.cell? ⟨wB.heap.size + 1, 2, none⟩ = some (.slice (some ⟨wB.heap.size, 0, none⟩) 1 1))
              (first | (refine K9.out _ ?_; (repeat (first | with_reducible exact q0 | with_reducible assumption | with_reducible refine Gr.drew ?_ | with_reducible refine Gr.alloc ?_ _)); done) | (refine KZ.out _ _ ?_; with_reducible assumption) | fail)
              (first
                | (refine step_append_own rfl (.tmp 111) (.tmp 115) 46 rfl wC.heap.size 96 i0 _ 3 40 Tryz.underlying46 hi hz0 hz1 hz2 rfl (by decide) _ _ _ (by simp [Act.eval]) HOa.out ⟨g, 0, none⟩ k k (cellRow ((cs.take k).map fun c => (c.1, c.2.1))) (by simp [Act.eval]) (cellRow_takeLen cs k hk) (HTK.out _ ((Gr.refl wC).alloc _).drew) (fun u hu => HONE.out u (cellRow_takeMem hu)) (by unfold maxLen; omega) (by omega) (Gr.size ((Gr.refl wC).alloc _).drew) ?_; intro v116 w116 hown116 hgr116; have G116 : Gr wC w116 := Below.grown ((Gr.refl wC).alloc _).drew hgr116 (Gr.size ((Gr.refl wC).alloc _).drew) (fun z hz => (row_block HOa.out hz).1); obtain ⟨a116, c116, e116⟩ := row_form hown116; subst e116)
                | (refine step_append_own rfl (.tmp 111) (.tmp 115) 46 rfl wC.heap.size 96 i0 _ 3 40 Tryz.underlying46 hi hz0 hz1 hz2 rfl (by decide) _ _ _ (by simp [Act.eval]) HOb.out ⟨g, 0, none⟩ k k (cellRow ((cs.take k).map fun c => (c.1, c.2.1))) (by simp [Act.eval]) (cellRow_takeLen cs k hk) (HTK.out _ (((Gr.refl wC).alloc _).alloc _).drew) (fun u hu => HONE.out u (cellRow_takeMem hu)) (by unfold maxLen; omega) (by omega) (Gr.size (((Gr.refl wC).alloc _).alloc _).drew) ?_; intro v116 w116 hown116 hgr116; have G116 : Gr wC w116 := Below.grown (((Gr.refl wC).alloc _).alloc _).drew hgr116 (Gr.size (((Gr.refl wC).alloc _).alloc _).drew) (fun z hz => (row_block HOb.out hz).1); have HB24 := hidE ((hgr116.block (wC.heap.size + 1) (by simp) (by simp [Value.ownBlock])).trans HBb.out); obtain ⟨a116, c116, e116⟩ := row_form hown116; subst e116)
                | (refine step_append_own rfl (.tmp 111) (.tmp 115) 46 rfl wC.heap.size 96 i0 _ 3 40 Tryz.underlying46 hi hz0 hz1 hz2 rfl (by decide) _ _ _ (by simp [Act.eval]) HOc.out ⟨g, 0, none⟩ k k (cellRow ((cs.take k).map fun c => (c.1, c.2.1))) (by simp [Act.eval]) (cellRow_takeLen cs k hk) (HTK.out _ (((Gr.refl wC).alloc _).alloc _).drew) (fun u hu => HONE.out u (cellRow_takeMem hu)) (by unfold maxLen; omega) (by omega) (Gr.size (((Gr.refl wC).alloc _).alloc _).drew) ?_; intro v116 w116 hown116 hgr116; have G116 : Gr wC w116 := Below.grown (((Gr.refl wC).alloc _).alloc _).drew hgr116 (Gr.size (((Gr.refl wC).alloc _).alloc _).drew) (fun z hz => (row_block HOc.out hz).1); have HB24 := hidE ((hgr116.block wC.heap.size (by simp; omega) (by simp [Value.ownBlock])).trans HBc.out); obtain ⟨a116, c116, e116⟩ := row_form hown116; subst e116)
                | (refine step_append_own rfl (.tmp 116) (.tmp 118) 46 rfl wC.heap.size 96 i0 _ 3 40 Tryz.underlying46 hi hz0 hz1 hz2 rfl (by decide) _ _ _ (by simp [Act.eval]) (hown116.alloc _) ⟨w116.heap.size, 0, none⟩ 1 1 [.int .i64 b.x, .int .i64 b.y, .slice (some ⟨wB.heap.size, 0, none⟩) 1 1] (by simp [Act.eval]) rfl (news_cells w116 _ rfl [.int .i64 b.x, .int .i64 b.y, .slice (some ⟨wB.heap.size, 0, none⟩) 1 1] _) (by simp [Value.oneCell']) (by unfold maxLen; omega) (by omega) (Gr.size (G116.alloc _)) ?_; intro v119 w119 hown119 hgr119; have G119 : Gr wC w119 := Below.grown (G116.alloc _) hgr119 (Gr.size (G116.alloc _)) (fun z hz => (row_block hown116 hz).1); obtain ⟨a119, c119, e119⟩ := row_form hown119; subst e119)
                | (refine step_append_own rfl (.tmp 116) (.tmp 118) 46 rfl wC.heap.size 96 i0 _ 3 40 Tryz.underlying46 hi hz0 hz1 hz2 rfl (by decide) _ _ _ (by simp [Act.eval]) hown116 ⟨wC.heap.size + 1, 0, none⟩ 1 1 [.int .i64 b.x, .int .i64 b.y, .slice (some ⟨wB.heap.size, 0, none⟩) 1 1] (by simp [Act.eval]) rfl (blk_cells (vs := [.int .i64 b.x, .int .i64 b.y, .slice (some ⟨wB.heap.size, 0, none⟩) 1 1]) HB24.out) (by simp [Value.oneCell']) (by unfold maxLen; omega) (by omega) (Gr.size G116) ?_; intro v119 w119 hown119 hgr119; have G119 : Gr wC w119 := Below.grown G116 hgr119 (Gr.size G116) (fun z hz => (row_block hown116 hz).1); obtain ⟨a119, c119, e119⟩ := row_form hown119; subst e119)
                | (refine step_append_own rfl (.tmp 116) (.tmp 118) 46 rfl wC.heap.size 96 i0 _ 3 40 Tryz.underlying46 hi hz0 hz1 hz2 rfl (by decide) _ _ _ (by simp [Act.eval]) hown116 ⟨wC.heap.size, 0, none⟩ 1 1 [.int .i64 b.x, .int .i64 b.y, .slice (some ⟨wB.heap.size, 0, none⟩) 1 1] (by simp [Act.eval]) rfl (blk_cells (vs := [.int .i64 b.x, .int .i64 b.y, .slice (some ⟨wB.heap.size, 0, none⟩) 1 1]) HB24.out) (by simp [Value.oneCell']) (by unfold maxLen; omega) (by omega) (Gr.size G116) ?_; intro v119 w119 hown119 hgr119; have G119 : Gr wC w119 := Below.grown G116 hgr119 (Gr.size G116) (fun z hz => (row_block hown116 hz).1); obtain ⟨a119, c119, e119⟩ := row_form hown119; subst e119)
                | (refine step_append_own rfl (.tmp 119) (.tmp 123) 46 rfl wC.heap.size 96 i0 _ 3 40 Tryz.underlying46 hi hz0 hz1 hz2 rfl (by decide) _ _ _ (by simp [Act.eval]) hown119 _ 0 0 (cellRow ((cs.drop k).map fun c => (c.1, c.2.1))) (by simp [Act.eval]) (by rw [cellRow_dropLen, show cs.length - k = 0 by omega]) (HDR.out _ G119) (fun u hu => HONE.out u (cellRow_dropMem hu)) (by unfold maxLen; omega) (by omega) (Gr.size G119) ?_; intro v124 w124 hown124 hgr124; have G124 : Gr wC w124 := Below.grown G119 hgr124 (Gr.size G119) (fun z hz => (row_block hown119 hz).1); rw [show 0 + k + 1 + 0 = cs.length + 1 by omega] at hown124; obtain ⟨a124, c124, e124⟩ := row_form hown124; subst e124; obtain ⟨z0, z1⟩ := HRB.out _ G124))
            all_goals
              have HF := hidE (ownX_ins (HXC.out.row) HXC.out hk G124 hown124 HSB.out hloC)
              have HF2 := hidE (ownX_box HF.out (HRK.out _ G124) (.slice a124 (cs.length + 1) c124))
              have HG9 : Hid (∀ w0, Gr w0 w → w0.heap.size ≤ lo → Gr w0 (w124.setCell ⟨w.heap.size + 1 + 1, 0, none⟩ (.slice a124 (cs.length + 1) c124))) := fun w0 g0 h0 => ((g0.trans HGC.out).trans G124).setCell (by have := g0.size; dsimp only; omega) _
              clear hown124
              go_wp2
              exact bodyPost_ret (v := .agg #[.slice a124 (cs.length + 1) c124]) (by simp [results, Tryz.results47, go_sem, z0]) rfl ⟨⟨_, _, rfl, HF2.out, HPN.out _⟩, HG9.out⟩
          ·
            go_region_held3 (fun w' => Gr w w' ∧ w'.cell? ⟨w.heap.size, 0, none⟩ = some (.slice (some ⟨g, 0, none⟩) cs.length cap) ∧ w'.cell? ⟨wB.heap.size + 1, 0, none⟩ = some (.int .i64 b.x) ∧ w'.cell? ⟨wB.heap.size + 1, 1, none⟩ = some (.int .i64 b.y) ∧ w'.cell? ⟨wB.heap.size + 1, 2, none⟩ = some (.slice (some ⟨wB.heap.size, 0, none⟩) 1 1))
              (first | (refine K9.out _ ?_; (repeat (first | with_reducible exact q0 | with_reducible assumption | with_reducible refine Gr.drew ?_ | with_reducible refine Gr.alloc ?_ _)); done) | (refine KZ.out _ _ ?_; with_reducible assumption) | fail)
              (first
                | (refine step_append_own rfl (.tmp 111) (.tmp 115) 46 rfl wC.heap.size 96 i0 _ 3 40 Tryz.underlying46 hi hz0 hz1 hz2 rfl (by decide) _ _ _ (by simp [Act.eval]) HOa.out ⟨g, 0, none⟩ k cap (cellRow ((cs.take k).map fun c => (c.1, c.2.1))) (by simp [Act.eval]) (cellRow_takeLen cs k hk) (HTK.out _ ((Gr.refl wC).alloc _).drew) (fun u hu => HONE.out u (cellRow_takeMem hu)) (by unfold maxLen; omega) (by omega) (Gr.size ((Gr.refl wC).alloc _).drew) ?_; intro v116 w116 hown116 hgr116; have G116 : Gr wC w116 := Below.grown ((Gr.refl wC).alloc _).drew hgr116 (Gr.size ((Gr.refl wC).alloc _).drew) (fun z hz => (row_block HOa.out hz).1); obtain ⟨a116, c116, e116⟩ := row_form hown116; subst e116)
                | (refine step_append_own rfl (.tmp 111) (.tmp 115) 46 rfl wC.heap.size 96 i0 _ 3 40 Tryz.underlying46 hi hz0 hz1 hz2 rfl (by decide) _ _ _ (by simp [Act.eval]) HOb.out ⟨g, 0, none⟩ k cap (cellRow ((cs.take k).map fun c => (c.1, c.2.1))) (by simp [Act.eval]) (cellRow_takeLen cs k hk) (HTK.out _ (((Gr.refl wC).alloc _).alloc _).drew) (fun u hu => HONE.out u (cellRow_takeMem hu)) (by unfold maxLen; omega) (by omega) (Gr.size (((Gr.refl wC).alloc _).alloc _).drew) ?_; intro v116 w116 hown116 hgr116; have G116 : Gr wC w116 := Below.grown (((Gr.refl wC).alloc _).alloc _).drew hgr116 (Gr.size (((Gr.refl wC).alloc _).alloc _).drew) (fun z hz => (row_block HOb.out hz).1); have HB24 := hidE ((hgr116.block (wC.heap.size + 1) (by simp) (by simp [Value.ownBlock])).trans HBb.out); obtain ⟨a116, c116, e116⟩ := row_form hown116; subst e116)
                | (refine step_append_own rfl (.tmp 111) (.tmp 115) 46 rfl wC.heap.size 96 i0 _ 3 40 Tryz.underlying46 hi hz0 hz1 hz2 rfl (by decide) _ _ _ (by simp [Act.eval]) HOc.out ⟨g, 0, none⟩ k cap (cellRow ((cs.take k).map fun c => (c.1, c.2.1))) (by simp [Act.eval]) (cellRow_takeLen cs k hk) (HTK.out _ (((Gr.refl wC).alloc _).alloc _).drew) (fun u hu => HONE.out u (cellRow_takeMem hu)) (by unfold maxLen; omega) (by omega) (Gr.size (((Gr.refl wC).alloc _).alloc _).drew) ?_; intro v116 w116 hown116 hgr116; have G116 : Gr wC w116 := Below.grown (((Gr.refl wC).alloc _).alloc _).drew hgr116 (Gr.size (((Gr.refl wC).alloc _).alloc _).drew) (fun z hz => (row_block HOc.out hz).1); have HB24 := hidE ((hgr116.block wC.heap.size (by simp; omega) (by simp [Value.ownBlock])).trans HBc.out); obtain ⟨a116, c116, e116⟩ := row_form hown116; subst e116)
                | (refine step_append_own rfl (.tmp 116) (.tmp 118) 46 rfl wC.heap.size 96 i0 _ 3 40 Tryz.underlying46 hi hz0 hz1 hz2 rfl (by decide) _ _ _ (by simp [Act.eval]) (hown116.alloc _) ⟨w116.heap.size, 0, none⟩ 1 1 [.int .i64 b.x, .int .i64 b.y, .slice (some ⟨wB.heap.size, 0, none⟩) 1 1] (by simp [Act.eval]) rfl (news_cells w116 _ rfl [.int .i64 b.x, .int .i64 b.y, .slice (some ⟨wB.heap.size, 0, none⟩) 1 1] _) (by simp [Value.oneCell']) (by unfold maxLen; omega) (by omega) (Gr.size (G116.alloc _)) ?_; intro v119 w119 hown119 hgr119; have G119 : Gr wC w119 := Below.grown (G116.alloc _) hgr119 (Gr.size (G116.alloc _)) (fun z hz => (row_block hown116 hz).1); obtain ⟨a119, c119, e119⟩ := row_form hown119; subst e119)
                | (refine step_append_own rfl (.tmp 116) (.tmp 118) 46 rfl wC.heap.size 96 i0 _ 3 40 Tryz.underlying46 hi hz0 hz1 hz2 rfl (by decide) _ _ _ (by simp [Act.eval]) hown116 ⟨wC.heap.size + 1, 0, none⟩ 1 1 [.int .i64 b.x, .int .i64 b.y, .slice (some ⟨wB.heap.size, 0, none⟩) 1 1] (by simp [Act.eval]) rfl (blk_cells (vs := [.int .i64 b.x, .int .i64 b.y, .slice (some ⟨wB.heap.size, 0, none⟩) 1 1]) HB24.out) (by simp [Value.oneCell']) (by unfold maxLen; omega) (by omega) (Gr.size G116) ?_; intro v119 w119 hown119 hgr119; have G119 : Gr wC w119 := Below.grown G116 hgr119 (Gr.size G116) (fun z hz => (row_block hown116 hz).1); obtain ⟨a119, c119, e119⟩ := row_form hown119; subst e119)
                | (refine step_append_own rfl (.tmp 116) (.tmp 118) 46 rfl wC.heap.size 96 i0 _ 3 40 Tryz.underlying46 hi hz0 hz1 hz2 rfl (by decide) _ _ _ (by simp [Act.eval]) hown116 ⟨wC.heap.size, 0, none⟩ 1 1 [.int .i64 b.x, .int .i64 b.y, .slice (some ⟨wB.heap.size, 0, none⟩) 1 1] (by simp [Act.eval]) rfl (blk_cells (vs := [.int .i64 b.x, .int .i64 b.y, .slice (some ⟨wB.heap.size, 0, none⟩) 1 1]) HB24.out) (by simp [Value.oneCell']) (by unfold maxLen; omega) (by omega) (Gr.size G116) ?_; intro v119 w119 hown119 hgr119; have G119 : Gr wC w119 := Below.grown G116 hgr119 (Gr.size G116) (fun z hz => (row_block hown116 hz).1); obtain ⟨a119, c119, e119⟩ := row_form hown119; subst e119)
                | (refine step_append_own rfl (.tmp 119) (.tmp 123) 46 rfl wC.heap.size 96 i0 _ 3 40 Tryz.underlying46 hi hz0 hz1 hz2 rfl (by decide) _ _ _ (by simp [Act.eval]) hown119 _ (cs.length - k) (cap - k) (cellRow ((cs.drop k).map fun c => (c.1, c.2.1))) (by simp [Act.eval]) (cellRow_dropLen cs k) (HDR.out _ G119) (fun u hu => HONE.out u (cellRow_dropMem hu)) (by unfold maxLen; omega) (by omega) (Gr.size G119) ?_; intro v124 w124 hown124 hgr124; have G124 : Gr wC w124 := Below.grown G119 hgr124 (Gr.size G119) (fun z hz => (row_block hown119 hz).1); rw [show 0 + k + 1 + (cs.length - k) = cs.length + 1 by omega] at hown124; obtain ⟨a124, c124, e124⟩ := row_form hown124; subst e124; obtain ⟨z0, z1⟩ := HRB.out _ G124))
            all_goals
              have HF := hidE (ownX_ins (HXC.out.row) HXC.out hk G124 hown124 HSB.out hloC)
              have HF2 := hidE (ownX_box HF.out (HRK.out _ G124) (.slice a124 (cs.length + 1) c124))
              have HG9 : Hid (∀ w0, Gr w0 w → w0.heap.size ≤ lo → Gr w0 (w124.setCell ⟨w.heap.size + 1 + 1, 0, none⟩ (.slice a124 (cs.length + 1) c124))) := fun w0 g0 h0 => ((g0.trans HGC.out).trans G124).setCell (by have := g0.size; dsimp only; omega) _
              clear hown124
              go_wp2
              exact bodyPost_ret (v := .agg #[.slice a124 (cs.length + 1) c124]) (by simp [results, Tryz.results47, go_sem, z0]) rfl ⟨⟨_, _, rfl, HF2.out, HPN.out _⟩, HG9.out⟩
      · obtain ⟨hkl, hp, hform⟩ := hit_form hH
        have hi1 : (k : Int) < (cs.length : Int) := by omega
        obtain ⟨g, sa, sc, rfl, hg, hlg, c0, c1, c2, ev, hsl, hfz⟩ := (own_cells HXB.out).2 k hkl
        have hgw : g < w.heap.size := (row_block HX.out.row rfl).2.1
        have hmem := List.mem_of_getElem? (cx_get hkl)
        obtain ⟨hne, hsn⟩ := HS.out _ hmem
        have hrow := HXB.out.slots _ hmem
        generalize cs.getD k Cx.nil = c at *
        obtain ⟨⟨cx, cy⟩, cv, ss⟩ := c
        simp only at c0 c1 c2 ev hsl hne hsn hrow hp
        subst ev
        obtain ⟨q, cq, eq⟩ := row_some hrow (List.length_pos_iff.2 hne)
        simp only [Value.slice.injEq, true_and] at eq
        obtain ⟨rfl, rfl⟩ := eq
        have hcq := row_cap hrow
        have hqw : q < wB.heap.size := (row_block hrow rfl).2.1
        have HSL : Hid (∀ w', Gr wB w' → Calls Tryz.prog 84 #[.slice (some ⟨q, 0, none⟩) ss.length sc, .agg #[.int .i64 b.i, .int .i64 b.o, .int .i64 b.l, .int .i64 b.h, .string s, .int .i64 n]] w' fun e w'' => (∃ v j, e = .returned v ∧ ahead (fun a => slLt a (slotOf s n b).2) ss j ∧ w''.ownsRow w'.heap.size 84 6 v (ss.length + 1) ((ss.take j ++ (slotOf s n b).2 :: ss.drop j).flatMap encS)) ∧ Gr w' w'') := fun w' g' => l5Slot_any q 0 sc ss (slotOf s n b).2 w' (fun i hi => by
          obtain ⟨g2, o2, e2, hg2, hx2⟩ := hsl i hi
          cases e2
          exact sixS_gr hx2 g' hg2) (Nat.lt_of_lt_of_le hqw g'.size) (by omega) hcq
        have K6 : Hid (∀ w', Gr wB w' → w'.cell? ⟨w.heap.size, 0, none⟩ = some (.slice (some ⟨g, 0, none⟩) cs.length cap) ∧ w'.cell? ⟨w.heap.size + 1 + 1 + 1, 0, none⟩ = some (.int .i64 b.i) ∧ w'.cell? ⟨w.heap.size + 1 + 1 + 1, 1, none⟩ = some (.int .i64 b.o) ∧ w'.cell? ⟨w.heap.size + 1 + 1 + 1, 2, none⟩ = some (.int .i64 b.l) ∧ w'.cell? ⟨w.heap.size + 1 + 1 + 1, 3, none⟩ = some (.int .i64 b.h) ∧ w'.cell? ⟨w.heap.size + 1 + 1 + 1, 4, none⟩ = some (.string s) ∧ w'.cell? ⟨w.heap.size + 1 + 1 + 1, 5, none⟩ = some (.int .i64 n)) := fun w' g' => ⟨(K1.out w' (HGB.out.trans g')).1.1, (K1.out w' (HGB.out.trans g')).2.1⟩
        have K7 : Hid (∀ (w' : World) (u : Value), Gr wB w' → (w'.setCell ⟨g, k * 3 + 2, none⟩ u).cell? ⟨w.heap.size, 0, none⟩ = some (.slice (some ⟨g, 0, none⟩) cs.length cap) ∧ (w'.setCell ⟨g, k * 3 + 2, none⟩ u).cell? ⟨w.heap.size + 1 + 1 + 1, 0, none⟩ = some (.int .i64 b.i) ∧ (w'.setCell ⟨g, k * 3 + 2, none⟩ u).cell? ⟨w.heap.size + 1 + 1 + 1, 1, none⟩ = some (.int .i64 b.o) ∧ (w'.setCell ⟨g, k * 3 + 2, none⟩ u).cell? ⟨w.heap.size + 1 + 1 + 1, 2, none⟩ = some (.int .i64 b.l) ∧ (w'.setCell ⟨g, k * 3 + 2, none⟩ u).cell? ⟨w.heap.size + 1 + 1 + 1, 3, none⟩ = some (.int .i64 b.h) ∧ (w'.setCell ⟨g, k * 3 + 2, none⟩ u).cell? ⟨w.heap.size + 1 + 1 + 1, 4, none⟩ = some (.string s) ∧ (w'.setCell ⟨g, k * 3 + 2, none⟩ u).cell? ⟨w.heap.size + 1 + 1 + 1, 5, none⟩ = some (.int .i64 n)) := fun w' u g' => by
          have hb : ∀ x o, x ≠ g → (w'.setCell ⟨g, k * 3 + 2, none⟩ u).cell? ⟨x, o, none⟩ = w'.cell? ⟨x, o, none⟩ := fun x o hx => World.cell?_of_block (Below.heap_setCell _ _ _ _ (by exact hx))
          have h6 := K6.out w' g'
          simp only [hb w.heap.size _ (by omega), hb (w.heap.size + 1 + 1 + 1) _ (by omega)]
          exact h6
        have HFZ : Hid (∀ w', Gr wB w' → w'.frozen? ⟨g, k * 3 + 2, none⟩ = false ∧ w'.cell? ⟨g, k * 3 + 2, none⟩ = some (.slice (some ⟨q, 0, none⟩) ss.length sc)) := fun w' g' => ⟨(g'.cells.2 _ _ hg).trans (hfz _), (g'.cells.1 _ _ hg).trans c2⟩
        have HFIN : Hid (∀ (w5 : World) (v5 : Value) (j : Nat), Gr wB w5 → ahead (fun a => slLt a (slotOf s n b).2) ss j → w5.ownsRow wB.heap.size 84 6 v5 (ss.length + 1) ((ss.take j ++ (slotOf s n b).2 :: ss.drop j).flatMap encS) → ∃ cs', OwnX lo (w5.setCell ⟨g, k * 3 + 2, none⟩ v5) (.slice (some ⟨g, 0, none⟩) cs.length cap) cs' ∧ PutTo cs cs' (slotOf s n b)) := fun w5 v5 j g5 hj h5 => by
          refine ⟨_, ownX_slots (c := ((cx, cy), .slice (some ⟨q, 0, none⟩) ss.length sc, ss)) (hform ▸ HXB.out) (congrArg List.length hform) (by rw [List.length_take]; omega) g5 (ss := ss.take j ++ (slotOf s n b).2 :: ss.drop j) (by
            have e : (ss.take j ++ (slotOf s n b).2 :: ss.drop j).length = ss.length + 1 := by have := hj.1; simp only [List.length_append, List.length_take, List.length_cons, List.length_drop]; omega
            rw [e]
            exact h5) (by omega), put_hit hform rfl hp hj⟩
        obtain ⟨-, -, z0, z1, z2⟩ := K1.out wB HGB.out
        have q0 := Gr.refl wB
        have HRK : Hid (∀ w', Gr wB w' → w'.cell? ⟨w.heap.size + 1 + 1, 0, none⟩ = some (.slice none 0 0) ∧ w'.frozen? ⟨w.heap.size + 1 + 1, 0, none⟩ = false ∧ ∃ cur fr, w'.heap[w.heap.size + 1 + 1]? = some (.cells cur 48 fr)) := fun w' g' => (K1.out w' (HGB.out.trans g')).2.2
        have HC2 := hidE c2
        clear z0 z1 z2 hfz hsl hrow hform hH HAH hp c0 c1 c2
        go_upto_region 6 with fail
        have hH := K6.out _ q0.drew
        refine wp_region_held (S := fun w' => w'.cell? ⟨w.heap.size, 0, none⟩ = some (.slice (some ⟨g, 0, none⟩) cs.length cap) ∧ w'.cell? ⟨w.heap.size + 1 + 1 + 1, 0, none⟩ = some (.int .i64 b.i) ∧ w'.cell? ⟨w.heap.size + 1 + 1 + 1, 1, none⟩ = some (.int .i64 b.o) ∧ w'.cell? ⟨w.heap.size + 1 + 1 + 1, 2, none⟩ = some (.int .i64 b.l) ∧ w'.cell? ⟨w.heap.size + 1 + 1 + 1, 3, none⟩ = some (.int .i64 b.h) ∧ w'.cell? ⟨w.heap.size + 1 + 1 + 1, 4, none⟩ = some (.string s) ∧ w'.cell? ⟨w.heap.size + 1 + 1 + 1, 5, none⟩ = some (.int .i64 n)) (by kernel_rfl) ?_
        change wpAnyH _ _ _ _ _ _ _ _ (World.drew _)
        refine takeI (i := 0) (d := 90) (v := .pointer (some ⟨w.heap.size, 0, none⟩)) rfl rfl (by kernel_rfl) (by kernel_rfl) (by kernel_rfl) (fun _ _ _ h => h) hH (Or.inl ⟨by rfl, by rintro w' ⟨s0, s1, s2, s3, s4, s5, s6⟩; go_simp⟩) ?_
        simp only [Act.put, List.setIfInBounds_toArray, List.set_cons_zero, List.set_cons_succ]
        refine takeI (i := 1) (d := 91) (v := .slice (some ⟨g, 0, none⟩) cs.length cap) rfl rfl (by kernel_rfl) (by kernel_rfl) (by kernel_rfl) (fun _ _ _ h => h) hH (Or.inl ⟨by rfl, by rintro w' ⟨s0, s1, s2, s3, s4, s5, s6⟩; go_simp⟩) ?_
        simp only [Act.put, List.setIfInBounds_toArray, List.set_cons_zero, List.set_cons_succ]
        refine takeI (i := 2) (d := 92) (v := .int .i64 k) rfl rfl (by kernel_rfl) (by kernel_rfl) (by kernel_rfl) (fun _ _ _ h => h) hH (Or.inl ⟨by rfl, by rintro w' ⟨s0, s1, s2, s3, s4, s5, s6⟩; go_simp⟩) ?_
        simp only [Act.put, List.setIfInBounds_toArray, List.set_cons_zero, List.set_cons_succ]
        refine takeI (i := 3) (d := 93) (v := .pointer (some ⟨w.heap.size, 0, none⟩)) rfl rfl (by kernel_rfl) (by kernel_rfl) (by kernel_rfl) (fun _ _ _ h => h) hH (Or.inl ⟨by rfl, by rintro w' ⟨s0, s1, s2, s3, s4, s5, s6⟩; go_simp⟩) ?_
        simp only [Act.put, List.setIfInBounds_toArray, List.set_cons_zero, List.set_cons_succ]
        refine takeI (i := 4) (d := 94) (v := .slice (some ⟨g, 0, none⟩) cs.length cap) rfl rfl (by kernel_rfl) (by kernel_rfl) (by kernel_rfl) (fun _ _ _ h => h) hH (Or.inl ⟨by rfl, by rintro w' ⟨s0, s1, s2, s3, s4, s5, s6⟩; go_simp⟩) ?_
        simp only [Act.put, List.setIfInBounds_toArray, List.set_cons_zero, List.set_cons_succ]
        refine takeI (i := 5) (d := 95) (v := .int .i64 k) rfl rfl (by kernel_rfl) (by kernel_rfl) (by kernel_rfl) (fun _ _ _ h => h) hH (Or.inl ⟨by rfl, by rintro w' ⟨s0, s1, s2, s3, s4, s5, s6⟩; go_simp⟩) ?_
        simp only [Act.put, List.setIfInBounds_toArray, List.set_cons_zero, List.set_cons_succ]
        refine takeI (i := 6) (d := 96) (v := .pointer (some ⟨g, k * 3, none⟩)) rfl rfl (by kernel_rfl) (by kernel_rfl) (by kernel_rfl) (fun _ _ _ h => h) hH (Or.inl ⟨by rfl, by rintro w' ⟨s0, s1, s2, s3, s4, s5, s6⟩; go_simp⟩) ?_
        simp only [Act.put, List.setIfInBounds_toArray, List.set_cons_zero, List.set_cons_succ]
        refine takeI (i := 7) (d := 97) (v := .pointer (some ⟨g, k * 3 + 2, none⟩)) rfl rfl (by kernel_rfl) (by kernel_rfl) (by kernel_rfl) (fun _ _ _ h => h) hH (Or.inl ⟨by rfl, by rintro w' ⟨s0, s1, s2, s3, s4, s5, s6⟩; go_simp⟩) ?_
        simp only [Act.put, List.setIfInBounds_toArray, List.set_cons_zero, List.set_cons_succ]
        refine takeI (i := 9) (d := 99) (v := .agg #[.int .i64 b.i, .int .i64 b.o, .int .i64 b.l, .int .i64 b.h, .string s, .int .i64 n]) rfl rfl (by kernel_rfl) (by kernel_rfl) (by kernel_rfl) (fun _ _ _ h => h) hH (Or.inl ⟨by rfl, by rintro w' ⟨s0, s1, s2, s3, s4, s5, s6⟩; go_simp⟩) ?_
        simp only [Act.put, List.setIfInBounds_toArray, List.set_cons_zero, List.set_cons_succ]
        have c2 : wB.cell? ⟨g, k * 3 + 2, none⟩ = some (.slice (some ⟨q, 0, none⟩) ss.length sc) := HC2.out
        refine wpAnyH_ready (rs := [8]) (by kernel_rfl) (by simp) ?_
        refine AllReadyH.cons (o := _) rfl (fun K hK => ?_) AllReadyH.nil
        go_simp
        refine hK.out _ _ (K6.out _ q0.drew) (fun hH => ?_)
        clear hK K c2
        (try simp only [Act.put, List.setIfInBounds_toArray, List.set_cons_zero, List.set_cons_succ])
        refine wpAnyH_ready (rs := [10]) (by kernel_rfl) (by simp) ?_
        refine AllReadyH.cons (o := _) rfl (fun K hK => ?_) AllReadyH.nil
        refine step_call rfl 84 #[.slice (some ⟨q, 0, none⟩) ss.length sc, .agg #[.int .i64 b.i, .int .i64 b.o, .int .i64 b.l, .int .i64 b.h, .string s, .int .i64 n]] (by go_simp) (HSL.out _ q0.drew) ?_
        rintro e w5 ⟨⟨v5, j, rfl, hj, h5⟩, g5⟩
        refine ⟨_, rfl, ?_⟩
        have G5 : Gr wB w5 := q0.drew.trans g5
        obtain ⟨a5, c5, e5⟩ := row_form h5
        subst e5
        have HFN := hidE (HFIN.out w5 _ j G5 hj h5)
        refine hK.out _ _ (K6.out _ G5) (fun hH => ?_)
        clear hK K h5 hj HFIN
        (try simp only [Act.put, List.setIfInBounds_toArray, List.set_cons_zero, List.set_cons_succ])
        refine takeI (i := 11) (d := 101) (v := .pointer (some ⟨g, k * 3, none⟩)) rfl rfl (by kernel_rfl) (by kernel_rfl) (by kernel_rfl) (fun _ _ _ h => h) hH (Or.inl ⟨by rfl, by rintro w' ⟨s0, s1, s2, s3, s4, s5, s6⟩; go_simp⟩) ?_
        simp only [Act.put, List.setIfInBounds_toArray, List.set_cons_zero, List.set_cons_succ]
        refine takeI (i := 12) (d := 102) (v := .pointer (some ⟨g, k * 3 + 2, none⟩)) rfl rfl (by kernel_rfl) (by kernel_rfl) (by kernel_rfl) (fun _ _ _ h => h) hH (Or.inl ⟨by rfl, by rintro w' ⟨s0, s1, s2, s3, s4, s5, s6⟩; go_simp⟩) ?_
        simp only [Act.put, List.setIfInBounds_toArray, List.set_cons_zero, List.set_cons_succ]
        obtain ⟨f5, k5⟩ := HFZ.out w5 G5
        refine wpAnyH_ready (rs := [13]) (by kernel_rfl) (by simp) ?_
        refine AllReadyH.cons (o := _) rfl (fun K hK => ?_) AllReadyH.nil
        go_simp
        refine hK.out _ _ (K7.out _ _ G5) (fun hH => ?_)
        clear hK K f5 k5
        (try simp only [Act.put, List.setIfInBounds_toArray, List.set_cons_zero, List.set_cons_succ])
        refine wpAnyH_done (by kernel_rfl) ?_ _
        obtain ⟨cs', hX', hP'⟩ := HFN.out
        have y0 := (K7.out w5 (.slice a5 (ss.length + 1) c5) G5).1
        obtain ⟨r0, r1, cur, fr, r2⟩ := HRK.out w5 G5
        have r2' : (w5.setCell ⟨g, k * 3 + 2, none⟩ (.slice a5 (ss.length + 1) c5)).heap[w.heap.size + 1 + 1]? = some (.cells cur 48 fr) := (Below.heap_setCell _ _ _ _ (by show w.heap.size + 1 + 1 ≠ g; omega)).trans r2
        have r0' : (w5.setCell ⟨g, k * 3 + 2, none⟩ (.slice a5 (ss.length + 1) c5)).cell? ⟨w.heap.size + 1 + 1, 0, none⟩ = some (.slice none 0 0) := (World.cell?_of_block (r2'.trans r2.symm)).trans r0
        have r1' : (w5.setCell ⟨g, k * 3 + 2, none⟩ (.slice a5 (ss.length + 1) c5)).frozen? ⟨w.heap.size + 1 + 1, 0, none⟩ = false := (World.frozen?_of_block (r2'.trans r2.symm)).trans r1
        have HFO := hidE (ownX_box hX' ⟨cur, fr, r2'⟩ (.slice (some ⟨g, 0, none⟩) cs.length cap))
        have HGO : Hid (∀ w0, Gr w0 w → w0.heap.size ≤ lo → Gr w0 ((w5.setCell ⟨g, k * 3 + 2, none⟩ (.slice a5 (ss.length + 1) c5)).setCell ⟨w.heap.size + 1 + 1, 0, none⟩ (.slice (some ⟨g, 0, none⟩) cs.length cap))) := fun w0 g0 h0 => by
          have hz := g0.size
          refine Gr.setCell (Gr.setCell (((g0.trans HG1.out).trans HGB.out).trans G5) (by show w0.heap.size ≤ g; omega) _) (by dsimp only; omega) _
        have HPO := hidE hP'
        clear hX' hP' HFN r2 r2' r0 r1
        go_wp2
        exact bodyPost_ret (v := .agg #[.slice (some ⟨g, 0, none⟩) cs.length cap]) (by simp [results, Tryz.results47, go_sem, r0']) rfl ⟨⟨_, cs', rfl, HFO.out, HPO.out⟩, HGO.out⟩
    · obtain ⟨hkl, hT2⟩ := clAt_true hB HT.out
      have HT2 := hidE hT2
      clear hT2 HT hB
      go_wp2
      go_roundw
      case rel => exact ⟨k + 1, by omega, by go_num, HGR.out.trans g3, HT2⟩
      case measure => simp [intOf]; omega
end Go.Proofs.YtpdcgjkfilohcabGreat
