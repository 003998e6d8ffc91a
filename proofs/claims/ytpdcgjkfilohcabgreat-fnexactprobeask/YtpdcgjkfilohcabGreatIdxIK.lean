import Derived.Test.YtpdcgjkfilohcabGreatIdxDH
namespace Go.Proofs.YtpdcgjkfilohcabGreat
open Go.RowKit Go.Sort Go.Maps
set_option linter.unusedSimpArgs false
set_option linter.unusedVariables false

theorem Tryz.info84 : (Tryz.prog.info? 84).map (fun i => (i.zero, i.size, i.bytes)) = some (some (.agg #[.int .i64 0, .int .i64 0, .int .i64 0, .int .i64 0, .string ⟨#[]⟩, .int .i64 0]), 6, 56) := by kernel_rfl
theorem Tryz.zeroSlots (w : World) : (zeroValue 94).run Tryz.prog w = .ok (.slice none 0 0) w := by kernel_rfl
/-- Cells that are there. -/
theorem encS_one {ss : List Sl} {u : Value} (h : u ∈ ss.flatMap encS) : u.oneCell' = true := by
  obtain ⟨s, _, hu⟩ := List.mem_flatMap.1 h
  simp [encS] at hu
  rcases hu with rfl | rfl | rfl | rfl | rfl | rfl <;> rfl
theorem encS_len (ss : List Sl) : (ss.flatMap encS).length = ss.length * 6 := by
  induction ss with
  | nil => rfl
  | cons s l ih => rw [List.flatMap_cons, List.length_append, ih, List.length_cons]; simp [encS]; omega
/-- The map, over this program. -/
abbrev Grp (lo b : Nat) (w : World) (S : Int × Int → List Sl) (ks : List (Int × Int)) (V : Int × Int → Value) : Prop := Groups Tryz.prog 82 84 6 encS lo b w S ks V
/-- Cells stay, but for blocks of one type. -/
structure Stays (A : TypeId) (W w' : World) : Prop where
  size : W.heap.size ≤ w'.heap.size
  same : ∀ (k : Nat) (cur : Array Value) (t : TypeId) (fr : Nat × Nat), W.heap[k]? = some (.cells cur t fr) → t ≠ A → w'.heap[k]? = some (.cells cur t fr)
theorem Stays.refl (A : TypeId) (W : World) : Stays A W W := ⟨Nat.le_refl _, fun _ _ _ _ h _ => h⟩
theorem Stays.trans {A : TypeId} {X Y Z : World} (h : Stays A X Y) (k : Stays A Y Z) : Stays A X Z := ⟨Nat.le_trans h.size k.size, fun i c t f hi ht => k.same i c t f (h.same i c t f hi ht) ht⟩
theorem Stays.grown {A : TypeId} {W x y : World} {row : Option Nat} (h : Stays A W x) (hg : x.grownBy y row) (hr : ∀ r, row = some r → (∃ cur fr, x.heap[r]? = some (.cells cur A fr)) ∨ ∃ es c, x.heap[r]? = some (.map es c)) : Stays A W y :=
  ⟨Nat.le_trans h.size hg.size, fun k c t f hk ht => by
    have h1 := h.same k c t f hk ht
    refine (hg.block k (Array.getElem?_eq_some_iff.1 h1).1 (fun e => ?_)).trans h1
    rcases hr k e.symm with ⟨cur, fr, h2⟩ | ⟨es, c, h2⟩
    · rw [h1] at h2
      cases h2
      exact ht rfl
    · rw [h1] at h2
      cases h2⟩
theorem Stays.gr {A : TypeId} {W x y : World} (h : Stays A W x) (g : Gr x y) : Stays A W y :=
  h.grown (row := none) ⟨g.os, g.tape, g.output, g.size, fun k hk _ => g.block k hk⟩ (fun r e => by cases e)
theorem Stays.cell {A : TypeId} {W w' : World} {b o : Nat} {cur : Array Value} {t : TypeId} {fr : Nat × Nat} (h : Stays A W w') (ht : t ≠ A) (hb : W.heap[b]? = some (.cells cur t fr)) : w'.cell? ⟨b, o, none⟩ = W.cell? ⟨b, o, none⟩ :=
  World.cell?_of_block ((h.same b _ _ _ hb ht).trans hb.symm)
theorem slotsAt_le (k : Int × Int) (all : List Pt) : (slotsAt k all).length ≤ all.length := by
  unfold slotsAt
  rw [List.length_map]
  exact List.length_filter_le _ _

set_option maxRecDepth 100000 in
set_option maxHeartbeats 1000000 in
theorem add_any (k : Int × Int) (hk : Wk k) (ss : List Sl) (ad : Addr) (cap lo b : Nat) (w : World) (S : Int × Int → List Sl) (ks : List (Int × Int)) (V : Int × Int → Value) (h : Grp lo b w S ks V) (hks : ks.length ≤ 1048576) (hal : (S k).length + ss.length ≤ 1048576) (hlo : lo ≤ w.heap.size)
    (hsrc : ∀ j u, (ss.flatMap encS)[j]? = some u → w.cell? (ad.add j) = some u) (hblk : ad.block < w.heap.size) (hb : ad.block ≠ b) :
    Calls Tryz.prog 48 #[.map (some b), .agg #[.int .i64 k.1, .int .i64 k.2], .slice (some ad) ss.length cap] w fun e w' => e = .returned (.tuple #[]) ∧ (∃ v', Grp lo b w' (fun j => if j = k then S k ++ ss else S j) (k :: ks) (fun j => if j = k then v' else V j)) ∧ (∀ w0, Gr w0 w → w0.heap.size ≤ b → w0.heap.size ≤ lo → Gr w0 w') ∧ Stays 84 w w' := by
  obtain ⟨i0, hi, hz0, hz1, hz2⟩ := info_parts Tryz.info84
  obtain ⟨st, wE, hrun, hgE, hszE, hrowE, hback⟩ := (h.gr ((Gr.refl w).alloc (.cells #[.int .i64 k.1, .int .i64 k.2] 82))).entry keyT Tryz.underlying79 Tryz.zeroSlots (by unfold maxLen; omega) hk
  have hrows := h.rows k hk
  dsimp only [kv] at hrun
  have hsrcE : ∀ j u, (ss.flatMap encS)[j]? = some u → wE.cell? (ad.add j) = some u := by
    intro j u hu
    have h1 := hsrc j u hu
    have eb : (ad.add j).block = ad.block := by unfold Addr.add; split <;> rfl
    have e1 : (w.alloc (.cells #[.int .i64 k.1, .int .i64 k.2] 82)).cell? (ad.add j) = w.cell? (ad.add j) := World.cell?_of_block (by rw [eb]; exact Below.heap_alloc _ _ _ hblk)
    rw [← h1, ← e1]
    refine World.cell?_of_block ?_
    rw [eb]
    exact hgE.block _ (by simp; omega) (fun e => hb (by cases e; rfl))
  have HB : Hid _ := hback
  have HR : Hid _ := hrows
  have HM : Hid (∃ es c, (w.alloc (.cells #[.int .i64 k.1, .int .i64 k.2] 82)).heap[b]? = some (.map es c)) := by
    obtain ⟨D, hD, _⟩ := (h.gr ((Gr.refl w).alloc (.cells #[.int .i64 k.1, .int .i64 k.2] 82))).own
    exact map_block hD
  clear hsrc h hback hrows
  go_enter Tryz.func48, Tryz.ntmps48
  go_wp2_with (first
    | (at_builtin; refine wpList_append_own_at _ rfl _ _ 94 rfl lo 84 i0 _ 6 56 Tryz.underlying94 hi hz0 hz1 hz2 rfl (by decide) _ _ _ rfl hrowE ad ss.length cap (ss.flatMap encS) rfl (encS_len ss) hsrcE (fun u hu => encS_one hu) (by unfold maxLen; omega) (by omega) (by rw [hszE]; simp; omega) ?_; intro v' w3 hown' hgrow hnil hloc
       obtain ⟨w2, hst, hG2, hg2, hm3⟩ := HB.out w3 v' ss hgrow hown' (hloc.imp id (fun e => ⟨_, e, by rw [hszE]; exact Nat.le_refl _⟩))
       dsimp only [goInt] at hst))
  go_end0
  have hmE : ∃ es c, (w.alloc (.cells #[.int .i64 k.1, .int .i64 k.2] 82)).heap[b]? = some (.map es c) := HM.out
  have st1 : Stays 84 w wE := ((Stays.refl _ w).gr ((Gr.refl w).alloc _)).grown hgE (fun r e => by cases e; exact Or.inr hmE)
  have st3 : Stays 84 w w3 := st1.grown hgrow (fun r e => by obtain ⟨_, _, cur, hc⟩ := row_block hrowE e; exact Or.inl ⟨cur, _, hc⟩)
  have st2 : Stays 84 w w2 := st3.grown hg2 (fun r e => by cases e; exact Or.inr hm3)
  refine ⟨rfl, ⟨v', hG2⟩, fun w0 g0 h0b h0l => ?_, st2⟩
  have g1 : Gr w0 (w.alloc (.cells #[.int .i64 k.1, .int .i64 k.2] 82)) := g0.alloc _
  have g2 : Gr w0 wE := Below.grown g1 hgE g1.size (fun j e => by cases e; exact h0b)
  have g3 : Gr w0 w3 := Below.grown g2 hgrow g2.size (fun j e => Nat.le_trans h0l (row_block HR.out e).1)
  exact Below.grown g3 hg2 g3.size (fun j e => by cases e; exact h0b)
end Go.Proofs.YtpdcgjkfilohcabGreat

namespace Go.Proofs.YtpdcgjkfilohcabGreat
open Go.RowKit Go.Sort Go.Maps
set_option linter.unusedSimpArgs false
set_option linter.unusedVariables false

/-- Nothing has turned but blocks of two types. -/
structure Quiet (A B : TypeId) (W w' : World) : Prop where
  size : W.heap.size ≤ w'.heap.size
  same : ∀ (k : Nat) (o : Obj), W.heap[k]? = some o → (∀ cur fr, o ≠ .cells cur A fr ∧ o ≠ .cells cur B fr) → w'.heap[k]? = some o
section
variable {A B : TypeId} {W w' : World}
theorem Quiet.refl (W : World) : Quiet A B W W := ⟨Nat.le_refl _, fun _ _ h _ => h⟩
theorem Quiet.trans {X Y Z : World} (h : Quiet A B X Y) (k : Quiet A B Y Z) : Quiet A B X Z := ⟨Nat.le_trans h.size k.size, fun i o hi ho => k.same i o (h.same i o hi ho) ho⟩
theorem Quiet.drew (h : Quiet A B W w') : Quiet A B W w'.drew := ⟨h.size, h.same⟩
theorem Quiet.alloc (h : Quiet A B W w') (o : Obj) : Quiet A B W (w'.alloc o) := ⟨by have := h.size; simp; omega, fun k o' hk ho => (Below.heap_alloc _ _ _ (Array.getElem?_eq_some_iff.1 (h.same k o' hk ho)).1).trans (h.same k o' hk ho)⟩
theorem Quiet.grown {x y : World} {row : Option Nat} (h : Quiet A B W x) (hg : x.grownBy y row) (hr : ∀ r, row = some r → ∃ cur fr, x.heap[r]? = some (.cells cur A fr) ∨ x.heap[r]? = some (.cells cur B fr)) : Quiet A B W y :=
  ⟨Nat.le_trans h.size hg.size, fun k o hk ho => by
    have h1 := h.same k o hk ho
    refine (hg.block k (Array.getElem?_eq_some_iff.1 h1).1 (fun e => ?_)).trans h1
    obtain ⟨cur, fr, h2 | h2⟩ := hr k e.symm
    · rw [h1] at h2
      exact (ho cur fr).1 (Option.some.inj h2)
    · rw [h1] at h2
      exact (ho cur fr).2 (Option.some.inj h2)⟩
theorem Quiet.gr {x y : World} (h : Quiet A B W x) (g : Gr x y) : Quiet A B W y :=
  h.grown (row := none) ⟨g.os, g.tape, g.output, g.size, fun k hk _ => g.block k hk⟩ (fun r e => by cases e)
theorem Quiet.row {base : Nat} {e : TypeId} {size : Nat} {v : Value} {k : Nat} {xs : List Value} (h : Quiet A B W w') (hA : e ≠ A) (hB : e ≠ B) (ho : W.ownsRow base e size v k xs) : w'.ownsRow base e size v k xs := by
  refine ⟨ho.1, ho.2.imp id (fun ⟨g, cap, cur, e1, e2, e3, r⟩ => ⟨g, cap, cur, e1, e2, h.same g _ e3 (fun c f => ⟨fun e => hA (by cases e; rfl), fun e => hB (by cases e; rfl)⟩), r⟩)⟩
theorem Quiet.cell {b o : Nat} {cur : Array Value} {t : TypeId} {fr : Nat × Nat} (h : Quiet A B W w') (hA : t ≠ A) (hB : t ≠ B) (hb : W.heap[b]? = some (.cells cur t fr)) : w'.cell? ⟨b, o, none⟩ = W.cell? ⟨b, o, none⟩ ∧ w'.frozen? ⟨b, o, none⟩ = W.frozen? ⟨b, o, none⟩ := by
  have h1 := h.same b _ hb (fun c f => ⟨fun e => hA (by cases e; rfl), fun e => hB (by cases e; rfl)⟩)
  exact ⟨World.cell?_of_block (h1.trans hb.symm), World.frozen?_of_block (h1.trans hb.symm)⟩
end
theorem quiet_groups {P : Program} {K e A B : TypeId} {size : Nat} {enc : Sl → List Value} {lo b : Nat} {w w' : World} {S : Int × Int → List Sl} {ks : List (Int × Int)} {V : Int × Int → Value} (h : Groups P K e size enc lo b w S ks V) (q : Quiet A B w w') (hA : e ≠ A) (hB : e ≠ B) : Groups P K e size enc lo b w' S ks V := by
  obtain ⟨D, ⟨es, c, hb, r⟩, h2, h3⟩ := h.own
  exact ⟨⟨D, ⟨es, c, q.same b _ hb (fun c f => ⟨(fun e => by cases e), (fun e => by cases e)⟩), r⟩, h2, h3⟩, fun k hk => q.row hA hB (h.rows k hk), h.apart⟩

set_option maxHeartbeats 400000 in
theorem slotOf_any (s : ByteArray) (k : Int) (b : Bx) (w : World) : Calls Tryz.prog 49 #[.string s, .int .i64 k, .agg #[.int .i64 b.x, .int .i64 b.y, .int .i64 b.l, .int .i64 b.h, .int .i64 b.i, .int .i64 b.o]] w fun e w' => e = .returned (.agg #[.int .i64 b.i, .int .i64 b.o, .int .i64 b.l, .int .i64 b.h, .string s, .int .i64 k]) ∧ Gr w w' := by
  go_enter Tryz.func49, Tryz.ntmps49
  go_wp2
  refine bodyPost_ret (v := .agg #[.int .i64 b.i, .int .i64 b.o, .int .i64 b.l, .int .i64 b.h, .string s, .int .i64 k]) (by simp [results, Tryz.results49, go_sem]) rfl ⟨rfl, ?_⟩
  repeat (first | exact Gr.refl _ | refine Gr.alloc ?_ _ | refine Gr.setCell ?_ (by simp) _)
end Go.Proofs.YtpdcgjkfilohcabGreat

namespace Go.Proofs.YtpdcgjkfilohcabGreat
open Go.RowKit Go.Sort Go.Maps
set_option linter.unusedSimpArgs false
set_option linter.unusedVariables false

/-- A row of cells: where, and the slots' row. -/
def cellRow (cs : List ((Int × Int) × Value)) : List Value := cs.flatMap fun c => [.int .i64 c.1.1, .int .i64 c.1.2, c.2]
theorem cellRow_snoc (cs : List ((Int × Int) × Value)) (c : (Int × Int) × Value) : cellRow (cs ++ [c]) = cellRow cs ++ [.int .i64 c.1.1, .int .i64 c.1.2, c.2] := by simp [cellRow]
/-- A row of the map, turned in its place. -/
theorem Groups.turned {P : Program} {K e : TypeId} {size : Nat} {enc : Sl → List Value} {lo b : Nat} {w w2 : World} {S : Int × Int → List Sl} {ks : List (Int × Int)} {V : Int × Int → Value} (h : Groups P K e size enc lo b w S ks V) {k : Int × Int} (hk : Wk k) (hg : w.grownBy w2 (V k).ownBlock) {ss : List Sl}
    (hrow : w2.ownsRow lo e size (V k) ss.length (ss.flatMap enc)) : Groups P K e size enc lo b w2 (fun j => if j = k then ss else S j) ks V := by
  obtain ⟨D, h1, h2, h3⟩ := h.own
  refine ⟨⟨D, h1.kept hg (h.notB hk), h2, h3⟩, fun j hj => ?_, h.apart⟩
  by_cases e1 : j = k
  · subst e1
    simp only [if_true]
    exact hrow
  · simp only [if_neg e1]
    exact (h.rows j hj).kept hg (h.other hj hk e1)
theorem key_cells {w : World} {base g n cap : Nat} {e : TypeId} {kk : List (Int × Int)} (h : w.ownsRow base e 2 (.slice (some ⟨g, 0, none⟩) n cap) n (kk.flatMap encK)) (hn : n = kk.length) {j : Nat} {k : Int × Int} (hj : kk[j]? = some k) : w.cell? ⟨g, j * 2, none⟩ = some (.int .i64 k.1) ∧ w.cell? ⟨g, j * 2 + 1, none⟩ = some (.int .i64 k.2) := by
  have hjl : j < kk.length := (List.getElem?_eq_some_iff.1 hj).1
  have at_ : ∀ (l : List (Int × Int)) (j : Nat) (k : Int × Int), l[j]? = some k → (l.flatMap encK)[j * 2]? = some (.int .i64 k.1) ∧ (l.flatMap encK)[j * 2 + 1]? = some (.int .i64 k.2) := by
    intro l
    induction l with
    | nil => intro j k h; simp at h
    | cons x l ih =>
      intro j k h
      cases j with
      | zero =>
        simp at h
        subst h
        simp [encK]
      | succ j =>
        have := ih j k (by simpa using h)
        have e1 : (j + 1) * 2 = j * 2 + 2 := by omega
        have e2 : (j + 1) * 2 + 1 = j * 2 + 1 + 2 := by omega
        rw [e2, e1, List.flatMap_cons]
        simpa [encK] using this
  obtain ⟨h0, h1⟩ := at_ kk j k hj
  exact ⟨(h.cellAt _ (by omega)).trans h0, (h.cellAt _ (by omega)).trans h1⟩
theorem row_some {w : World} {base : Nat} {e : TypeId} {size n : Nat} {v : Value} {xs : List Value} (h : w.ownsRow base e size v n xs) (hn : 0 < n) : ∃ g cap, v = .slice (some ⟨g, 0, none⟩) n cap := by
  rcases h.2 with ⟨_, h0⟩ | ⟨g, cap, _, rfl, _⟩
  · omega
  · exact ⟨g, cap, rfl⟩
theorem row_form {w : World} {base : Nat} {e : TypeId} {size n : Nat} {v : Value} {xs : List Value} (h : w.ownsRow base e size v n xs) : ∃ a cap, v = .slice a n cap := by
  rcases h.2 with ⟨rfl, rfl⟩ | ⟨g, cap, _, rfl, _⟩
  · exact ⟨none, 0, rfl⟩
  · exact ⟨_, cap, rfl⟩
theorem Tryz.info96 : (Tryz.prog.info? 96).map (fun i => (i.zero, i.size, i.bytes)) = some (some (.agg #[.int .i64 0, .int .i64 0, .slice none 0 0]), 3, 40) := by kernel_rfl

theorem own_lo {w : World} {base base' : Nat} {e : TypeId} {size n : Nat} {v : Value} {xs : List Value} (h : w.ownsRow base e size v n xs) (hb : base' ≤ base) : w.ownsRow base' e size v n xs :=
  ⟨h.1, h.2.imp id (fun ⟨g, cap, cur, e1, e2, r⟩ => ⟨g, cap, cur, e1, Nat.le_trans hb e2, r⟩)⟩
theorem Quiet.set {A B : TypeId} {W x : World} (h : Quiet A B W x) {b : Nat} {cur : Array Value} {fr : Nat × Nat} (hb : x.heap[b]? = some (.cells cur B fr)) (v : Value) : Quiet A B W (x.setCell ⟨b, 0, none⟩ v) :=
  h.grown (grownBy_setCell' _ _ _) (fun r e => by cases e; exact ⟨cur, fr, Or.inr hb⟩)
theorem step_append_at {P : Program} {ops : Array Oper} {o : Oper} {a : Act} {w : World} {K : Act → World → Prop} {Q : Exit → Act → World → Prop} {E : Prop}
    (hg : o.guard = none) (s x : Operand) (t : TypeId) (hop : o.op = Op.call { callee := Callee.builtin Builtin.append, args := #[s, x], argTypes := #[t, t] })
    (base : Nat) (e : TypeId) (i : TypeInfo) (z : Value) (size bytes : Nat) (h1 : P.underlying t = some (.slice e)) (h2 : P.info? e = some i) (h3 : i.zero = some z) (h4 : i.size = size) (h5 : i.bytes = bytes) (h6 : z.cells.size = size) (h7 : 0 < size)
    (v : Value) (n : Nat) (xs : List Value) (hs : a.eval s = v) (hown : w.ownsRow base e size v n xs)
    (ad : Addr) (m c : Nat) (news : List Value) (hx : a.eval x = .slice (some ad) m c) (hn : news.length = m * size) (hc : ∀ j u, news[j]? = some u → w.cell? (ad.add j) = some u) (h1c : ∀ u ∈ news, u.oneCell' = true)
    (b1 : n + m ≤ maxLen) (b2 : (n + m) * bytes ≤ 140737488355328) (hb : base ≤ w.heap.size)
    (hK : ∀ v' w', w'.ownsRow base e size v' (n + m) (xs ++ news) → w.grownBy w' v.ownBlock → K (a.put o.dst v') w') :
    if Region.wanted o (yielded ops a.tmps) = true then Oper.wp P o a w K Q else E := by
  have hw : Region.wanted o (yielded ops a.tmps) = true := by simp [Region.wanted, hg]
  rw [if_pos hw]
  obtain ⟨v', w', hrun, r1, r2, _⟩ := run_append_own (P := P) w base t o.type e i z size bytes h1 h2 h3 h4 h5 h6 h7 v n xs hown ad m c news hn hc h1c b1 b2 hb
  unfold Oper.wp
  simp [execOp, hop, resolve, invoke, builtin, hs, hx, hrun, Result.andThen]
  exact hK v' w' r1 r2

theorem takeI {P : Program} {md : Region.Mode} {ops : Array Oper} {Q : Exit → Act → World → Prop} {S : World → Prop} {i d : Nat} {oi : Oper} {v : Value} {fuel : Nat} {listed : Array Bool} {a : Act} {w : World} (hi : ops[i]? = some oi) (hd : oi.dst = some d)
    (hs : Region.noSelect ops = true) (hf : Region.free md ops listed i = true) (hr : (Region.ready md ops listed).contains i = true)
    (hQ : ∀ c a w, Q (.panic c) (a.put oi.dst v) w → Q (.panic c) a w) (hS : S w) (hy : YieldsIf P ops S oi v a)
    (h : wpAnyH P md ops Q S fuel (listed.setIfInBounds i true) (a.put (some d) v) w) : wpAnyH P md ops Q S (fuel + 1) listed a w :=
  wpAnyH_take hi hs hf hr hQ hy hS (by rw [hd]; exact h)
/-- What is appended to a row leaves a box alone. -/
theorem box_append {w w5 : World} {X base n : Nat} {v u : Value} {xs : List Value} {o : Obj} (hX : w.heap[X]? = some (.cells #[u] 48 (0, 0))) (hV : w.ownsRow base 96 3 v n xs) (hg : (w.drew.alloc o).grownBy w5 v.ownBlock) : w5.heap[X]? = some (.cells #[u] 48 (0, 0)) := by
  have h1 : (w.drew.alloc o).heap[X]? = some (.cells #[u] 48 (0, 0)) := (Below.heap_alloc w.drew o X (Array.getElem?_eq_some_iff.1 hX).1).trans hX
  refine (hg.block _ (Array.getElem?_eq_some_iff.1 h1).1 (fun e => ?_)).trans h1
  obtain ⟨_, _, cur, hc⟩ := row_block (hV.drew.alloc o) e.symm
  rw [h1] at hc
  cases hc

set_option maxRecDepth 100000 in
set_option maxHeartbeats 2000000 in
theorem index_any (b lo : Nat) (w : World) (S : Int × Int → List Sl) (ks : List (Int × Int)) (V : Int × Int → Value) (h : Grp lo b w S ks V) (hne : ∀ k, Wk k → (k ∈ ks ↔ S k ≠ [])) (hap : ∀ k, Wk k → (S k).Pairwise Differ) (hks : ks.length ≤ 10000) (hS : ∀ k, (S k).length ≤ 10000) (hlo : lo ≤ w.heap.size) :
    Calls Tryz.prog 50 #[.map (some b)] w fun e w' => (∃ (v : Value) (kk : List (Int × Int)) (S' : Int × Int → List Sl), e = .returned (.agg #[v]) ∧ (kk.Pairwise fun a b => keyLt a b = true) ∧ (∀ k, k ∈ kk ↔ Wk k ∧ S k ≠ []) ∧ (∀ k ∈ kk, ((S' k).Pairwise fun a b => slLt a b = true) ∧ (S' k).Perm (S k)) ∧ Grp lo b w' S' ks V ∧ w'.ownsRow w.heap.size 96 3 v kk.length (cellRow (kk.map fun k => (k, V k)))) ∧ ∀ w0, Gr w0 w → w0.heap.size ≤ lo → Gr w0 w' := by
  obtain ⟨i0, hi, hz0, hz1, hz2⟩ := info_parts Tryz.info96
  have G1 : Gr w ((w.alloc (.cells #[.slice none 0 0] 48)).alloc (.cells #[.map (some b)] 79)) := ((Gr.refl w).alloc _).alloc _
  obtain ⟨D, hD1, hD2, hD3⟩ := (h.gr G1).own
  have hsz : Maps.size D ≤ 100000 := by
    obtain ⟨es, c, _, _, hs, rfl⟩ := id hD1
    rw [Maps.size_eq, length_sorted]
    simp
    omega
  have hm : ((w.alloc (.cells #[.slice none 0 0] 48)).alloc (.cells #[.map (some b)] 79)).cell? ⟨w.heap.size + 1, 0, none⟩ = some (.map (some b)) := by simp
  have HC := collect_any keyT (w.heap.size + 1) b ks.length D _ (by simp) hm hD1 hsz
  have HH : Hid (Grp lo b w S ks V) := h
  clear hm hD1 hD2 h
  go_enter Tryz.func50, Tryz.ntmps50
  go_wp2_with (first
    | (go_at_call 86; refine (mapsKeys_any _ _).mono ?_; rintro e w1 ⟨rfl, rfl⟩)
    | (go_at_call 85; refine HC.mono ?_; rintro e w2 ⟨vk, k0, rfl, hK, hrow, g2⟩; obtain ⟨ak, ck, rfl⟩ := row_form hrow)
    | (go_at_call 87; refine (putK_any _ k0 _ w2 hrow hK.1 (by have := hK.2.2; omega)).mono ?_; rintro e w3 ⟨rfl, kk, hp, hasc, hrow3, hg3⟩))
  have hlen : kk.length = k0.length := hp.length_eq
  have GA : Hid (∀ w0, Gr w0 w → w0.heap.size ≤ lo → Gr w0 (w3.alloc (.cells #[.slice none 0 0] 48))) := fun w0 g0 h0 => by
    have g3 := (g0.trans G1).trans g2
    have hz0 := g0.size
    refine Gr.alloc (Below.grown g3 hg3 g3.size (fun j e => ?_)) _
    have := (row_block hrow e).1
    simp at this
    omega
  have HG : Hid (Grp lo b (w3.alloc (.cells #[.slice none 0 0] 48)) S ks V) := by
    refine Groups.gr ?_ ((Gr.refl _).alloc _)
    refine quiet_groups (A := 82) (B := 82) ((HH.out.gr G1).gr g2) ((Quiet.refl _).grown hg3 (fun r e => ?_)) (by decide) (by decide)
    obtain ⟨_, _, cur, hc⟩ := row_block hrow e
    exact ⟨cur, _, Or.inl hc⟩
  have hsz3 : w.heap.size + 1 < w3.heap.size := by
    have h1 := g2.size
    have h2 := hg3.size
    simp at h1
    omega
  have HK : Hid (∀ k, k ∈ kk ↔ Wk k ∧ S k ≠ []) := fun k => by
    rw [hp.mem_iff, hK.2.1 k]
    constructor
    · rintro ⟨h1, h2⟩
      exact ⟨h1, (hne k h1).1 ((hD3 k h1).1 h2)⟩
    · rintro ⟨h1, h2⟩
      exact ⟨h1, (hD3 k h1).2 ((hne k h1).2 h2)⟩
  have hkl : kk.length ≤ 100000 := by
    rw [hlen]
    exact Nat.le_trans hK.2.2 hsz
  have HR3 : Hid ((w3.alloc (.cells #[.slice none 0 0] 48)).ownsRow w.heap.size 82 2 (.slice ak k0.length ck) kk.length (kk.flatMap encK)) := by
    refine World.ownsRow.alloc (own_lo hrow3 ?_) _
    simp
    omega
  have HR0 : Hid ((w3.alloc (.cells #[.slice none 0 0] 48)).heap[w.heap.size]? = some (.cells #[.slice none 0 0] 48 (0, 0))) := by
    show (w3.alloc _).heap[w.heap.size]? = _
    have r1 : w2.heap[w.heap.size]? = some (.cells #[.slice none 0 0] 48 (0, 0)) := (g2.block _ (by simp; omega)).trans ((Below.heap_alloc _ _ _ (by simp)).trans (World.alloc_heap_new _ _))
    refine (Below.heap_alloc _ _ _ (by omega)).trans ((hg3.block _ (Array.getElem?_eq_some_iff.1 r1).1 (fun e => ?_)).trans r1)
    have := (row_block hrow e.symm).1
    simp at this
    omega
  clear HH HC G1 g2 hrow hrow3 hg3 hD3 hK
  rw [← hlen] at *
  go_wp2
  go_loopw [14] (fun i wr => ∃ (j : Nat) (S' : Int × Int → List Sl) (v : Value), j ≤ kk.length ∧ i = .int .i64 j ∧ Hid (Grp lo b wr S' ks V) ∧ Hid (∀ k, Wk k → (S' k).Perm (S k)) ∧ Hid (∀ k ∈ kk.take j, (S' k).Pairwise fun a b => slLt a b = true) ∧ Hid (wr.heap[w3.heap.size]? = some (.cells #[v] 48 (0, 0))) ∧ Hid (wr.heap[w.heap.size]? = some (.cells #[.slice none 0 0] 48 (0, 0))) ∧ Hid (wr.ownsRow w.heap.size 96 3 v j (cellRow ((kk.take j).map fun k => (k, V k)))) ∧ Hid (wr.ownsRow w.heap.size 82 2 (.slice ak kk.length ck) kk.length (kk.flatMap encK)) ∧ Hid (∀ w0, Gr w0 w → w0.heap.size ≤ lo → Gr w0 wr) ∧ w3.heap.size + 1 ≤ wr.heap.size) (fun i _ => kk.length - (intOf i).toNat)
  case atStart => exact ⟨0, S, .slice none 0 0, Nat.zero_le _, rfl, HG, fun k _ => List.Perm.refl _, fun k hk => by simp at hk, World.alloc_heap_new _ _, HR0, World.ownsRow_nil _ _ _ _, HR3, GA, by simp⟩
  case round =>
    obtain ⟨j, S', v, hj, rfl, hG, hP, hO, hX, hRr, hV, hR, hGr, hws⟩ := hrel
    by_cases hjl : j < kk.length
    · obtain ⟨k, hkj⟩ : ∃ k, kk[j]? = some k := ⟨_, List.getElem?_eq_getElem hjl⟩
      obtain ⟨hk, hSk⟩ := (HK.out k).1 (List.mem_of_getElem? hkj)
      obtain ⟨g, cap, hak⟩ := row_some hR.out (by omega)
      simp only [Value.slice.injEq, true_and] at hak
      obtain ⟨rfl, rfl⟩ := hak
      obtain ⟨c0, c1⟩ := key_cells hR.out rfl hkj
      have hSp : 0 < (S' k).length := by
        rw [(hP.out k hk).length_eq]
        exact List.length_pos_iff.2 hSk
      have hSl : (S' k).length ≤ 10000 := by rw [(hP.out k hk).length_eq]; exact hS k
      obtain ⟨gk, ckk, hVk⟩ := row_some (hG.out.rows k hk) hSp
      have G1 := hG.out.gr ((Gr.refl wr).alloc (.cells #[.int .i64 k.1, .int .i64 k.2] 82))
      have lk := G1.look keyT Tryz.underlying79 (Tryz.zeroSlots _) hk
      rw [hVk] at lk
      dsimp only [kv] at lk
      have hrowk := G1.rows k hk
      rw [hVk] at hrowk
      have hdif : (S' k).Pairwise Differ := ((hP.out k hk).pairwise_iff (fun h => differ_symm h)).2 (hap k hk)
      have hi0 : (0 : Int) ≤ (j : Int) := by omega
      have hi1 : (j : Int) < (kk.length : Int) := by omega
      have HA : Hid (∀ k', Wk k' → (S k').Pairwise Differ) := hap
      have HN : Hid (∀ k, Wk k → (k ∈ ks ↔ S k ≠ [])) := hne
      have HSS : Hid (∀ k, (S k).length ≤ 10000) := hS
      clear hap hne hS
      go_upto_region 8 with (first
        | (go_at_call 88; refine (putS_any _ (S' k) lo _ hrowk hdif (by omega)).mono ?_; rintro e w4 ⟨rfl, ss, hps, hss, hrow4, hg4⟩))
      rw [← hVk] at hrow4 hg4
      have G4 := G1.turned hk hg4 hrow4
      have q4 : Quiet 84 84 (wr.alloc (.cells #[.int .i64 k.1, .int .i64 k.2] 82)) w4 := (Quiet.refl _).grown hg4 (fun r e => by
        obtain ⟨_, _, cur, hc⟩ := row_block (G1.rows k hk) e
        exact ⟨cur, _, Or.inl hc⟩)
      have hX4 : w4.heap[w3.heap.size]? = some (.cells #[v] 48 (0, 0)) := q4.same _ _ ((Below.heap_alloc _ _ _ (by omega)).trans hX.out) (fun c f => ⟨(fun e => by cases e), (fun e => by cases e)⟩)
      have HRr4 : Hid (w4.heap[w.heap.size]? = some (.cells #[.slice none 0 0] 48 (0, 0))) := q4.same _ _ ((Below.heap_alloc _ _ _ (by omega)).trans hRr.out) (fun c f => ⟨(fun e => by cases e), (fun e => by cases e)⟩)
      have p6 : w4.heap[wr.heap.size]? = some (.cells #[.int .i64 k.1, .int .i64 k.2] 82 (0, 0)) := q4.same _ _ (World.alloc_heap_new _ _) (fun c f => ⟨(fun e => by cases e), (fun e => by cases e)⟩)
      have HV4 : Hid (w4.ownsRow w.heap.size 96 3 v j (cellRow ((kk.take j).map fun k => (k, V k)))) := q4.row (by decide) (by decide) (hV.out.alloc _)
      have HR4 : Hid (w4.ownsRow w.heap.size 82 2 (.slice (some ⟨g, 0, none⟩) kk.length ck) kk.length (kk.flatMap encK)) := q4.row (by decide) (by decide) (hR.out.alloc _)
      have hs4 : wr.heap.size < w4.heap.size := (Array.getElem?_eq_some_iff.1 p6).1
      have HGr4 : Hid (∀ w0, Gr w0 w → w0.heap.size ≤ lo → Gr w0 w4) := fun w0 g0 h0 => by
        have g1 := (hGr.out w0 g0 h0).alloc (.cells #[.int .i64 k.1, .int .i64 k.2] 82)
        exact Below.grown g1 hg4 g1.size (fun r e => Nat.le_trans h0 (row_block (G1.rows k hk) e).1)
      have KK : Hid (∀ w', Quiet 96 48 w4 w' → Quiet 96 48 w4 w' ∧ w'.cell? ⟨wr.heap.size, 0, none⟩ = some (.int .i64 k.1) ∧ w'.cell? ⟨wr.heap.size, 1, none⟩ = some (.int .i64 k.2) ∧ (Instr.lookup 79 (.map (some b)) (.agg #[.int .i64 k.1, .int .i64 k.2]) false).run Tryz.prog w' = .ok (.slice (some ⟨gk, 0, none⟩) (S' k).length ckk) w') := fun w' q => by
        have e0 := (q.cell (o := 0) (by decide) (by decide) p6).1
        have e1 := (q.cell (o := 1) (by decide) (by decide) p6).1
        refine ⟨q, e0.trans (by simp [World.cell?, p6]), e1.trans (by simp [World.cell?, p6]), ?_⟩
        have := (quiet_groups G4 q (by decide) (by decide)).look keyT Tryz.underlying79 (Tryz.zeroSlots _) hk
        rw [hVk] at this
        exact this
      have q0 : Quiet 96 48 w4 w4 := Quiet.refl _
      obtain ⟨av, cv, rfl⟩ := row_form HV4.out
      have x0 : w4.cell? ⟨w3.heap.size, 0, none⟩ = some (.slice av j cv) := by simp [World.cell?, hX4]
      have hx3 : w3.heap.size < w4.heap.size := by omega
      have HX4 : Hid (w4.heap[w3.heap.size]? = some (.cells #[.slice av j cv] 48 (0, 0))) := hX4
      have HG4 : Hid _ := G4
      clear hX4 p6 q4 lk hrowk hdif G1 G4 hrow4 hg4 c0 c1
      have HFIN : Hid (∀ (w5 : World) (av' : Option Addr) (cv' : Nat), w5.ownsRow w.heap.size 96 3 (.slice av' (j + 1) cv') (j + 1) (cellRow ((kk.take j).map fun k => (k, V k)) ++ [.int .i64 k.1, .int .i64 k.2, .slice (some ⟨gk, 0, none⟩) (S' k).length ckk]) → (w4.drew.alloc (.cells #[.int .i64 k.1, .int .i64 k.2, .slice (some ⟨gk, 0, none⟩) (S' k).length ckk] 96)).grownBy w5 (Value.slice av j cv).ownBlock → Quiet 96 48 w4 w5 → w5.heap[w3.heap.size]? = some (.cells #[.slice av j cv] 48 (0, 0)) →
          ∃ (j' : Nat) (S2 : Int × Int → List Sl) (v : Value), j' ≤ kk.length ∧ Value.int .i64 ((j : Int) + 1) = .int .i64 j' ∧ Hid (Grp lo b (w5.setCell ⟨w3.heap.size, 0, none⟩ (.slice av' (j + 1) cv')) S2 ks V) ∧ Hid (∀ k, Wk k → (S2 k).Perm (S k)) ∧ Hid (∀ k ∈ kk.take j', (S2 k).Pairwise fun a b => slLt a b = true) ∧ Hid ((w5.setCell ⟨w3.heap.size, 0, none⟩ (.slice av' (j + 1) cv')).heap[w3.heap.size]? = some (.cells #[v] 48 (0, 0))) ∧ Hid ((w5.setCell ⟨w3.heap.size, 0, none⟩ (.slice av' (j + 1) cv')).heap[w.heap.size]? = some (.cells #[.slice none 0 0] 48 (0, 0))) ∧ Hid ((w5.setCell ⟨w3.heap.size, 0, none⟩ (.slice av' (j + 1) cv')).ownsRow w.heap.size 96 3 v j' (cellRow ((kk.take j').map fun k => (k, V k)))) ∧ Hid ((w5.setCell ⟨w3.heap.size, 0, none⟩ (.slice av' (j + 1) cv')).ownsRow w.heap.size 82 2 (.slice (some ⟨g, 0, none⟩) kk.length ck) kk.length (kk.flatMap encK)) ∧ Hid (∀ w0, Gr w0 w → w0.heap.size ≤ lo → Gr w0 (w5.setCell ⟨w3.heap.size, 0, none⟩ (.slice av' (j + 1) cv'))) ∧ w3.heap.size + 1 ≤ (w5.setCell ⟨w3.heap.size, 0, none⟩ (.slice av' (j + 1) cv')).heap.size) := by
        intro w5 av' cv' hown' hgrow q5 hX5
        have q6 := q5.set hX5 (.slice av' (j + 1) cv')
        have etk : kk.take (j + 1) = kk.take j ++ [k] := by rw [List.take_add_one, hkj]; rfl
        refine ⟨j + 1, _, .slice av' (j + 1) cv', by omega, by simp, quiet_groups HG4.out q6 (by decide) (by decide), ?_, ?_, boxed_set hX5 _, ?rr, ?_, q6.row (by decide) (by decide) HR4.out, ?_, ?_⟩
        case rr =>
          show (w5.setCell ⟨w3.heap.size, 0, none⟩ (.slice av' (j + 1) cv')).heap[w.heap.size]? = _
          exact (Below.heap_setCell _ _ _ _ (by show w.heap.size ≠ w3.heap.size; omega)).trans (box_append HRr4.out HV4.out hgrow)
        · intro k' hk'
          show (if k' = k then ss else S' k').Perm (S k')
          by_cases e : k' = k
          · subst e
            rw [if_pos rfl]
            exact hps.trans (hP.out k' hk')
          · rw [if_neg e]
            exact hP.out k' hk'
        · intro k' hk'
          show (if k' = k then ss else S' k').Pairwise _
          rw [etk, List.mem_append, List.mem_singleton] at hk'
          by_cases e : k' = k
          · rw [if_pos e]
            exact hss
          · rw [if_neg e]
            exact hO.out k' (hk'.resolve_right e)
        · show World.ownsRow _ _ _ _ _ _ _
          rw [etk, List.map_append, List.map_singleton, cellRow_snoc, hVk]
          refine hown'.kept (grownBy_setCell' _ _ _) (Or.inr (fun e => ?_))
          obtain ⟨_, _, cur, hc⟩ := row_block hown' e
          rw [hX5] at hc
          cases hc
        · intro w0 g0 h0
          have g4 := HGr4.out w0 g0 h0
          have hz := g0.size
          have g5 : Gr w0 w5 := Below.grown (g4.drew.alloc (.cells #[.int .i64 k.1, .int .i64 k.2, .slice (some ⟨gk, 0, none⟩) (S' k).length ckk] 96)) hgrow (g4.drew.alloc _).size (fun r e => Nat.le_trans hz (row_block HV4.out e).1)
          exact g5.setCell (by show w0.heap.size ≤ w3.heap.size; omega) _
        · have := q5.size
          simp
          omega
      have hH := KK.out _ q0.drew
      refine wp_region_held (S := fun w' => Quiet 96 48 w4 w' ∧ w'.cell? ⟨wr.heap.size, 0, none⟩ = some (.int .i64 k.1) ∧ w'.cell? ⟨wr.heap.size, 1, none⟩ = some (.int .i64 k.2) ∧ (Instr.lookup 79 (.map (some b)) (.agg #[.int .i64 k.1, .int .i64 k.2]) false).run Tryz.prog w' = .ok (.slice (some ⟨gk, 0, none⟩) (S' k).length ckk) w') (by kernel_rfl) ?_
      change wpAnyH _ _ _ _ _ _ _ _ (World.drew _)
      refine takeI (i := 0) (d := 22) (v := .pointer (some ⟨w3.heap.size, 0, none⟩)) rfl rfl (by kernel_rfl) (by kernel_rfl) (by kernel_rfl) (fun _ _ _ h => h) hH (Or.inl ⟨by rfl, by rintro w' ⟨-, s0, s1, s2⟩; go_simp⟩) ?_
      simp only [Act.put, List.setIfInBounds_toArray, List.set_cons_zero, List.set_cons_succ]
      refine takeI (i := 2) (d := 24) (v := .pointer (some ⟨wr.heap.size, 0, none⟩)) rfl rfl (by kernel_rfl) (by kernel_rfl) (by kernel_rfl) (fun _ _ _ h => h) hH (Or.inl ⟨by rfl, by rintro w' ⟨-, s0, s1, s2⟩; go_simp⟩) ?_
      simp only [Act.put, List.setIfInBounds_toArray, List.set_cons_zero, List.set_cons_succ]
      refine takeI (i := 3) (d := 25) (v := .int .i64 k.1) rfl rfl (by kernel_rfl) (by kernel_rfl) (by kernel_rfl) (fun _ _ _ h => h) hH (Or.inl ⟨by rfl, by rintro w' ⟨-, s0, s1, s2⟩; go_simp⟩) ?_
      simp only [Act.put, List.setIfInBounds_toArray, List.set_cons_zero, List.set_cons_succ]
      refine takeI (i := 4) (d := 26) (v := .pointer (some ⟨wr.heap.size, 1, none⟩)) rfl rfl (by kernel_rfl) (by kernel_rfl) (by kernel_rfl) (fun _ _ _ h => h) hH (Or.inl ⟨by rfl, by rintro w' ⟨-, s0, s1, s2⟩; go_simp⟩) ?_
      simp only [Act.put, List.setIfInBounds_toArray, List.set_cons_zero, List.set_cons_succ]
      refine takeI (i := 5) (d := 27) (v := .int .i64 k.2) rfl rfl (by kernel_rfl) (by kernel_rfl) (by kernel_rfl) (fun _ _ _ h => h) hH (Or.inl ⟨by rfl, by rintro w' ⟨-, s0, s1, s2⟩; go_simp⟩) ?_
      simp only [Act.put, List.setIfInBounds_toArray, List.set_cons_zero, List.set_cons_succ]
      refine takeI (i := 6) (d := 28) (v := .map (some b)) rfl rfl (by kernel_rfl) (by kernel_rfl) (by kernel_rfl) (fun _ _ _ h => h) hH (Or.inl ⟨by rfl, by rintro w' ⟨-, s0, s1, s2⟩; go_simp⟩) ?_
      simp only [Act.put, List.setIfInBounds_toArray, List.set_cons_zero, List.set_cons_succ]
      refine takeI (i := 7) (d := 29) (v := .agg #[.int .i64 k.1, .int .i64 k.2]) rfl rfl (by kernel_rfl) (by kernel_rfl) (by kernel_rfl) (fun _ _ _ h => h) hH (Or.inl ⟨by rfl, by rintro w' ⟨-, s0, s1, s2⟩; go_simp⟩) ?_
      simp only [Act.put, List.setIfInBounds_toArray, List.set_cons_zero, List.set_cons_succ]
      refine takeI (i := 8) (d := 30) (v := .slice (some ⟨gk, 0, none⟩) (S' k).length ckk) rfl rfl (by kernel_rfl) (by kernel_rfl) (by kernel_rfl) (fun _ _ _ h => h) hH (Or.inl ⟨by rfl, by rintro w' ⟨-, s0, s1, s2⟩; go_simp⟩) ?_
      simp only [Act.put, List.setIfInBounds_toArray, List.set_cons_zero, List.set_cons_succ]
      refine takeI (i := 9) (d := 31) (v := .agg #[.int .i64 k.1, .int .i64 k.2, .slice (some ⟨gk, 0, none⟩) (S' k).length ckk]) rfl rfl (by kernel_rfl) (by kernel_rfl) (by kernel_rfl) (fun _ _ _ h => h) hH (Or.inl ⟨by rfl, by rintro w' ⟨-, s0, s1, s2⟩; go_simp⟩) ?_
      simp only [Act.put, List.setIfInBounds_toArray, List.set_cons_zero, List.set_cons_succ]
      refine wpAnyH_ready (rs := [1, 10]) (by kernel_rfl) (by simp) ?_
      refine AllReadyH.cons (o := _) rfl (fun K hK => ?_) (AllReadyH.cons (o := _) rfl (fun K hK => ?_) AllReadyH.nil)
      · go_simp
        refine hK.out _ _ (KK.out _ q0.drew) (fun hH => ?_)
        clear hK K
        (try simp only [Act.put, List.setIfInBounds_toArray, List.set_cons_zero, List.set_cons_succ])
        refine wpAnyH_ready (rs := [10]) (by kernel_rfl) (by simp) ?_
        refine AllReadyH.cons (o := _) rfl (fun K hK => ?_) AllReadyH.nil
        go_simp
        refine hK.out _ _ (KK.out _ (q0.drew.alloc _)) (fun hH => ?_)
        clear hK K
        (try simp only [Act.put, List.setIfInBounds_toArray, List.set_cons_zero, List.set_cons_succ])
        refine wpAnyH_ready (rs := [11]) (by kernel_rfl) (by simp) ?_
        refine AllReadyH.cons (o := _) rfl (fun K hK => ?_) AllReadyH.nil
        refine step_append_at rfl (.tmp 23) (.tmp 32) 46 rfl w.heap.size 96 i0 _ 3 40 Tryz.underlying46 hi hz0 hz1 hz2 rfl (by decide) (.slice av j cv) j _ (by simp [Act.eval]) (by exact (HV4.out.drew.alloc (.cells #[.int .i64 k.1, .int .i64 k.2, .slice (some ⟨gk, 0, none⟩) (S' k).length ckk] 96))) ⟨w4.heap.size, 0, none⟩ 1 1 [.int .i64 k.1, .int .i64 k.2, .slice (some ⟨gk, 0, none⟩) (S' k).length ckk] (by simp [Act.eval]) rfl (by exact news_cells w4.drew _ (by simp) [.int .i64 k.1, .int .i64 k.2, .slice (some ⟨gk, 0, none⟩) (S' k).length ckk] _) (by simp [Value.oneCell']) (by unfold maxLen; omega) (by omega) (by simp; omega) ?_
        intro v' w5 hown' hgrow
        obtain ⟨av', cv', hav'⟩ := row_form hown'
        subst hav'
        have q5 : Quiet 96 48 w4 w5 := ((q0.drew).alloc (.cells #[.int .i64 k.1, .int .i64 k.2, .slice (some ⟨gk, 0, none⟩) (S' k).length ckk] 96)).grown hgrow (fun r e => by obtain ⟨_, _, cur, hc⟩ := row_block (HV4.out.drew.alloc (.cells #[.int .i64 k.1, .int .i64 k.2, .slice (some ⟨gk, 0, none⟩) (S' k).length ckk] 96)) e; exact ⟨cur, _, Or.inl hc⟩)
        have hX5 : w5.heap[w3.heap.size]? = some (.cells #[.slice av j cv] 48 (0, 0)) := box_append HX4.out HV4.out hgrow
        have x5 : w5.cell? ⟨w3.heap.size, 0, none⟩ = some (.slice av j cv) := by simp [World.cell?, hX5]
        have f5 : w5.frozen? ⟨w3.heap.size, 0, none⟩ = false := by simp [World.frozen?, hX5]
        refine hK.out _ _ (KK.out _ q5) (fun hH => ?_)
        clear hK K
        (try simp only [Act.put, List.setIfInBounds_toArray, List.set_cons_zero, List.set_cons_succ])
        refine takeI (i := 12) (d := 34) (v := .pointer (some ⟨w3.heap.size, 0, none⟩)) rfl rfl (by kernel_rfl) (by kernel_rfl) (by kernel_rfl) (fun _ _ _ h => h) hH (Or.inl ⟨by rfl, by rintro w' ⟨-, s0, s1, s2⟩; go_simp⟩) ?_
        simp only [Act.put, List.setIfInBounds_toArray, List.set_cons_zero, List.set_cons_succ]
        refine wpAnyH_ready (rs := [13]) (by kernel_rfl) (by simp) ?_
        refine AllReadyH.cons (o := _) rfl (fun K hK => ?_) AllReadyH.nil
        go_simp
        refine hK.out _ _ (KK.out _ (q5.set hX5 _)) (fun hH => ?_)
        clear hK K
        (try simp only [Act.put, List.setIfInBounds_toArray, List.set_cons_zero, List.set_cons_succ])
        refine wpAnyH_done (by kernel_rfl) ?_ _
        have HF := HFIN.out w5 av' cv' hown' hgrow q5 hX5
        go_wp2
        go_roundw
        case rel => exact HF
        case measure => simp [intOf]; omega
      · go_simp
        refine hK.out _ _ (KK.out _ (q0.drew.alloc _)) (fun hH => ?_)
        clear hK K
        (try simp only [Act.put, List.setIfInBounds_toArray, List.set_cons_zero, List.set_cons_succ])
        refine wpAnyH_ready (rs := [1]) (by kernel_rfl) (by simp) ?_
        refine AllReadyH.cons (o := _) rfl (fun K hK => ?_) AllReadyH.nil
        go_simp
        refine hK.out _ _ (KK.out _ (q0.drew.alloc _)) (fun hH => ?_)
        clear hK K
        (try simp only [Act.put, List.setIfInBounds_toArray, List.set_cons_zero, List.set_cons_succ])
        refine wpAnyH_ready (rs := [11]) (by kernel_rfl) (by simp) ?_
        refine AllReadyH.cons (o := _) rfl (fun K hK => ?_) AllReadyH.nil
        refine step_append_at rfl (.tmp 23) (.tmp 32) 46 rfl w.heap.size 96 i0 _ 3 40 Tryz.underlying46 hi hz0 hz1 hz2 rfl (by decide) (.slice av j cv) j _ (by simp [Act.eval]) (by exact (HV4.out.drew.alloc (.cells #[.int .i64 k.1, .int .i64 k.2, .slice (some ⟨gk, 0, none⟩) (S' k).length ckk] 96))) ⟨w4.heap.size, 0, none⟩ 1 1 [.int .i64 k.1, .int .i64 k.2, .slice (some ⟨gk, 0, none⟩) (S' k).length ckk] (by simp [Act.eval]) rfl (by exact news_cells w4.drew _ (by simp) [.int .i64 k.1, .int .i64 k.2, .slice (some ⟨gk, 0, none⟩) (S' k).length ckk] _) (by simp [Value.oneCell']) (by unfold maxLen; omega) (by omega) (by simp; omega) ?_
        intro v' w5 hown' hgrow
        obtain ⟨av', cv', hav'⟩ := row_form hown'
        subst hav'
        have q5 : Quiet 96 48 w4 w5 := ((q0.drew).alloc (.cells #[.int .i64 k.1, .int .i64 k.2, .slice (some ⟨gk, 0, none⟩) (S' k).length ckk] 96)).grown hgrow (fun r e => by obtain ⟨_, _, cur, hc⟩ := row_block (HV4.out.drew.alloc (.cells #[.int .i64 k.1, .int .i64 k.2, .slice (some ⟨gk, 0, none⟩) (S' k).length ckk] 96)) e; exact ⟨cur, _, Or.inl hc⟩)
        have hX5 : w5.heap[w3.heap.size]? = some (.cells #[.slice av j cv] 48 (0, 0)) := box_append HX4.out HV4.out hgrow
        have x5 : w5.cell? ⟨w3.heap.size, 0, none⟩ = some (.slice av j cv) := by simp [World.cell?, hX5]
        have f5 : w5.frozen? ⟨w3.heap.size, 0, none⟩ = false := by simp [World.frozen?, hX5]
        refine hK.out _ _ (KK.out _ q5) (fun hH => ?_)
        clear hK K
        (try simp only [Act.put, List.setIfInBounds_toArray, List.set_cons_zero, List.set_cons_succ])
        refine takeI (i := 12) (d := 34) (v := .pointer (some ⟨w3.heap.size, 0, none⟩)) rfl rfl (by kernel_rfl) (by kernel_rfl) (by kernel_rfl) (fun _ _ _ h => h) hH (Or.inl ⟨by rfl, by rintro w' ⟨-, s0, s1, s2⟩; go_simp⟩) ?_
        simp only [Act.put, List.setIfInBounds_toArray, List.set_cons_zero, List.set_cons_succ]
        refine wpAnyH_ready (rs := [13]) (by kernel_rfl) (by simp) ?_
        refine AllReadyH.cons (o := _) rfl (fun K hK => ?_) AllReadyH.nil
        go_simp
        refine hK.out _ _ (KK.out _ (q5.set hX5 _)) (fun hH => ?_)
        clear hK K
        (try simp only [Act.put, List.setIfInBounds_toArray, List.set_cons_zero, List.set_cons_succ])
        refine wpAnyH_done (by kernel_rfl) ?_ _
        have HF := HFIN.out w5 av' cv' hown' hgrow q5 hX5
        go_wp2
        go_roundw
        case rel => exact HF
        case measure => simp [intOf]; omega
    · have ej : j = kk.length := by omega
      subst ej
      obtain ⟨av, cv, rfl⟩ := row_form hV.out
      have x0 : wr.cell? ⟨w3.heap.size, 0, none⟩ = some (.slice av kk.length cv) := by simp [World.cell?, hX.out]
      have r0 : wr.cell? ⟨w.heap.size, 0, none⟩ = some (.slice none 0 0) := by simp [World.cell?, hRr.out]
      have r1 : wr.frozen? ⟨w.heap.size, 0, none⟩ = false := by simp [World.frozen?, hRr.out]
      have q : Quiet 48 48 wr (wr.setCell ⟨w.heap.size, 0, none⟩ (.slice av kk.length cv)) := (Quiet.refl wr).set hRr.out _
      have HF : Hid ((kk.Pairwise fun a b => keyLt a b = true) ∧ (∀ k, k ∈ kk ↔ Wk k ∧ S k ≠ []) ∧ (∀ k ∈ kk, ((S' k).Pairwise fun a b => slLt a b = true) ∧ (S' k).Perm (S k)) ∧ Grp lo b (wr.setCell ⟨w.heap.size, 0, none⟩ (.slice av kk.length cv)) S' ks V ∧ (wr.setCell ⟨w.heap.size, 0, none⟩ (.slice av kk.length cv)).ownsRow w.heap.size 96 3 (.slice av kk.length cv) kk.length (cellRow (kk.map fun k => (k, V k)))) := by
        refine ⟨hasc, HK.out, fun k hk => ⟨hO.out k (by rw [List.take_length]; exact hk), hP.out k ((HK.out k).1 hk).1⟩, quiet_groups hG.out q (by decide) (by decide), ?_⟩
        have := q.row (by decide) (by decide) hV.out
        rw [List.take_length] at this
        exact this
      have HE : Hid (∀ w0, Gr w0 w → w0.heap.size ≤ lo → Gr w0 (wr.setCell ⟨w.heap.size, 0, none⟩ (.slice av kk.length cv))) := fun w0 g0 h0 => (hGr.out w0 g0 h0).setCell (by show w0.heap.size ≤ w.heap.size; exact g0.size) _
      clear hap hne
      go_wp2
      exact bodyPost_ret (v := .agg #[.slice av kk.length cv]) (by simp [results, Tryz.results50, go_sem, r0]) rfl ⟨⟨_, kk, S', rfl, HF.out⟩, HE.out⟩
end Go.Proofs.YtpdcgjkfilohcabGreat
