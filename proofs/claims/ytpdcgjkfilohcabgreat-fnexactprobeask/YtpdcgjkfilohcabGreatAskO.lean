import Derived.Test.YtpdcgjkfilohcabGreatAskMN
import Derived.Test.YtpdcgjkfilohcabGreatIdxVW
import Derived.Test.YtpdcgjkfilohcabGreatMeetG
namespace Go.Proofs.YtpdcgjkfilohcabGreat
open Go.RowKit Go.Sort Go.Maps
attribute [local go_sem ↓] Go.wp_at_zero Go.wp_at_succ
attribute [local go_sem] Oper.semAt_some
set_option linter.unusedSimpArgs false
set_option linter.unusedVariables false

/-! Who is near, by an index: the program's side. -/

/-- A call that ranged over functions leaves: each mark is taken. -/
theorem leaves_marks {P : Program} {F : Fence} {n : Nat} {fn : Func} {R : Ending → World → Prop} {ts : Array Value} : ∀ (Ds : List Nat) (X : World), Ds.Nodup → (∀ D ∈ Ds, X.heap[D]? = some (.deferred (some []))) →
    (∀ Y : World, Y.os = X.os → Y.tape = X.tape → Y.output = X.output → Y.heap.size = X.heap.size → (∀ k, k ∉ Ds → Y.heap[k]? = X.heap[k]?) → LeavesIn F n P fn ts R [] .returning Y) → LeavesInM F n P fn ts R (Ds.map fun D => { target := .collected D, args := #[] }) .returning X
  | [], X, _, _, h => h X rfl rfl rfl rfl (fun _ _ => rfl)
  | D :: Ds, X, hn, hD, h => by
    obtain ⟨h1, h2⟩ := List.nodup_cons.1 hn
    have g := grownBy_putObj' X D (.deferred none)
    have hsz : (X.putObj D (.deferred none)).heap.size = X.heap.size := by simp [World.putObj]
    have hb : ∀ k, k ≠ D → (X.putObj D (.deferred none)).heap[k]? = X.heap[k]? := fun k hk => by
      by_cases hl : k < X.heap.size
      · exact g.block k hl (fun e => hk (by cases e; rfl))
      · rw [Array.getElem?_eq_none (by omega), Array.getElem?_eq_none (by omega)]
    refine ⟨by simp, .inl ⟨D, X.putObj D (.deferred none), rfl, run_takeDeferred (hD D List.mem_cons_self), ?_⟩⟩
    refine leaves_marks Ds _ h2 (fun E hE => (hb E (fun e => h1 (e ▸ hE))).trans (hD E (List.mem_cons_of_mem _ hE))) (fun Y y1 y2 y3 y4 y5 => ?_)
    refine h Y (y1.trans g.os) (y2.trans g.tape) (y3.trans g.output) (y4.trans hsz) (fun k hk => ?_)
    rw [List.mem_cons, not_or] at hk
    exact (y5 k hk.2).trans (hb k hk.1)
/-- The slots of one more cell. -/
theorem slotsAt_cell (pts : List Pt) (k : Int × Int) (ss : List Sl) (j : Int × Int) : slotsAt j (pts ++ ss.map fun s => (k, s)) = if j = k then slotsAt k pts ++ ss else slotsAt j pts := by
  unfold slotsAt
  rw [List.filter_append, List.map_append]
  by_cases e : j = k
  · subst e
    rw [if_pos rfl]
    congr 1
    rw [List.filter_eq_self.2 (by simp)]
    simp [List.map_map, Function.comp_def]
  · have h9 : (ss.map fun s => (k, s)).filter (fun p => p.1 == j) = [] := by
      refine List.filter_eq_nil_iff.2 (fun a ha => ?_)
      obtain ⟨s, -, rfl⟩ := List.mem_map.1 ha
      simpa using fun h => e (Eq.symm h)
    rw [if_neg e, h9]
    simp
theorem pts_take {cs : List Cx} {i : Nat} (h : i < cs.length) : ptsOf (idxOf (cs.take (i + 1))) = ptsOf (idxOf (cs.take i)) ++ (cs.getD i Cx.nil).2.2.map fun s => ((cs.getD i Cx.nil).1, s) := by
  have e : cs.take (i + 1) = cs.take i ++ [cs.getD i Cx.nil] := by
    rw [List.take_add_one, cx_get h]
    rfl
  rw [e]
  simp [idxOf, ptsOf, ptsC]
theorem pts_le {cs : List Cx} (i : Nat) : (ptsOf (idxOf (cs.take i))).length ≤ (ptsOf (idxOf cs)).length := by
  have h9 : ptsOf (idxOf cs) = ptsOf (idxOf (cs.take i)) ++ ptsOf (idxOf (cs.drop i)) := by
    conv => lhs; rw [← List.take_append_drop i cs]
    unfold idxOf ptsOf
    rw [List.map_append, List.flatMap_append]
  rw [h9, List.length_append]
  omega
theorem row_news {w : World} {lo g n cap size : Nat} {e : TypeId} {xs : List Value} (h : w.ownsRow lo e size (.slice (some ⟨g, 0, none⟩) n cap) n xs) : ∀ j u, xs[j]? = some u → w.cell? ((⟨g, 0, none⟩ : Addr).add j) = some u := by
  intro j u hu
  have e : (⟨g, 0, none⟩ : Addr).add j = ⟨g, j, none⟩ := by unfold Addr.add; split <;> simp_all
  have hj : j < n * size := by
    have := (List.getElem?_eq_some_iff.1 hu).1
    rwa [h.1] at this
  rw [e, h.cellAt j hj, hu]
/-- The frame between two boxes, and in a round: but for a few slots it may hold what it will. -/
def FrAsk (a' : Act) (x3 x5 x8 x38 x39 x40 : Value) (ds : List Deferred) : Prop := ∃ u : Nat → Value, a' = { tmps := #[u 0, u 1, u 2, x3, u 4, x5, u 6, u 7, x8, u 9, u 10, u 11, u 12, u 13, u 14, u 15, u 16, u 17, u 18, u 19, u 20, u 21, u 22, u 23, u 24, u 25, u 26, u 27, u 28, u 29, u 30, u 31, u 32, u 33, u 34, u 35, u 36, u 37, x38, x39, x40, u 41, u 42, u 43, u 44, u 45, u 46, u 47, u 48, u 49, u 50, u 51, u 52, u 53, u 54, u 55, u 56, u 57, u 58, u 59, u 60, u 61, u 62, u 63, u 64, u 65, u 66, u 67, u 68, u 69, u 70, u 71, u 72, u 73, u 74, u 75, u 76, u 77, u 78, u 79], defers := ds }
theorem FrAsk.mk {t0 t1 t2 t3 t4 t5 t6 t7 t8 t9 t10 t11 t12 t13 t14 t15 t16 t17 t18 t19 t20 t21 t22 t23 t24 t25 t26 t27 t28 t29 t30 t31 t32 t33 t34 t35 t36 t37 t38 t39 t40 t41 t42 t43 t44 t45 t46 t47 t48 t49 t50 t51 t52 t53 t54 t55 t56 t57 t58 t59 t60 t61 t62 t63 t64 t65 t66 t67 t68 t69 t70 t71 t72 t73 t74 t75 t76 t77 t78 t79 : Value} {ds : List Deferred} : FrAsk { tmps := #[t0, t1, t2, t3, t4, t5, t6, t7, t8, t9, t10, t11, t12, t13, t14, t15, t16, t17, t18, t19, t20, t21, t22, t23, t24, t25, t26, t27, t28, t29, t30, t31, t32, t33, t34, t35, t36, t37, t38, t39, t40, t41, t42, t43, t44, t45, t46, t47, t48, t49, t50, t51, t52, t53, t54, t55, t56, t57, t58, t59, t60, t61, t62, t63, t64, t65, t66, t67, t68, t69, t70, t71, t72, t73, t74, t75, t76, t77, t78, t79], defers := ds } t3 t5 t8 t38 t39 t40 ds := ⟨fun i => [t0, t1, t2, t3, t4, t5, t6, t7, t8, t9, t10, t11, t12, t13, t14, t15, t16, t17, t18, t19, t20, t21, t22, t23, t24, t25, t26, t27, t28, t29, t30, t31, t32, t33, t34, t35, t36, t37, t38, t39, t40, t41, t42, t43, t44, t45, t46, t47, t48, t49, t50, t51, t52, t53, t54, t55, t56, t57, t58, t59, t60, t61, t62, t63, t64, t65, t66, t67, t68, t69, t70, t71, t72, t73, t74, t75, t76, t77, t78, t79].getD i undef, rfl⟩
def FrAx (a' : Act) (x3 x8 x9 x10 x11 x12 : Value) (ds : List Deferred) : Prop := ∃ u : Nat → Value, a' = { tmps := #[u 0, u 1, u 2, x3, u 4, u 5, u 6, u 7, x8, x9, x10, x11, x12, u 13, u 14, u 15, u 16, u 17, u 18, u 19, u 20, u 21, u 22, u 23, u 24, u 25, u 26, u 27, u 28, u 29, u 30, u 31, u 32, u 33, u 34, u 35, u 36, u 37, u 38, u 39, u 40, u 41, u 42, u 43, u 44, u 45, u 46, u 47, u 48, u 49, u 50, u 51, u 52, u 53, u 54, u 55, u 56, u 57, u 58, u 59, u 60, u 61, u 62, u 63, u 64, u 65, u 66, u 67, u 68, u 69, u 70, u 71, u 72, u 73, u 74, u 75, u 76, u 77, u 78, u 79], defers := ds }
theorem FrAx.mk {t0 t1 t2 t3 t4 t5 t6 t7 t8 t9 t10 t11 t12 t13 t14 t15 t16 t17 t18 t19 t20 t21 t22 t23 t24 t25 t26 t27 t28 t29 t30 t31 t32 t33 t34 t35 t36 t37 t38 t39 t40 t41 t42 t43 t44 t45 t46 t47 t48 t49 t50 t51 t52 t53 t54 t55 t56 t57 t58 t59 t60 t61 t62 t63 t64 t65 t66 t67 t68 t69 t70 t71 t72 t73 t74 t75 t76 t77 t78 t79 : Value} {ds : List Deferred} : FrAx { tmps := #[t0, t1, t2, t3, t4, t5, t6, t7, t8, t9, t10, t11, t12, t13, t14, t15, t16, t17, t18, t19, t20, t21, t22, t23, t24, t25, t26, t27, t28, t29, t30, t31, t32, t33, t34, t35, t36, t37, t38, t39, t40, t41, t42, t43, t44, t45, t46, t47, t48, t49, t50, t51, t52, t53, t54, t55, t56, t57, t58, t59, t60, t61, t62, t63, t64, t65, t66, t67, t68, t69, t70, t71, t72, t73, t74, t75, t76, t77, t78, t79], defers := ds } t3 t8 t9 t10 t11 t12 ds := ⟨fun i => [t0, t1, t2, t3, t4, t5, t6, t7, t8, t9, t10, t11, t12, t13, t14, t15, t16, t17, t18, t19, t20, t21, t22, t23, t24, t25, t26, t27, t28, t29, t30, t31, t32, t33, t34, t35, t36, t37, t38, t39, t40, t41, t42, t43, t44, t45, t46, t47, t48, t49, t50, t51, t52, t53, t54, t55, t56, t57, t58, t59, t60, t61, t62, t63, t64, t65, t66, t67, t68, t69, t70, t71, t72, t73, t74, t75, t76, t77, t78, t79].getD i undef, rfl⟩
/-- Between two boxes of the tube. -/
structure AskAt (wq : World) (bs : List Bx) (pts : List Pt) (tn : ByteArray) (n : Nat) (Ds : List Nat) (W : World) : Prop where
  gr : Gr wq W
  fv : W.heap[wq.heap.size + 1]? = some (.cells #[.map (some wq.heap.size)] 98 (0, 0))
  fs : ∃ f nn, Firsts Tryz.prog 9 wq.heap.size nn W tn f ∧ nn ≤ n * 9437184 ∧ SoFar bs tn (fun j p => j < n ∧ p ∈ aroundOf pts (bs.getD j Bx.nil)) f
  nd : Ds.Nodup
  ds : ∀ D ∈ Ds, wq.heap.size + 1 < D ∧ W.heap[D]? = some (.deferred (some []))
theorem askAt_made (wq : World) (bs : List Bx) (pts : List Pt) (tn : ByteArray) : AskAt wq bs pts tn 0 [] ((wq.alloc (.map #[] 0)).alloc (.cells #[.map (some wq.heap.size)] 98)) := by
  refine ⟨((Gr.refl wq).alloc _).alloc _, ?_, ⟨_, 0, (Firsts.made wq Tryz.prog 9 tn).gr ((Gr.refl _).alloc _), Nat.zero_le _, soFar_congr (soFar_none bs tn) (fun j p => by simp)⟩, List.nodup_nil, fun D hD => by cases hD⟩
  have := World.alloc_heap_new (wq.alloc (.map #[] 0)) (.cells #[.map (some wq.heap.size)] 98)
  rwa [World.size_alloc] at this
/-- What is made ahead of the rounds over a box. -/
structure RoundAt (W W0 : World) (n : Nat) (b : Bx) (m : Nat) : Prop where
  gr : Gr W W0
  b0 : W0.heap[W.heap.size]? = some (.cells #[.int .i64 (n : Int)] 3 (0, 0))
  b1 : W0.heap[W.heap.size + 1]? = some (.cells #[.int .i64 b.x, .int .i64 b.y, .int .i64 b.l, .int .i64 b.h, .int .i64 b.i, .int .i64 b.o] 77 (0, 0))
  b2 : W0.heap[W.heap.size + 1 + 1]? = some (.cells #[.map (some m)] 79 (0, 0))
  b3 : W0.heap[W.heap.size + 1 + 1 + 1]? = some (.cells #[.int .i64 b.x, .int .i64 b.y, .int .i64 b.l, .int .i64 b.h, .int .i64 b.i, .int .i64 b.o] 77 (0, 0))
theorem four_alloc (W : World) (o1 o2 o3 o4 : Obj) : ((((W.alloc o1).alloc o2).alloc o3).alloc o4).heap[W.heap.size]? = some o1 ∧ ((((W.alloc o1).alloc o2).alloc o3).alloc o4).heap[W.heap.size + 1]? = some o2 ∧ ((((W.alloc o1).alloc o2).alloc o3).alloc o4).heap[W.heap.size + 1 + 1]? = some o3 ∧ ((((W.alloc o1).alloc o2).alloc o3).alloc o4).heap[W.heap.size + 1 + 1 + 1]? = some o4 := by
  have e1 : (W.alloc o1).heap.size = W.heap.size + 1 := World.size_alloc _ _
  have e2 : ((W.alloc o1).alloc o2).heap.size = W.heap.size + 1 + 1 := by rw [World.size_alloc, e1]
  have e3 : (((W.alloc o1).alloc o2).alloc o3).heap.size = W.heap.size + 1 + 1 + 1 := by rw [World.size_alloc, e2]
  refine ⟨?_, ?_, ?_, ?_⟩
  · exact (Below.heap_alloc _ _ _ (by omega)).trans ((Below.heap_alloc _ _ _ (by omega)).trans ((Below.heap_alloc _ _ _ (by omega)).trans (World.alloc_heap_new _ _)))
  · refine (Below.heap_alloc _ _ _ (by omega)).trans ((Below.heap_alloc _ _ _ (by omega)).trans ?_)
    have := World.alloc_heap_new (W.alloc o1) o2
    rwa [e1] at this
  · refine (Below.heap_alloc _ _ _ (by omega)).trans ?_
    have := World.alloc_heap_new ((W.alloc o1).alloc o2) o3
    rwa [e2] at this
  · have := World.alloc_heap_new (((W.alloc o1).alloc o2).alloc o3) o4
    rwa [e3] at this
theorem roundAt_made (W : World) (n : Nat) (b : Bx) (m : Nat) : RoundAt W ((((W.alloc (.cells #[.int .i64 (n : Int)] 3)).alloc (.cells #[.int .i64 b.x, .int .i64 b.y, .int .i64 b.l, .int .i64 b.h, .int .i64 b.i, .int .i64 b.o] 77)).alloc (.cells #[.map (some m)] 79)).alloc (.cells #[.int .i64 b.x, .int .i64 b.y, .int .i64 b.l, .int .i64 b.h, .int .i64 b.i, .int .i64 b.o] 77)) n b m := by
  obtain ⟨h0, h1, h2, h3⟩ := four_alloc W (.cells #[.int .i64 (n : Int)] 3) (.cells #[.int .i64 b.x, .int .i64 b.y, .int .i64 b.l, .int .i64 b.h, .int .i64 b.i, .int .i64 b.o] 77) (.cells #[.map (some m)] 79) (.cells #[.int .i64 b.x, .int .i64 b.y, .int .i64 b.l, .int .i64 b.h, .int .i64 b.i, .int .i64 b.o] 77)
  exact ⟨((((Gr.refl W).alloc _).alloc _).alloc _).alloc _, h0, h1, h2, h3⟩
/-- Between two rounds. -/
structure RndAt (W0 wq : World) (bs : List Bx) (pts : List Pt) (tn : ByteArray) (n : Nat) (pre : List Pt) (W : World) : Prop where
  low : KeepLow W0.heap.size wq.heap.size W0 W
  gr : Gr wq W
  fs : ∃ f nn, Firsts Tryz.prog 9 wq.heap.size nn W tn f ∧ nn ≤ n * 9437184 + pre.length ∧ SoFar bs tn (fun j p => (j < n ∧ p ∈ aroundOf pts (bs.getD j Bx.nil)) ∨ (j = n ∧ p ∈ pre)) f
theorem rndAt_start {Wl W0 wq : World} {bs : List Bx} {pts : List Pt} {tn : ByteArray} {n : Nat} {Ds : List Nat} (h : AskAt wq bs pts tn n Ds Wl) (g : Gr Wl W0) : RndAt W0 wq bs pts tn n [] W0 := by
  obtain ⟨f, nn, h1, h2, h3⟩ := h.fs
  exact ⟨KeepLow.refl _ _ _, h.gr.trans g, f, nn, h1.gr g, by simpa using h2, soFar_congr h3 (fun j p => by simp)⟩
theorem rndAt_own {W0 wq : World} {bs : List Bx} {pts : List Pt} {tn : ByteArray} {n : Nat} {pre : List Pt} {X Y : World} {row : Option Nat} (hq : wq.heap.size < W0.heap.size) (h : RndAt W0 wq bs pts tn n pre X) (hg : X.grownBy Y row) (hr : ∀ r, row = some r → W0.heap.size ≤ r) : RndAt W0 wq bs pts tn n pre Y := by
  obtain ⟨f, nn, h1, h2, h3⟩ := h.fs
  refine ⟨⟨Nat.le_trans h.low.size hg.size, fun k hk hf => ?_⟩, ?_, f, nn, h1.kept hg (fun e => ?_), h2, h3⟩
  · exact (hg.block k (Nat.lt_of_lt_of_le hk h.low.size) (fun e => by have := hr k e.symm; omega)).trans (h.low.same k hk hf)
  · exact Below.grown h.gr hg h.gr.size (fun k e => by have := hr k e; omega)
  · have := hr _ e.symm
    omega
theorem rndAt_gr {W0 wq : World} {bs : List Bx} {pts : List Pt} {tn : ByteArray} {n : Nat} {pre : List Pt} {X Y : World} (h : RndAt W0 wq bs pts tn n pre X) (g : Gr X Y) : RndAt W0 wq bs pts tn n pre Y := by
  obtain ⟨f, nn, h1, h2, h3⟩ := h.fs
  exact ⟨h.low.trans (KeepLow.gr h.low.size g), h.gr.trans g, f, nn, h1.gr g, h2, h3⟩
theorem rndAt_skip {W0 wq : World} {bs : List Bx} {pts : List Pt} {tn : ByteArray} {n : Nat} {pre : List Pt} {X : World} (h : RndAt W0 wq bs pts tn n pre X) (p : Pt) (hs : closeB (bs.getD n Bx.nil) (bxOf p) = false ∨ p.2.s = tn) : RndAt W0 wq bs pts tn n (pre ++ [p]) X := by
  obtain ⟨f, nn, h1, h2, h3⟩ := h.fs
  refine ⟨h.low, h.gr, f, nn, h1, by rw [List.length_append]; omega, soFar_congr (soFar_skip h3 hs) (fun j p' => ?_)⟩
  rw [List.mem_append, List.mem_singleton]
  constructor
  · rintro ((h | ⟨h, h'⟩) | ⟨h, h'⟩)
    · exact Or.inl h
    · exact Or.inr ⟨h, Or.inl h'⟩
    · exact Or.inr ⟨h, Or.inr h'⟩
  · rintro (h | ⟨h, h' | h'⟩)
    · exact Or.inl (Or.inl h)
    · exact Or.inl (Or.inr ⟨h, h'⟩)
    · exact Or.inr ⟨h, h'⟩
theorem rndAt_take {W0 wq : World} {bs : List Bx} {pts : List Pt} {tn : ByteArray} {n : Nat} {pre : List Pt} {X Y : World} (hq : wq.heap.size < W0.heap.size) (hl : KeepLow W0.heap.size wq.heap.size W0 X) (gr : Gr wq X) (p : Pt) {f : ByteArray → Option K3} {nn : Nat} (h2 : nn ≤ n * 9437184 + pre.length) (h3 : SoFar bs tn (fun j p => (j < n ∧ p ∈ aroundOf pts (bs.getD j Bx.nil)) ∨ (j = n ∧ p ∈ pre)) f)
    (hc : closeB (bs.getD n Bx.nil) (bxOf p) = true) (hne : p.2.s ≠ tn) (hF : Firsts Tryz.prog 9 wq.heap.size (nn + 1) Y tn (fun s' => if s' = p.2.s then pick (f p.2.s) (candAt bs p n) else f s')) (hg : X.grownBy Y (some wq.heap.size)) : RndAt W0 wq bs pts tn n (pre ++ [p]) Y := by
  refine ⟨hl.trans (KeepLow.grown hl.size hg), gr_map gr hg (Nat.le_refl _), _, nn + 1, hF, by rw [List.length_append, List.length_singleton]; omega, soFar_congr (soFar_take h3 hc hne) (fun j p' => ?_)⟩
  rw [List.mem_append, List.mem_singleton]
  constructor
  · rintro ((h | ⟨h, h'⟩) | ⟨h, h'⟩)
    · exact Or.inl h
    · exact Or.inr ⟨h, Or.inl h'⟩
    · exact Or.inr ⟨h, Or.inr h'⟩
  · rintro (h | ⟨h, h' | h'⟩)
    · exact Or.inl (Or.inl h)
    · exact Or.inl (Or.inr ⟨h, h'⟩)
    · exact Or.inr ⟨h, h'⟩
theorem grownBy_keepsCells {X Y : World} {row : Option Nat} (hg : X.grownBy Y row) (hr : ∀ r, row = some r → ∃ o : Obj, X.heap[r]? = some o ∧ o.isCells = false) {k : Nat} {vs : Array Value} {t : TypeId} {fr : Nat × Nat} (h : X.heap[k]? = some (.cells vs t fr)) : Y.heap[k]? = X.heap[k]? :=
  hg.block k (Array.getElem?_eq_some_iff.1 h).1 (fun e => by
    obtain ⟨o, ho, hc⟩ := hr k e.symm
    rw [h] at ho
    cases ho
    cases hc)
theorem cell_blk {W : World} {k j : Nat} {vs : Array Value} {t : TypeId} {fr : Nat × Nat} (h : W.heap[k]? = some (.cells vs t fr)) : W.cell? ⟨k, j, none⟩ = vs[j]? := by unfold World.cell?; rw [h]; rfl
theorem blk_gr {W W' : World} {k : Nat} {o : Obj} (h : W.heap[k]? = some o) (g : Gr W W') : W'.heap[k]? = some o := (Below.block g k (Array.getElem?_eq_some_iff.1 h).1).trans h
theorem aroundS_len {S : Int × Int → List Sl} (h : ∀ c, (S c).length ≤ 1048576) (b : Bx) : (aroundS S b).length ≤ 9437184 := by
  unfold aroundS cellsAround
  simp only [List.flatMap_cons, List.flatMap_nil, List.length_append, List.length_map, List.length_nil]
  have h1 := h (b.x - 1, b.y - 1)
  have h2 := h (b.x - 1, b.y)
  have h3 := h (b.x - 1, b.y + 1)
  have h4 := h (b.x, b.y - 1)
  have h5 := h (b.x, b.y)
  have h6 := h (b.x, b.y + 1)
  have h7 := h (b.x + 1, b.y - 1)
  have h8 := h (b.x + 1, b.y)
  have h9 := h (b.x + 1, b.y + 1)
  omega
theorem askAt_next {Wl W0 wq : World} {bs : List Bx} {pts : List Pt} {tn : ByteArray} {n D : Nat} {Ds : List Nat} {xs : List Pt} {X : World} (h : AskAt wq bs pts tn n Ds Wl) (g : Gr Wl W0) (hq : wq.heap.size + 2 ≤ W0.heap.size) (hI : RndAt W0 wq bs pts tn n xs X) (hS : xs = aroundOf pts (bs.getD n Bx.nil)) (hl : xs.length ≤ 9437184) (hD : W0.heap.size ≤ D) (hK : X.heap[D]? = some (.deferred (some []))) : AskAt wq bs pts tn (n + 1) (D :: Ds) X := by
  obtain ⟨f, nn, h1, h2, h3⟩ := hI.fs
  have hlt : ∀ E ∈ Ds, E < W0.heap.size := fun E hE => Nat.lt_of_lt_of_le (Array.getElem?_eq_some_iff.1 (h.ds E hE).2).1 g.size
  refine ⟨hI.gr, (hI.low.same _ (by omega) (by omega)).trans (blk_gr h.fv g), ⟨f, nn, h1, by omega, soFar_congr h3 (fun j p => ?_)⟩, List.nodup_cons.2 ⟨fun hm => by have := hlt D hm; omega, h.nd⟩, fun E hE => ?_⟩
  · subst hS
    constructor
    · rintro (⟨hj, hp⟩ | ⟨rfl, hp⟩)
      · exact ⟨by omega, hp⟩
      · exact ⟨by omega, hp⟩
    · rintro ⟨hj, hp⟩
      by_cases e : j = n
      · subst e
        exact Or.inr ⟨rfl, hp⟩
      · exact Or.inl ⟨by omega, hp⟩
  · rcases List.mem_cons.1 hE with rfl | hE
    · exact ⟨by omega, hK⟩
    · exact ⟨(h.ds E hE).1, (hI.low.same E (hlt E hE) (by have := (h.ds E hE).1; omega)).trans (blk_gr (h.ds E hE).2 g)⟩
theorem soFar_mem {bs : List Bx} {pts : List Pt} {tn : ByteArray} {n : Nat} {f : ByteArray → Option K3} (h : SoFar bs tn (fun j p => j < n ∧ p ∈ aroundOf pts (bs.getD j Bx.nil)) f) {s : ByteArray} (hs : (f s).isSome = true) : ∃ p ∈ pts, p.2.s = s := by
  obtain ⟨k, hk⟩ := Option.isSome_iff_exists.1 hs
  have hne : s ≠ tn := fun e => by rw [e, h.1] at hk; cases hk
  have h2 := h.2 s hne
  rw [hk] at h2
  obtain ⟨⟨j, p, ⟨-, hp⟩, e, -⟩, -⟩ := h2
  exact ⟨p, (mem_aroundOf.1 hp).1, e⟩
theorem names_le : ∀ (ns : List ByteArray) (P : List Pt), ns.Nodup → (∀ n ∈ ns, ∃ p ∈ P, p.2.s = n) → ns.length ≤ P.length
  | [], P, _, _ => Nat.zero_le _
  | n :: ns, P, hnd, hm => by
    obtain ⟨h1, h2⟩ := List.nodup_cons.1 hnd
    obtain ⟨p, hp, e⟩ := hm n List.mem_cons_self
    have hlt : (P.filter fun q => !(decide (q.2.s = n))).length < P.length := List.length_filter_lt_length_iff_exists.2 ⟨p, hp, by simp [e]⟩
    have := names_le ns (P.filter fun q => !(decide (q.2.s = n))) h2 (fun m hm' => by
      obtain ⟨q, hq, e'⟩ := hm m (List.mem_cons_of_mem _ hm')
      refine ⟨q, List.mem_filter.2 ⟨hq, ?_⟩, e'⟩
      have : q.2.s ≠ n := fun e2 => h1 (by rw [← e2, e']; exact hm')
      simp [this])
    rw [List.length_cons]
    omega

set_option maxRecDepth 100000 in
set_option maxHeartbeats 4000000 in
theorem implAsk_ok (lo : Nat) (v : Value) (cs : List Cx) (tn : ByteArray) (ba : Option Addr) (bc : Nat) (bs : List Bx) (w : World) (h : OwnX lo w v cs) (hM : MadeX cs) (hS : SmallX cs) (hP : (ptsOf (idxOf cs)).length ≤ 1048576) (hs : tn.size ≤ maxLen) (hb : Boxes w ba bs) (hW : ∀ c ∈ cs, Wk c.1) (hN : ∀ p ∈ ptsOf (idxOf cs), p.2.s.size ≤ maxLen) (hok : tubeB tn bs = true) :
    Calls Tryz.prog 33 #[.agg #[v], .agg #[.string tn, .slice ba bs.length bc]] w fun e w' => (∃ rv, ∃ l : List (ByteArray × K3), e = .returned rv ∧ w'.ownsRow w.heap.size 61 5 rv l.length (l.flatMap (encA tn)) ∧ AnsIs bs (ptsOf (idxOf cs)) tn l) ∧ Gr w w' := by
  obtain ⟨va, vc, rfl⟩ := row_form h.row
  have GB : Gr w ((w.alloc (.cells #[.slice va cs.length vc] 48)).alloc (.cells #[.string tn, .slice ba bs.length bc] 40)) := ((Gr.refl _).alloc _).alloc _
  obtain ⟨lb, okb⟩ := tube_boxes hok
  have HT := hidE (implTubeOk_any tn ba bc bs _ hs (boxes_gr hb GB) (by omega))
  rw [hok] at HT
  have HX := hidE h
  have HM := hidE hM
  have HW := hidE hW
  have HN := hidE hN
  have HB := hidE hb
  have HOK := hidE okb
  have HGB := hidE GB
  have hcl := hS.1
  clear h hM hW hN hb okb GB hok
  refine (callsIn_wide (n := 3)).1 ?_
  refine callsIn_of_wp_marks Tryz.func33 rfl trivial ?_
  simp only [Tryz.ntmps33, List.size_toArray, List.length_cons, List.length_nil, Nat.reduceAdd, Nat.reduceSub, Array.replicate_succ, Array.replicate_zero, List.push_toArray, List.append_toArray, List.nil_append, List.cons_append]
  refine wpIn_wide.2 ?_
  go_wp2_with fail
  (with_reducible refine Calls.mono HT.out ?_)
  rintro e w1 ⟨rfl, g1⟩
  have HG1 := hidE (HGB.out.trans g1)
  have i0 : w1.cell? ⟨w.heap.size, 0, none⟩ = some (.slice va cs.length vc) := (g1.cells.1 _ _ (by simp; omega)).trans ((cell_old (by simp)).trans ((cell_new (by simp)).trans rfl))
  have i1 : (w1.alloc (.map #[] 0)).cell? ⟨w.heap.size, 0, none⟩ = some (.slice va cs.length vc) := (cell_old (by have := g1.size; simp at this; omega)).trans i0
  have hz1 : w.heap.size + 2 ≤ w1.heap.size := by have := g1.size; simp at this; omega
  have HT0 : Hid (w1.heap[w.heap.size + 1]? = some (.cells #[.string tn, .slice ba bs.length bc] 40 (0, 0))) := (Below.block g1 _ (by simp)).trans (by have := World.alloc_heap_new (w.alloc (.cells #[.slice va cs.length vc] 48)) (.cells #[.string tn, .slice ba bs.length bc] 40); rwa [World.size_alloc] at this)
  clear g1 HT
  have hmm := @run_makeMap Tryz.prog
  go_wp2
  have M0 : Hid (Grp w1.heap.size w1.heap.size (w1.alloc (.map #[] 0)) (fun k => slotsAt k (ptsOf (idxOf (cs.take 0)))) [] (fun _ => .slice none 0 0)) := groups_made w1 _ _ _ _ _ _
  clear hmm i0 i1
  go_loopw [22] (fun n wr => ∃ (i : Nat) (ks : List (Int × Int)) (V : Int × Int → Value), i ≤ cs.length ∧ n = .int .i64 i ∧ ks.length = i ∧ Hid (Grp w1.heap.size w1.heap.size wr (fun k => slotsAt k (ptsOf (idxOf (cs.take i)))) ks V) ∧ Hid (Gr w1 wr) ∧ w1.heap.size + 1 ≤ wr.heap.size) (fun n _ => cs.length - (intOf n).toNat)
  case atStart => exact ⟨0, [], _, Nat.zero_le _, rfl, rfl, M0, (Gr.refl _).alloc _, by simp⟩
  case round =>
    clear M0
    obtain ⟨i, ks, V, hi, rfl, hks, HG, HR, hz⟩ := hrel
    rename World => wr
    by_cases hil : i < cs.length
    · obtain ⟨-, hcell⟩ := own_cells (ownX_gr HX.out (HG1.out.trans HR.out))
      obtain ⟨g, sa, sc, rfl, hg, -, c0, c1, c2, hv, -, -⟩ := hcell i hil
      have hmem := List.mem_of_getElem? (cx_get hil)
      obtain ⟨q, hq⟩ := HM.out _ hmem
      have hrow := HX.out.slots _ hmem
      have hWk := HW.out _ hmem
      have HPT := hidE (pts_take hil)
      have hpl := pts_le (cs := cs) (i + 1)
      rw [HPT.out] at hpl
      generalize cs.getD i Cx.nil = c at *
      obtain ⟨k, sv, ss⟩ := c
      simp only at hv hq hrow hWk HPT c0 c1 c2 hpl
      rw [hq] at hv hrow
      simp only [Value.slice.injEq] at hv
      obtain ⟨rfl, -, rfl⟩ := hv
      have hql : q < w.heap.size := (row_block hrow rfl).2.1
      have hlen : (slotsAt k (ptsOf (idxOf (cs.take i)))).length + ss.length ≤ 1048576 := by
        have := slotsAt_le k (ptsOf (idxOf (cs.take i)))
        rw [List.length_append, List.length_map] at hpl
        omega
      have hi0 : (0 : Int) ≤ (i : Int) := by omega
      have hi1 : (i : Int) < (cs.length : Int) := by omega
      have HA := hidE (add_any k hWk ss ⟨q, 0, none⟩ ss.length w1.heap.size w1.heap.size (wr.alloc (.cells #[.int .i64 k.1, .int .i64 k.2, .slice (some ⟨q, 0, none⟩) ss.length ss.length] 96)) _ ks V (HG.out.gr ((Gr.refl wr).alloc _)) (by omega) hlen (by simp; omega) (row_news (owns_gr hrow ((HG1.out.trans HR.out).alloc _))) (by simp; omega) (by dsimp only; omega))
      clear hcell hmem hq hrow hpl hlen
      go_wp2_with fail
      (with_reducible refine Calls.mono HA.out ?_)
      rintro e w2 ⟨rfl, ⟨v', hG2⟩, hfr, -⟩
      have HG2 : Hid (Grp w1.heap.size w1.heap.size w2 (fun j => slotsAt j (ptsOf (idxOf (cs.take (i + 1))))) (k :: ks) (fun j => if j = k then v' else V j)) := by
        have e9 : (fun j => slotsAt j (ptsOf (idxOf (cs.take (i + 1))))) = fun j => if j = k then slotsAt k (ptsOf (idxOf (cs.take i))) ++ ss else slotsAt j (ptsOf (idxOf (cs.take i))) := funext fun j => by rw [HPT.out]; exact slotsAt_cell _ _ _ _
        show Groups _ _ _ _ _ _ _ _ _ _ _
        rw [e9]
        exact hG2
      have HR2 : Hid (Gr w1 w2) := hfr w1 (HR.out.alloc _) (Nat.le_refl _) (Nat.le_refl _)
      have hz2 : w1.heap.size + 1 ≤ w2.heap.size := by
        obtain ⟨D, hD, -⟩ := hG2.own
        exact hD.lt
      clear hG2 hfr HA
      go_wp2
      go_roundw
      case rel => exact ⟨i + 1, k :: ks, _, by omega, by go_num, by simp [hks], HG2, HR2, hz2⟩
      case measure => simp [intOf]; omega
    · obtain ⟨wq, hwq⟩ : ∃ x, x = wr := ⟨_, rfl⟩
      subst hwq
      have hd : decide (i < cs.length) = false := by simpa using hil
      have e : i = cs.length := by omega
      have HG2 : Hid (Grp w1.heap.size w1.heap.size wq (fun k => slotsAt k (ptsOf (idxOf cs))) ks V) := by
        have := HG.out
        rwa [e, List.take_length] at this
      clear HG e hil
      have hmm := @run_makeMap Tryz.prog
      clear HX HM HW
      have t1 : wq.heap[w.heap.size + 1]? = some (.cells #[.string tn, .slice ba bs.length bc] 40 (0, 0)) := (Below.block HR.out _ (by omega)).trans HT0.out
      have tq : wq.cell? ⟨w.heap.size + 1, 1, none⟩ = some (.slice ba bs.length bc) := by unfold World.cell?; rw [t1]; rfl
      have tq2 : ((wq.alloc (.map #[] 0)).alloc (.cells #[.map (some wq.heap.size)] 98)).cell? ⟨w.heap.size + 1, 1, none⟩ = some (.slice ba bs.length bc) := (cell_old (by simp; omega)).trans ((cell_old (by omega)).trans tq)
      go_wp2
      have A0 : Hid (AskAt wq bs (ptsOf (idxOf cs)) tn 0 [] ((wq.alloc (.map #[] 0)).alloc (.cells #[.map (some wq.heap.size)] 98))) := askAt_made wq bs (ptsOf (idxOf cs)) tn
      clear hmm tq tq2 hd hi hks
      refine wp_loop (fun a' W => ∃ (n : Nat) (Ds : List Nat), AskAt wq bs (ptsOf (idxOf cs)) tn n Ds W ∧ n ≤ bs.length ∧ FrAsk a' (.pointer (some ⟨w.heap.size + 1, 0, none⟩)) (.map (some w1.heap.size)) (.pointer (some ⟨wq.heap.size + 1, 0, none⟩)) (.slice ba bs.length bc) (.int .i64 bs.length) (.int .i64 n) (Ds.map fun D => { target := .collected D, args := #[] })) (fun a' _ => bs.length - (intOf (a'.tmps.getD 40 undef)).toNat) ⟨0, [], A0.out, Nat.zero_le _, FrAsk.mk⟩ ?_
      clear A0
      rintro a' Wl ⟨n, Ds, hI, hn, u, rfl⟩
      have HI := hidE hI
      have HWQ : Hid (Gr w wq) := HG1.out.trans HR.out
      have GW : Gr w Wl := HWQ.out.trans hI.gr
      have hsq : wq.heap.size + 2 ≤ Wl.heap.size := (Array.getElem?_eq_some_iff.1 hI.fv).1
      clear hI
      by_cases hnl : n < bs.length
      · obtain ⟨g, o, rfl, hg, hx⟩ := HB.out n hnl
        obtain ⟨c0, c1, c2, c3, c4, c5⟩ := six_gr hx GW hg
        have hbo := ok_nums (HOK.out n hnl)
        obtain ⟨b, hbe⟩ : ∃ b, bs.getD n Bx.nil = b := ⟨_, rfl⟩
        rw [hbe] at c0 c1 c2 c3 c4 c5 hbo
        have HBE := hidE hbe
        have hi0 : (0 : Int) ≤ (n : Int) := by omega
        have hi1 : (n : Int) < (bs.length : Int) := by omega
        have HAR := hidE (around_any (some w1.heap.size) b ((Wl.alloc (.cells #[.int .i64 (n : Int)] 3)).alloc (.cells #[.int .i64 b.x, .int .i64 b.y, .int .i64 b.l, .int .i64 b.h, .int .i64 b.i, .int .i64 b.o] 77)))
        clear hx hbe
        go_wp2_with fail
        (with_reducible refine Calls.mono HAR.out ?_)
        rintro e W0 ⟨rfl, hW0⟩
        have hsz : Wl.heap.size + 4 ≤ W0.heap.size := by rw [hW0]; simp
        have HR0 : Hid (RoundAt Wl W0 n b w1.heap.size) := hW0 ▸ roundAt_made Wl n b w1.heap.size
        clear hW0 HAR c0 c1 c2 c3 c4 c5
        simp only [World.size_alloc]
        have HLA : Hid (LowAt W0.heap.size wq.heap.size (Wl.heap.size + 1 + 1 + 1) (Wl.heap.size + 1 + 1) w1.heap.size V) := ⟨⟨by omega, by omega⟩, ⟨by omega, by omega⟩, ⟨by omega, by omega⟩, fun k hk g hg => by have := (row_block (HG2.out.rows k hk) hg).2.1; exact ⟨by omega, by omega⟩⟩
        have HRD : Hid (ReadsAt (Wl.heap.size + 1 + 1 + 1) (Wl.heap.size + 1 + 1) w1.heap.size w1.heap.size b (fun k => slotsAt k (ptsOf (idxOf cs))) ks V W0) := ⟨by unfold World.cell?; rw [HR0.out.b3]; rfl, by unfold World.cell?; rw [HR0.out.b3]; rfl, by unfold World.cell?; rw [HR0.out.b2]; rfl, HG2.out.gr (HI.out.gr.trans HR0.out.gr)⟩
        have HLEN : Hid (∀ c, (slotsAt c (ptsOf (idxOf cs))).length ≤ 1048576) := fun c => Nat.le_trans (slotsAt_le c _) hP
        have HST : Hid (RndAt W0 wq bs (ptsOf (idxOf cs)) tn n [] W0) := rndAt_start HI.out HR0.out.gr
        go_wp2_with fail
        refine (wpIn_wide (n := 3)).1 ?_
        refine' wpIn_rangeFunc_ownH (F := Fence.wide) rfl (by decide) (gf := 97) (lb := #[.pointer (some ⟨Wl.heap.size + 1 + 1 + 1, 0, none⟩), .pointer (some ⟨Wl.heap.size + 1 + 1, 0, none⟩)]) rfl trivial (enters_of Tryz.func97 (by kernel_rfl) rfl)
          (around_stops Fence.wide 2 trivial rfl (by decide) b (by omega) (by omega) (by omega) (by omega) wq.heap.size (Wl.heap.size + 1 + 1 + 1) (Wl.heap.size + 1 + 1) w1.heap.size w1.heap.size (fun k => slotsAt k (ptsOf (idxOf cs))) ks V HLEN.out W0 HLA.out HRD.out)
          (fun h k => h.trans k) (fun X l o o' hl' _ _ _ => KeepLow.putObj X o' hl') (Below.refl _ _) (fun _ => rfl)
          (fun pre X => RndAt W0 wq bs (ptsOf (idxOf cs)) tn n (pre.map (·.1)) X) (fun _ _ _ => False)
          (fun pre X Y row hs hg hr => rndAt_own (by omega) hs hg (fun r e => (hr r e).1)) (fun c pre X Y row hs _ _ => hs.elim)
          HST.out
          (fun x a' X => ∃ p q, FrAx a' (.pointer (some ⟨w.heap.size + 1, 0, none⟩)) (.pointer (some ⟨wq.heap.size + 1, 0, none⟩)) (.pointer (some ⟨Wl.heap.size, 0, none⟩)) (.pointer (some ⟨Wl.heap.size + 1, 0, none⟩)) (.pointer (some ⟨p, 0, none⟩)) (.pointer (some ⟨q, 0, none⟩)) [] ∧ X.heap[p]? = some (.cells #[.int .i64 x.1.1.1, .int .i64 x.1.1.2] 82 (0, 0)) ∧ X.heap[q]? = some (.cells #[.int .i64 x.1.2.i, .int .i64 x.1.2.o, .int .i64 x.1.2.l, .int .i64 x.1.2.h, .string x.1.2.s, .int .i64 x.1.2.p] 84 (0, 0)))
          ?ax ?assign ?body ?done ?stop
        case ax =>
          rintro x a' - X Y row ⟨p, q, hF, hp, hq⟩ hg hr
          exact ⟨p, q, hF, (grownBy_keepsCells hg (fun r e => (hr r e).2) hp).trans hp, (grownBy_keepsCells hg (fun r e => (hr r e).2) hq).trans hq⟩
        case assign =>
          rintro l pre ⟨⟨c, s⟩, hm⟩ X K hI hK
          dsimp only [encAr]
          have hlow := hI.low.size
          gi_wp2
          have hgX : Gr X ((X.alloc (.cells #[.int .i64 c.1, .int .i64 c.2] 82)).alloc (.cells #[.int .i64 s.i, .int .i64 s.o, .int .i64 s.l, .int .i64 s.h, .string s.s, .int .i64 s.p] 84)) := ((Gr.refl X).alloc _).alloc _
          refine hK _ _ (keeps_gr hgX) (KeepLow.gr hlow hgX) (rndAt_gr hI hgX) ⟨X.heap.size, X.heap.size + 1, FrAx.mk, ?_, ?_⟩
          · exact (Below.heap_alloc _ _ _ (by simp)).trans (World.alloc_heap_new _ _)
          · have := World.alloc_heap_new (X.alloc (.cells #[.int .i64 c.1, .int .i64 c.2] 82)) (.cells #[.int .i64 s.i, .int .i64 s.o, .int .i64 s.l, .int .i64 s.h, .string s.s, .int .i64 s.p] 84)
            rwa [World.size_alloc] at this
        case body =>
          rintro l pre ⟨⟨c, s⟩, hm⟩ a' X hl hr hI ⟨p, q, ⟨v, rfl⟩, hp, hq⟩ hlt
          dsimp only at hp hq
          have hlow := hI.low
          have hb1 : X.heap[Wl.heap.size + 1]? = _ := (hlow.same _ (by omega) (by omega)).trans HR0.out.b1
          have hb0 : X.heap[Wl.heap.size]? = _ := (hlow.same _ (by omega) (by omega)).trans HR0.out.b0
          have htb : X.heap[w.heap.size + 1]? = _ := (Below.block (HR.out.trans hI.gr) _ (by omega)).trans HT0.out
          have hfv : X.heap[wq.heap.size + 1]? = _ := (hlow.same _ (by omega) (by omega)).trans ((Below.block HR0.out.gr _ (by omega)).trans HI.out.fv)
          have KS : Hid (∀ w', Gr X w' → Gr X w' ∧ (w'.cell? ⟨Wl.heap.size + 1, 0, none⟩ = some (.int .i64 b.x) ∧ w'.cell? ⟨Wl.heap.size + 1, 1, none⟩ = some (.int .i64 b.y) ∧ w'.cell? ⟨Wl.heap.size + 1, 2, none⟩ = some (.int .i64 b.l) ∧ w'.cell? ⟨Wl.heap.size + 1, 3, none⟩ = some (.int .i64 b.h) ∧ w'.cell? ⟨Wl.heap.size + 1, 4, none⟩ = some (.int .i64 b.i) ∧ w'.cell? ⟨Wl.heap.size + 1, 5, none⟩ = some (.int .i64 b.o)) ∧ (w'.cell? ⟨p, 0, none⟩ = some (.int .i64 c.1) ∧ w'.cell? ⟨p, 1, none⟩ = some (.int .i64 c.2)) ∧ (w'.cell? ⟨q, 0, none⟩ = some (.int .i64 s.i) ∧ w'.cell? ⟨q, 1, none⟩ = some (.int .i64 s.o) ∧ w'.cell? ⟨q, 2, none⟩ = some (.int .i64 s.l) ∧ w'.cell? ⟨q, 3, none⟩ = some (.int .i64 s.h) ∧ w'.cell? ⟨q, 4, none⟩ = some (.string s.s) ∧ w'.cell? ⟨q, 5, none⟩ = some (.int .i64 s.p))) := fun w' g => ⟨g, ⟨(cell_blk (blk_gr hb1 g)).trans rfl, (cell_blk (blk_gr hb1 g)).trans rfl, (cell_blk (blk_gr hb1 g)).trans rfl, (cell_blk (blk_gr hb1 g)).trans rfl, (cell_blk (blk_gr hb1 g)).trans rfl, (cell_blk (blk_gr hb1 g)).trans rfl⟩, ⟨(cell_blk (blk_gr hp g)).trans rfl, (cell_blk (blk_gr hp g)).trans rfl⟩, (cell_blk (blk_gr hq g)).trans rfl, (cell_blk (blk_gr hq g)).trans rfl, (cell_blk (blk_gr hq g)).trans rfl, (cell_blk (blk_gr hq g)).trans rfl, (cell_blk (blk_gr hq g)).trans rfl, (cell_blk (blk_gr hq g)).trans rfl⟩
          have HQ : Hid (∀ w', Gr X w' → w'.cell? ⟨w.heap.size + 1, 0, none⟩ = some (.string tn) ∧ w'.cell? ⟨wq.heap.size + 1, 0, none⟩ = some (.map (some wq.heap.size)) ∧ w'.cell? ⟨Wl.heap.size, 0, none⟩ = some (.int .i64 (n : Int))) := fun w' g => ⟨(cell_blk (blk_gr htb g)).trans rfl, (cell_blk (blk_gr hfv g)).trans rfl, (cell_blk (blk_gr hb0 g)).trans rfl⟩
          have HIX := hidE hI
          have HLW := hidE hlow
          have hlw := hlow.size
          have HMM : Hid ((c, s) ∈ (ptsOf (idxOf cs))) := (mem_aroundOf.1 hm).1
          have hH := KS.out _ (Gr.refl X).drew
          clear hb1 hb0 htb hfv hI hlow hp hq hr
          refine wpIn_block ?_
          refine wpIn_seq ?_
          dsimp only
          refine region_round (S := fun w' => Gr X w' ∧ (w'.cell? ⟨Wl.heap.size + 1, 0, none⟩ = some (.int .i64 b.x) ∧ w'.cell? ⟨Wl.heap.size + 1, 1, none⟩ = some (.int .i64 b.y) ∧ w'.cell? ⟨Wl.heap.size + 1, 2, none⟩ = some (.int .i64 b.l) ∧ w'.cell? ⟨Wl.heap.size + 1, 3, none⟩ = some (.int .i64 b.h) ∧ w'.cell? ⟨Wl.heap.size + 1, 4, none⟩ = some (.int .i64 b.i) ∧ w'.cell? ⟨Wl.heap.size + 1, 5, none⟩ = some (.int .i64 b.o)) ∧ (w'.cell? ⟨p, 0, none⟩ = some (.int .i64 c.1) ∧ w'.cell? ⟨p, 1, none⟩ = some (.int .i64 c.2)) ∧ (w'.cell? ⟨q, 0, none⟩ = some (.int .i64 s.i) ∧ w'.cell? ⟨q, 1, none⟩ = some (.int .i64 s.o) ∧ w'.cell? ⟨q, 2, none⟩ = some (.int .i64 s.l) ∧ w'.cell? ⟨q, 3, none⟩ = some (.int .i64 s.h) ∧ w'.cell? ⟨q, 4, none⟩ = some (.string s.s) ∧ w'.cell? ⟨q, 5, none⟩ = some (.int .i64 s.p))) (by kernel_rfl) (by kernel_rfl) (by rintro ⟨_, _, h⟩; exact h) ?_
          refine takeH (i := 0) (d := 51) (v := .agg #[.int .i64 b.x, .int .i64 b.y, .int .i64 b.l, .int .i64 b.h, .int .i64 b.i, .int .i64 b.o]) rfl rfl (by kernel_rfl) (by kernel_rfl) (by kernel_rfl) (fun _ _ _ h => h) hH (Or.inl ⟨by rfl, by intro w' hSw; obtain ⟨-, ⟨x0, x1, x2, x3, x4, x5⟩, ⟨y0, y1⟩, z0, z1, z2, z3, z4, z5⟩ := hSw; go_simp⟩) ?_
          simp only [Act.put, List.setIfInBounds_toArray, List.set_cons_zero, List.set_cons_succ]
          refine takeH (i := 1) (d := 52) (v := .agg #[.int .i64 c.1, .int .i64 c.2]) rfl rfl (by kernel_rfl) (by kernel_rfl) (by kernel_rfl) (fun _ _ _ h => h) hH (Or.inl ⟨by rfl, by intro w' hSw; obtain ⟨-, ⟨x0, x1, x2, x3, x4, x5⟩, ⟨y0, y1⟩, z0, z1, z2, z3, z4, z5⟩ := hSw; go_simp⟩) ?_
          simp only [Act.put, List.setIfInBounds_toArray, List.set_cons_zero, List.set_cons_succ]
          refine takeH (i := 2) (d := 53) (v := .agg #[.int .i64 s.i, .int .i64 s.o, .int .i64 s.l, .int .i64 s.h, .string s.s, .int .i64 s.p]) rfl rfl (by kernel_rfl) (by kernel_rfl) (by kernel_rfl) (fun _ _ _ h => h) hH (Or.inl ⟨by rfl, by intro w' hSw; obtain ⟨-, ⟨x0, x1, x2, x3, x4, x5⟩, ⟨y0, y1⟩, z0, z1, z2, z3, z4, z5⟩ := hSw; go_simp⟩) ?_
          simp only [Act.put, List.setIfInBounds_toArray, List.set_cons_zero, List.set_cons_succ]
          refine wpAnyH_ready (rs := [3]) (by kernel_rfl) (by simp) ?_
          refine AllReadyH.cons (o := _) rfl (fun K hK => ?_) AllReadyH.nil
          go_simp
          refine (boxOf_any c s _).mono ?_
          rintro e w3 ⟨rfl, g⟩
          dsimp only
          have G3 : Gr X w3 := ((Gr.refl X).drew).trans g
          refine hK.out _ _ (KS.out _ G3) (fun hHeld => ?_)
          clear hK K hH g
          have hH := hHeld
          clear hHeld
          (try dsimp only at hH)
          refine wpAnyH_ready (rs := [4]) (by kernel_rfl) (by simp) ?_
          refine AllReadyH.cons (o := _) rfl (fun K hK => ?_) AllReadyH.nil
          go_simp
          refine (implClose_any b (bxOf (c, s)) _).mono ?_
          rintro e w4 ⟨rfl, g⟩
          dsimp only
          have G4 : Gr X w4 := G3.trans g
          refine hK.out _ _ (KS.out _ G4) (fun hHeld => ?_)
          clear hK K hH g
          have hH := hHeld
          clear hHeld
          (try dsimp only at hH)
          refine takeH (i := 5) (d := 50) (v := .tuple #[.int .i64 (closeT b (bxOf (c, s))), .bool (closeB b (bxOf (c, s)))]) rfl rfl (by kernel_rfl) (by kernel_rfl) (by kernel_rfl) (fun _ _ _ h => h) hH (Or.inl ⟨by rfl, by intro w' hSw; obtain ⟨-, ⟨x0, x1, x2, x3, x4, x5⟩, ⟨y0, y1⟩, z0, z1, z2, z3, z4, z5⟩ := hSw; go_simp⟩) ?_
          simp only [Act.put, List.setIfInBounds_toArray, List.set_cons_zero, List.set_cons_succ]
          refine takeH (i := 6) (d := 56) (v := .int .i64 (closeT b (bxOf (c, s)))) rfl rfl (by kernel_rfl) (by kernel_rfl) (by kernel_rfl) (fun _ _ _ h => h) hH (Or.inl ⟨by rfl, by intro w' hSw; obtain ⟨-, ⟨x0, x1, x2, x3, x4, x5⟩, ⟨y0, y1⟩, z0, z1, z2, z3, z4, z5⟩ := hSw; go_simp⟩) ?_
          simp only [Act.put, List.setIfInBounds_toArray, List.set_cons_zero, List.set_cons_succ]
          refine takeH (i := 7) (d := 57) (v := .bool (closeB b (bxOf (c, s)))) rfl rfl (by kernel_rfl) (by kernel_rfl) (by kernel_rfl) (fun _ _ _ h => h) hH (Or.inl ⟨by rfl, by intro w' hSw; obtain ⟨-, ⟨x0, x1, x2, x3, x4, x5⟩, ⟨y0, y1⟩, z0, z1, z2, z3, z4, z5⟩ := hSw; go_simp⟩) ?_
          simp only [Act.put, List.setIfInBounds_toArray, List.set_cons_zero, List.set_cons_succ]
          refine takeH (i := 8) (d := 13) (v := .int .i64 (closeT b (bxOf (c, s)))) rfl rfl (by kernel_rfl) (by kernel_rfl) (by kernel_rfl) (fun _ _ _ h => h) hH (Or.inl ⟨by rfl, by intro w' hSw; obtain ⟨-, ⟨x0, x1, x2, x3, x4, x5⟩, ⟨y0, y1⟩, z0, z1, z2, z3, z4, z5⟩ := hSw; go_simp⟩) ?_
          simp only [Act.put, List.setIfInBounds_toArray, List.set_cons_zero, List.set_cons_succ]
          refine takeH (i := 9) (d := 14) (v := .bool (closeB b (bxOf (c, s)))) rfl rfl (by kernel_rfl) (by kernel_rfl) (by kernel_rfl) (fun _ _ _ h => h) hH (Or.inl ⟨by rfl, by intro w' hSw; obtain ⟨-, ⟨x0, x1, x2, x3, x4, x5⟩, ⟨y0, y1⟩, z0, z1, z2, z3, z4, z5⟩ := hSw; go_simp⟩) ?_
          simp only [Act.put, List.setIfInBounds_toArray, List.set_cons_zero, List.set_cons_succ]
          refine wpAnyH_done (by kernel_rfl) ?_ _
          obtain ⟨-, -, -, -, -, -, -, z4, z5⟩ := hH
          obtain ⟨t0, f0, n0⟩ := HQ.out _ G4
          have HS4 := hidE (rndAt_gr HIX.out G4)
          have HCA : Hid (candAt bs (c, s) n = (closeT b (bxOf (c, s)), (n : Int), s.p)) := by
            show _ = _
            unfold candAt
            rw [HBE.out]
          have HMA : Hid ((pre ++ [(⟨(c, s), hm⟩ : ArS (fun k => slotsAt k (ptsOf (idxOf cs))) b)]).map (·.1) = pre.map (·.1) ++ [(c, s)]) := by
            show _ = _
            rw [List.map_append]
            rfl
          have HCB : Hid (closeB (bs.getD n Bx.nil) (bxOf (c, s)) = closeB b (bxOf (c, s))) := by
            show _ = _
            rw [HBE.out]
          have HKF : Hid (KeepsFrom W0.heap.size X w4) := keeps_gr G4
          have HKL : Hid (KeepLow W0.heap.size wq.heap.size X w4) := KeepLow.gr hlw G4
          generalize closeT b (bxOf (c, s)) = T0 at *
          clear KS HQ G3 HIX
          cases hcl : closeB b (bxOf (c, s))
          · rw [hcl] at HCB
            have HE := hidE (rndAt_skip HS4.out (c, s) (Or.inl HCB.out))
            gi_wp2
            exact ⟨HKF.out, HKL.out, by show RndAt _ _ _ _ _ _ (List.map _ _) _; rw [HMA.out]; exact HE.out⟩
          · rw [hcl] at HCB
            by_cases hne : s.s = tn
            · have HE := hidE (rndAt_skip HS4.out (c, s) (Or.inr hne))
              have hst : (s.s.toList == tn.toList) = true := by rw [hne]; simp
              gi_wp2
              exact ⟨HKF.out, HKL.out, by show RndAt _ _ _ _ _ _ (List.map _ _) _; rw [HMA.out]; exact HE.out⟩
            · obtain ⟨f, nn, h1, h2, h3⟩ := HS4.out.fs
              have hst : (s.s.toList == tn.toList) = false := by simpa using fun e => hne (ba_ext e)
              have HTK := hidE (take_any tn s.s (T0, (n : Int), s.p) wq.heap.size nn w4 f h1 (HN.out _ HMM.out) (by unfold maxLen; rw [List.length_map] at h2; have := aroundS_len HLEN.out b; omega))
              have HFS : Hid (∀ Y, Firsts Tryz.prog 9 wq.heap.size (nn + 1) Y tn (fun s' => if s' = s.s then pick (f s.s) (T0, (n : Int), s.p) else f s') → w4.grownBy Y (some wq.heap.size) → RndAt W0 wq bs (ptsOf (idxOf cs)) tn n (pre.map (·.1) ++ [(c, s)]) Y) := fun Y hF hg => rndAt_take (by omega) HS4.out.low HS4.out.gr (c, s) h2 h3 HCB.out hne (by rw [HCA.out]; exact hF) hg
              have hl4 : W0.heap.size ≤ w4.heap.size := Nat.le_trans hlw G4.size
              clear h1 h2 h3
              gi_wp2_with (first
                | (refine ⟨trivial, ?_⟩; gi_at_call 61; refine (CallsIn.inRound l (callsIn_wide.2 HTK.out)).mono ?_; rintro e w5 ⟨rfl, hF, hg5⟩)
                | gi_in)
              exact ⟨HKF.out.trans (KeepsFrom.of_grownBy hg5 (fun j e => by cases e; omega)), HKL.out.trans (KeepLow.grown hl4 hg5), by show RndAt _ _ _ _ _ _ (List.map _ _) _; rw [HMA.out]; exact HFS.out _ hF hg5⟩
        case done =>
          rintro D xs X hD hS hI hK
          have HA : Hid (AskAt wq bs (ptsOf (idxOf cs)) tn (n + 1) (D :: Ds) X) := askAt_next HI.out HR0.out.gr (by omega) hI (by rw [HBE.out]; exact hS) (by have := aroundS_len HLEN.out b; rw [hS]; exact this) hD hK
          have e9 : ((n + 1 : Nat) : Int) = (n : Int) + 1 := by omega
          clear hS hI hK
          go_wp2
          exact ⟨⟨n + 1, D :: Ds, HA.out, by omega, by rw [e9]; exact FrAsk.mk⟩, by simp [intOf]; omega⟩
        case stop =>
          rintro D c pre X hD hS hx hK
          exact hx.elim
      · have e : n = bs.length := by omega
        have hd : decide (n < bs.length) = false := by simpa using hnl
        have hfv : Wl.cell? ⟨wq.heap.size + 1, 0, none⟩ = some (.map (some wq.heap.size)) := (cell_blk HI.out.fv).trans rfl
        obtain ⟨f, nn, h1, h2, h3⟩ := HI.out.fs
        have HPP : Hid (∀ s, (f s).isSome = true → ∃ p ∈ (ptsOf (idxOf cs)), p.2.s = s) := fun s hs => soFar_mem h3 hs
        have HCL := hidE (clashes_any tn wq.heap.size nn Wl f h1 (fun s hs => by obtain ⟨p, hp, e⟩ := HPP.out s hs; rw [← e]; exact HN.out p hp) (by omega) (fun ns hnd hm => Nat.le_trans (names_le ns (ptsOf (idxOf cs)) hnd (fun s hs => HPP.out s (hm s hs))) hP))
        have HAN : Hid (∀ ns : List ByteArray, (ns.Pairwise fun a b => nmLt a b = true) → (∀ s, s ∈ ns ↔ (f s).isSome = true) → AnsIs bs (ptsOf (idxOf cs)) tn (ns.map (toldF f))) := fun ns hp hm => ans_firsts (soFar_all (soFar_congr h3 (fun j p => by rw [e]))) h3.1 hp hm
        clear h1 h2 h3 e hnl
        go_wp2_with fail
        (with_reducible refine Calls.mono HCL.out ?_)
        rintro e w5 ⟨⟨rv, ns, rfl, hr, ha, hm⟩, g5⟩
        have HE : Hid (∀ Y : World, Y.os = w5.os → Y.tape = w5.tape → Y.output = w5.output → Y.heap.size = w5.heap.size → (∀ k, k ∉ Ds → Y.heap[k]? = w5.heap[k]?) → (∃ l : List (ByteArray × K3), Y.ownsRow w.heap.size 61 5 rv l.length (l.flatMap (encA tn)) ∧ AnsIs bs (ptsOf (idxOf cs)) tn l) ∧ Gr w Y) := fun Y y1 y2 y3 y4 y5 => by
          refine ⟨⟨ns.map (toldF f), ?_, HAN.out ns ha hm⟩, ?_⟩
          · rw [List.length_map]
            refine row_low (own_lo hr GW.size) (fun g hg => y5 g (fun hD => ?_))
            obtain ⟨-, -, cur, hc⟩ := row_block hr hg
            have := (blk_gr (HI.out.ds g hD).2 g5)
            rw [hc] at this
            cases this
          · have g6 : Gr w w5 := GW.trans g5
            exact ⟨y1.trans g6.os, y2.trans g6.tape, y3.trans g6.output, by have := g6.size; omega, fun k hk => (y5 k (fun hD => by have := (HI.out.ds k hD).1; have := HWQ.out.size; omega)).trans (g6.block k hk)⟩
        have HD5 : Hid (∀ D ∈ Ds, w5.heap[D]? = some (.deferred (some []))) := fun D hD => blk_gr (HI.out.ds D hD).2 g5
        clear hr ha hm g5 HCL HAN HPP
        go_wp2
        refine leaves_marks Ds w5 HI.out.nd HD5.out (fun Y y1 y2 y3 y4 y5 => ?_)
        obtain ⟨⟨l, hl1, hl2⟩, hgY⟩ := HE.out Y y1 y2 y3 y4 y5
        exact ⟨_, results_tmp rfl _ _ _, ⟨rv, l, rfl, hl1, hl2⟩, hgY⟩
set_option maxHeartbeats 1000000 in
theorem implAsk_any (lo : Nat) (v : Value) (cs : List Cx) (tn : ByteArray) (ba : Option Addr) (bc : Nat) (bs : List Bx) (w : World) (h : OwnX lo w v cs) (hM : MadeX cs) (hS : SmallX cs) (hP : (ptsOf (idxOf cs)).length ≤ 1048576) (hs : tn.size ≤ maxLen) (hb : Boxes w ba bs) (hbn : bs.length ≤ 1048576) (hW : ∀ c ∈ cs, Wk c.1) (hN : ∀ p ∈ ptsOf (idxOf cs), p.2.s.size ≤ maxLen) :
    Calls Tryz.prog 33 #[.agg #[v], .agg #[.string tn, .slice ba bs.length bc]] w fun e w' => (∃ rv, ∃ l : List (ByteArray × K3), e = .returned rv ∧ w'.ownsRow w.heap.size 61 5 rv l.length (l.flatMap (encA tn)) ∧ AnsQ (tubeB tn bs) bs (ptsOf (idxOf cs)) tn l) ∧ Gr w w' := by
  cases hok : tubeB tn bs
  · obtain ⟨va, vc, rfl⟩ := row_form h.row
    have GB : Gr w ((w.alloc (.cells #[.slice va cs.length vc] 48)).alloc (.cells #[.string tn, .slice ba bs.length bc] 40)) := ((Gr.refl _).alloc _).alloc _
    have HT := hidE (implTubeOk_any tn ba bc bs _ hs (boxes_gr hb GB) hbn)
    rw [hok] at HT
    have HGB := hidE GB
    clear h hM hW hN hb GB hok
    go_enter Tryz.func33, Tryz.ntmps33
    go_wp2_with fail
    (with_reducible refine Calls.mono HT.out ?_)
    rintro e w1 ⟨rfl, g1⟩
    have HG1 := hidE (HGB.out.trans g1)
    clear g1 HT
    go_wp2
    go_ret
    exact ⟨⟨.slice none 0 0, [], rfl, World.ownsRow_nil _ _ _ _, ⟨fun h => (by cases h), fun _ => rfl⟩⟩, HG1.out⟩
  · refine Calls.mono (implAsk_ok lo v cs tn ba bc bs w h hM hS hP hs hb hW hN hok) ?_
    rintro e w' ⟨⟨rv, l, rfl, h1, h2⟩, g⟩
    exact ⟨⟨rv, l, rfl, h1, ⟨fun _ => h2, fun h => (by cases h)⟩⟩, g⟩
end Go.Proofs.YtpdcgjkfilohcabGreat
