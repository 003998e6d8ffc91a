import Derived.Test.YtpdcgjkfilohcabGreatMeetDF
namespace Go.Proofs.YtpdcgjkfilohcabGreat
open Go.RowKit
attribute [local go_sem ↓] Go.wp_at_zero Go.wp_at_succ
attribute [local go_sem] Oper.semAt_some

/-- A clash lies at a block that may be written. -/
def ClashAt (W : World) (f : Nat) (s t : ByteArray) : Option (Int × Nat × Nat) → Prop
  | none => Five W f (.string ⟨#[]⟩) (.string ⟨#[]⟩) (.int .i64 0) (.int .i64 0) (.int .i64 0) ∧ Free5 W f ∧ f < W.heap.size
  | some (k, i, j) => Five W f (.string s) (.string t) (.int .i64 k) (.int .i64 i) (.int .i64 j) ∧ Free5 W f ∧ f < W.heap.size
def FlagAt (W : World) (d : Nat) (b : Bool) : Prop := W.cell? ⟨d, 0, none⟩ = some (.bool b) ∧ W.frozen? ⟨d, 0, none⟩ = false ∧ d < W.heap.size
theorem five_kept {W W' : World} {row : Option Nat} {f : Nat} {v0 v1 v2 v3 v4 : Value} (h : Five W f v0 v1 v2 v3 v4) (k : Free5 W f) (hf : f < W.heap.size) (hg : W.grownBy W' row) (hr : ∀ r, row = some r → ∃ o : Obj, W.heap[r]? = some o ∧ o.isCells = false) : Five W' f v0 v1 v2 v3 v4 ∧ Free5 W' f ∧ f < W'.heap.size := by
  obtain ⟨h0, h1, h2, h3, h4⟩ := h
  obtain ⟨k0, k1, k2, k3, k4⟩ := k
  exact ⟨⟨cell_kept h0 hg hr, cell_kept h1 hg hr, cell_kept h2 hg hr, cell_kept h3 hg hr, cell_kept h4 hg hr⟩, ⟨(frozen_kept h0 hg hr).trans k0, (frozen_kept h1 hg hr).trans k1, (frozen_kept h2 hg hr).trans k2, (frozen_kept h3 hg hr).trans k3, (frozen_kept h4 hg hr).trans k4⟩, Nat.lt_of_lt_of_le hf hg.size⟩
theorem clash_kept {W W' : World} {row : Option Nat} {f : Nat} {s t : ByteArray} {st : Option (Int × Nat × Nat)} (h : ClashAt W f s t st) (hg : W.grownBy W' row) (hr : ∀ r, row = some r → ∃ o : Obj, W.heap[r]? = some o ∧ o.isCells = false) : ClashAt W' f s t st := by
  rcases st with _ | ⟨k, i, j⟩
  · exact five_kept h.1 h.2.1 h.2.2 hg hr
  · exact five_kept h.1 h.2.1 h.2.2 hg hr
theorem clash_gr {W W' : World} {f : Nat} {s t : ByteArray} {st : Option (Int × Nat × Nat)} (h : ClashAt W f s t st) (g : Gr W W') : ClashAt W' f s t st := by
  rcases st with _ | ⟨k, i, j⟩
  · exact ⟨five_gr h.1 g h.2.2, free5_gr h.2.1 g h.2.2, Nat.lt_of_lt_of_le h.2.2 g.size⟩
  · exact ⟨five_gr h.1 g h.2.2, free5_gr h.2.1 g h.2.2, Nat.lt_of_lt_of_le h.2.2 g.size⟩
theorem flag_kept {W W' : World} {row : Option Nat} {d : Nat} {b : Bool} (h : FlagAt W d b) (hg : W.grownBy W' row) (hr : ∀ r, row = some r → ∃ o : Obj, W.heap[r]? = some o ∧ o.isCells = false) : FlagAt W' d b :=
  ⟨cell_kept h.1 hg hr, (frozen_kept h.1 hg hr).trans h.2.1, Nat.lt_of_lt_of_le h.2.2 hg.size⟩
theorem flag_gr {W W' : World} {d : Nat} {b : Bool} (h : FlagAt W d b) (g : Gr W W') : FlagAt W' d b :=
  ⟨(g.cells.1 _ _ h.2.2).trans h.1, (g.cells.2 _ _ h.2.2).trans h.2.1, Nat.lt_of_lt_of_le h.2.2 g.size⟩
theorem flag_new {w wr : World} {b : Bool} {T : TypeId} (g : Gr (w.alloc (.cells #[.bool b] T)) wr) : FlagAt wr w.heap.size b :=
  ⟨(g.cells.1 _ _ (by simp)).trans (by simp), (g.cells.2 _ _ (by simp)).trans (by simp), by have := g.size; simp at this; omega⟩

theorem put5_keeps (W : World) (p : Nat) (v0 v1 v2 v3 v4 : Value) : KeepsOthers W (put5 W p v0 v1 v2 v3 v4) :=
  ((((KeepsOthers.setCell W ⟨p, 0, none⟩ v0).trans (KeepsOthers.setCell _ ⟨p, 1, none⟩ v1)).trans (KeepsOthers.setCell _ ⟨p, 2, none⟩ v2)).trans (KeepsOthers.setCell _ ⟨p, 3, none⟩ v3)).trans (KeepsOthers.setCell _ ⟨p, 4, none⟩ v4)
theorem fin_drew {w X : World} {R D : Nat} {v0 v1 v2 v3 v4 : Value} (g : Gr w X) (hD : w.heap.size ≤ D) (h : Five X R v0 v1 v2 v3 v4) (f : Free5 X R) (hl : R < X.heap.size) (hK : X.heap[D]? = some (.deferred (some []))) :
    X.drew.heap[D]? = some (.deferred (some [])) ∧ Five (X.drew.putObj D (.deferred none)) R v0 v1 v2 v3 v4 ∧ Gr w (X.drew.putObj D (.deferred none)) := by
  have hk : X.drew.heap[D]? = some (.deferred (some [])) := hK
  exact ⟨hk, (five_kept (W := X.drew) h f hl (grownBy_putObj' _ D (.deferred none)) (fun r e => by cases e; exact ⟨_, hk, rfl⟩)).1, Below.trans g.drew (belowK_b (w := w) (Nat.le_refl _) _ D _ _ hD hk rfl rfl)⟩
theorem fin_five {w W : World} {R D : Nat} {u0 u1 u2 u3 u4 : Value} (v0 v1 v2 v3 v4 : Value) (g : Gr w W) (hR : w.heap.size ≤ R) (hD : w.heap.size ≤ D) (h : Five W R u0 u1 u2 u3 u4) (f : Free5 W R) (hl : R < W.heap.size) (hK : W.heap[D]? = some (.deferred (some []))) :
    (put5 W R v0 v1 v2 v3 v4).drew.heap[D]? = some (.deferred (some [])) ∧ Five ((put5 W R v0 v1 v2 v3 v4).drew.putObj D (.deferred none)) R v0 v1 v2 v3 v4 ∧ Gr w ((put5 W R v0 v1 v2 v3 v4).drew.putObj D (.deferred none)) :=
  fin_drew (put5_gr g hR v0 v1 v2 v3 v4) hD (five_put h v0 v1 v2 v3 v4) (free5_put f R v0 v1 v2 v3 v4) (by rw [put5_size]; exact hl) ((put5_keeps W R v0 v1 v2 v3 v4).same D _ hK rfl)
theorem leaves_mark {P : Program} {F : Fence} {n : Nat} {fn : Func} {R : Ending → World → Prop} {ts : Array Value} {X : World} {D : Nat} {v : Value} (hk : X.heap[D]? = some (.deferred (some []))) (hr : (results fn ts).run P (X.putObj D (.deferred none)) = .ok v (X.putObj D (.deferred none))) (hR : R (.returned v) (X.putObj D (.deferred none))) :
    bodyPostM F n P fn R .ret { tmps := ts, defers := [{ target := .collected D, args := #[] }] } X :=
  ⟨by simp, .inl ⟨_, _, rfl, run_takeDeferred hk, v, hr, hR⟩⟩
theorem keeps_gr {W W' : World} {B : Nat} (g : Gr W W') : KeepsFrom B W W' := ⟨g.size, fun k _ _ hk _ => (Below.block g k (Array.getElem?_eq_some_iff.1 hk).1).trans hk⟩
theorem clash_put {W : World} {f : Nat} {s t : ByteArray} {st : Option (Int × Nat × Nat)} (h : ClashAt W f s t st) (k : Int) (i j : Nat) : ClashAt (put5 W f (.string s) (.string t) (.int .i64 k) (.int .i64 i) (.int .i64 j)) f s t (some (k, i, j)) := by
  have hz := put5_size W f (.string s) (.string t) (.int .i64 k) (.int .i64 i) (.int .i64 j)
  rcases st with _ | ⟨k', i', j'⟩
  · exact ⟨five_put h.1 _ _ _ _ _, free5_put h.2.1 _ _ _ _ _ _, by rw [hz]; exact h.2.2⟩
  · exact ⟨five_put h.1 _ _ _ _ _, free5_put h.2.1 _ _ _ _ _ _, by rw [hz]; exact h.2.2⟩
theorem clash_set {W : World} {f d : Nat} {s t : ByteArray} {st : Option (Int × Nat × Nat)} (h : ClashAt W f s t st) (hd : d ≠ f) (v : Value) : ClashAt (W.setCell ⟨d, 0, none⟩ v) f s t st := by
  have hc : ∀ o, (W.setCell ⟨d, 0, none⟩ v).cell? ⟨f, o, none⟩ = W.cell? ⟨f, o, none⟩ := fun o => cell_off _ _ _ _ _ _ (by omega)
  rcases st with _ | ⟨k', i', j'⟩ <;> (unfold ClashAt Five Free5 at *; simp only [hc, World.frozen?_setCell, World.size_setCell]; exact h)
theorem put_off (w : World) (p q o : Nat) (v0 v1 v2 v3 v4 : Value) (h : p ≠ q) : (put5 w p v0 v1 v2 v3 v4).cell? ⟨q, o, none⟩ = w.cell? ⟨q, o, none⟩ := by
  unfold put5
  iterate 5 refine (cell_off _ _ _ _ _ _ (by omega)).trans ?_
  rfl
theorem flag_put {W : World} {f d : Nat} {b : Bool} (h : FlagAt W d b) (hd : d ≠ f) (v0 v1 v2 v3 v4 : Value) (b' : Bool) : FlagAt ((put5 W f v0 v1 v2 v3 v4).setCell ⟨d, 0, none⟩ (.bool b')) d b' := by
  have hc : (put5 W f v0 v1 v2 v3 v4).cell? ⟨d, 0, none⟩ = some (.bool b) := by
    unfold put5
    iterate 5 refine (cell_off _ _ _ _ _ _ (by omega)).trans ?_
    exact h.1
  exact ⟨World.cell?_setCell_same _ _ _ hc, by simpa [put5] using h.2.1, by simpa [put5] using h.2.2⟩

set_option maxRecDepth 100000 in
set_option maxHeartbeats 4000000 in
theorem implMeet_ok (s t : ByteArray) (a a' : Option Addr) (cap cap' : Nat) (cs bs : List Bx) (w : World) (hs : s.size ≤ maxLen) (ht : t.size ≤ maxLen) (ha : Boxes w a cs) (hb : Boxes w a' bs) (hn : cs.length ≤ 1048576) (hm : bs.length ≤ 1048576) (hA : tubeB s cs = true) (hB : tubeB t bs = true) :
    Calls Tryz.prog 123 #[.agg #[.string s, .slice a cs.length cap], .agg #[.string t, .slice a' bs.length cap']] w fun e w' => e = .returned (.tuple #[.agg (clashV s t (meetAll cs bs cs.length)), .bool (meetAll cs bs cs.length).isSome]) ∧ Gr w w' := by
  have GB : Gr w (((w.alloc (.cells #[.string s, .slice a cs.length cap] 40)).alloc (.cells #[.string t, .slice a' bs.length cap'] 40)).alloc (.cells #[.string ⟨#[]⟩, .string ⟨#[]⟩, .int .i64 0, .int .i64 0, .int .i64 0] 61)) := (((Gr.refl _).alloc _).alloc _).alloc _
  have GT : Gr ((w.alloc (.cells #[.string s, .slice a cs.length cap] 40)).alloc (.cells #[.string t, .slice a' bs.length cap'] 40)) (((w.alloc (.cells #[.string s, .slice a cs.length cap] 40)).alloc (.cells #[.string t, .slice a' bs.length cap'] 40)).alloc (.cells #[.string ⟨#[]⟩, .string ⟨#[]⟩, .int .i64 0, .int .i64 0, .int .i64 0] 61)) := (Gr.refl _).alloc _
  have eR2 : ((w.alloc (.cells #[.string s, .slice a cs.length cap] 40)).alloc (.cells #[.string t, .slice a' bs.length cap'] 40)).heap.size = w.heap.size + 1 + 1 := by simp
  have eR : (((w.alloc (.cells #[.string s, .slice a cs.length cap] 40)).alloc (.cells #[.string t, .slice a' bs.length cap'] 40)).alloc (.cells #[.string ⟨#[]⟩, .string ⟨#[]⟩, .int .i64 0, .int .i64 0, .int .i64 0] 61)).heap.size = w.heap.size + 1 + 1 + 1 := by simp
  obtain ⟨la, oka⟩ := tube_boxes hA
  obtain ⟨lb, okb⟩ := tube_boxes hB
  clear oka okb
  refine (callsIn_wide (n := 3)).1 ?_
  refine callsIn_of_wp_marks Tryz.func123 rfl trivial ?_
  simp only [Tryz.ntmps123, List.size_toArray, List.length_cons, List.length_nil, Nat.reduceAdd, Nat.reduceSub, Array.replicate_succ, Array.replicate_zero, List.push_toArray, List.append_toArray, List.nil_append, List.cons_append]
  refine wpIn_wide.2 ?_
  go_wp2_with fail
  refine (implTubeOk_any _ _ _ cs _ hs (boxes_gr ha GB) hn).mono ?_
  rintro e w1 ⟨rfl, G⟩
  obtain ⟨-, q0, q1, q2, q3⟩ := two_pairs (GT.trans G)
  go_wp2_with fail
  refine (implTubeOk_any _ _ _ bs _ ht (boxes_gr hb (GB.trans G)) hm).mono ?_
  rintro e w2 ⟨rfl, g2⟩
  replace G := G.trans g2
  clear g2 q0 q1 q2 q3
  obtain ⟨hc, hf⟩ := G.cells
  have f1 := fun W => field71 W s (.slice a cs.length cap) ⟨_, _, _, rfl⟩
  have f2 := fun W => field71 W t (.slice a' bs.length cap') ⟨_, _, _, rfl⟩
  go_upto_region 3 with fail
  go_cut [6] from 22 to 30 (fun s6 wx => (∃ g, s6 = .pointer (some ⟨g, 0, none⟩) ∧ g < wx.heap.size ∧ wx.cell? ⟨g, 0, none⟩ = some (.int .i64 (soonT cs bs))) ∧ Gr (((w.alloc (.cells #[.string s, .slice a cs.length cap] 40)).alloc (.cells #[.string t, .slice a' bs.length cap'] 40)).alloc (.cells #[.string ⟨#[]⟩, .string ⟨#[]⟩, .int .i64 0, .int .i64 0, .int .i64 0] 61)) wx)
  case first =>
    have HM : Hid (soonT cs bs = if beginTo cs cs.length < beginTo bs bs.length then beginTo bs bs.length else beginTo cs cs.length) := rfl
    obtain ⟨x, hx⟩ : ∃ x, beginTo cs cs.length = x := ⟨_, rfl⟩
    obtain ⟨y, hy⟩ : ∃ y, beginTo bs bs.length = y := ⟨_, rfl⟩
    have CX : Hid (∀ w', Gr (((w.alloc (.cells #[.string s, .slice a cs.length cap] 40)).alloc (.cells #[.string t, .slice a' bs.length cap'] 40)).alloc (.cells #[.string ⟨#[]⟩, .string ⟨#[]⟩, .int .i64 0, .int .i64 0, .int .i64 0] 61)) w' → Calls Tryz.prog 156 #[.slice a cs.length cap] w' fun e w'' => e = .returned (.int .i64 x) ∧ Gr w' w'') := fun w' g => hx ▸ begin_any a cap cs w' (boxes_gr ha (GB.trans g)) la
    have CY : Hid (∀ w', Gr (((w.alloc (.cells #[.string s, .slice a cs.length cap] 40)).alloc (.cells #[.string t, .slice a' bs.length cap'] 40)).alloc (.cells #[.string ⟨#[]⟩, .string ⟨#[]⟩, .int .i64 0, .int .i64 0, .int .i64 0] 61)) w' → Calls Tryz.prog 156 #[.slice a' bs.length cap'] w' fun e w'' => e = .returned (.int .i64 y) ∧ Gr w' w'') := fun w' g => hy ▸ begin_any a' cap' bs w' (boxes_gr hb (GB.trans g)) lb
    rw [hx, hy] at HM
    clear hx hy
    by_cases hxy : x < y
    · have HS : Hid (soonT cs bs = y) := HM.out.trans (if_pos hxy)
      clear HM
      go_region_held3 (fun w' => Gr (((w.alloc (.cells #[.string s, .slice a cs.length cap] 40)).alloc (.cells #[.string t, .slice a' bs.length cap'] 40)).alloc (.cells #[.string ⟨#[]⟩, .string ⟨#[]⟩, .int .i64 0, .int .i64 0, .int .i64 0] 61)) w' ∧ ∀ q r, q < (((w.alloc (.cells #[.string s, .slice a cs.length cap] 40)).alloc (.cells #[.string t, .slice a' bs.length cap'] 40)).alloc (.cells #[.string ⟨#[]⟩, .string ⟨#[]⟩, .int .i64 0, .int .i64 0, .int .i64 0] 61)).heap.size → w'.cell? ⟨q, r, none⟩ = (((w.alloc (.cells #[.string s, .slice a cs.length cap] 40)).alloc (.cells #[.string t, .slice a' bs.length cap'] 40)).alloc (.cells #[.string ⟨#[]⟩, .string ⟨#[]⟩, .int .i64 0, .int .i64 0, .int .i64 0] 61)).cell? ⟨q, r, none⟩)
        ((refine sees_of ?_; repeat (first | exact G | assumption | exact And.left (by assumption) | refine Gr.drew ?_ | refine Gr.alloc ?_ _ | refine Gr.setCell ?_ (Gr.size (by assumption)) _)))
        (first
          | (go_at_call 78; refine (tubeOf_any _ _ _ ⟨_, _, _, rfl⟩).mono ?_; rintro e w1 ⟨rfl, g1⟩; have g2 := Gr.trans (And.left (by assumption)) g1; (first | have hz := Gr.lt_alloc g1 | have hz := Gr.lt_alloc_drew g1 | have hz := Nat.lt_of_lt_of_le hz g1.size | skip); obtain ⟨hc, hf⟩ := g1.cells)
          | (go_at_call 156; with_reducible refine Calls.mono (CX.out _ (And.left (by assumption))) ?_; rintro e w1 ⟨rfl, g1⟩; have g2 := Gr.trans (And.left (by assumption)) g1; (first | have hz := Gr.lt_alloc g1 | have hz := Gr.lt_alloc_drew g1 | have hz := Nat.lt_of_lt_of_le hz g1.size | skip); obtain ⟨hc, hf⟩ := g1.cells)
          | (go_at_call 156; with_reducible refine Calls.mono (CY.out _ (And.left (by assumption))) ?_; rintro e w1 ⟨rfl, g1⟩; have g2 := Gr.trans (And.left (by assumption)) g1; (first | have hz := Gr.lt_alloc g1 | have hz := Gr.lt_alloc_drew g1 | have hz := Nat.lt_of_lt_of_le hz g1.size | skip); obtain ⟨hc, hf⟩ := g1.cells))
      all_goals (go_wp2_with fail; go_meet)
      all_goals (refine ⟨⟨_, rfl, ?_, ?_⟩, And.left (by assumption)⟩)
      all_goals (try rw [HS.out])
      all_goals (first | (go_simp; done) | (simp; omega))
    · have HS : Hid (soonT cs bs = x) := HM.out.trans (if_neg hxy)
      clear HM
      replace hxy : (x < y) = False := eq_false hxy
      go_region_held3 (fun w' => Gr (((w.alloc (.cells #[.string s, .slice a cs.length cap] 40)).alloc (.cells #[.string t, .slice a' bs.length cap'] 40)).alloc (.cells #[.string ⟨#[]⟩, .string ⟨#[]⟩, .int .i64 0, .int .i64 0, .int .i64 0] 61)) w' ∧ ∀ q r, q < (((w.alloc (.cells #[.string s, .slice a cs.length cap] 40)).alloc (.cells #[.string t, .slice a' bs.length cap'] 40)).alloc (.cells #[.string ⟨#[]⟩, .string ⟨#[]⟩, .int .i64 0, .int .i64 0, .int .i64 0] 61)).heap.size → w'.cell? ⟨q, r, none⟩ = (((w.alloc (.cells #[.string s, .slice a cs.length cap] 40)).alloc (.cells #[.string t, .slice a' bs.length cap'] 40)).alloc (.cells #[.string ⟨#[]⟩, .string ⟨#[]⟩, .int .i64 0, .int .i64 0, .int .i64 0] 61)).cell? ⟨q, r, none⟩)
        ((refine sees_of ?_; repeat (first | exact G | assumption | exact And.left (by assumption) | refine Gr.drew ?_ | refine Gr.alloc ?_ _ | refine Gr.setCell ?_ (Gr.size (by assumption)) _)))
        (first
          | (go_at_call 78; refine (tubeOf_any _ _ _ ⟨_, _, _, rfl⟩).mono ?_; rintro e w1 ⟨rfl, g1⟩; have g2 := Gr.trans (And.left (by assumption)) g1; (first | have hz := Gr.lt_alloc g1 | have hz := Gr.lt_alloc_drew g1 | have hz := Nat.lt_of_lt_of_le hz g1.size | skip); obtain ⟨hc, hf⟩ := g1.cells)
          | (go_at_call 156; with_reducible refine Calls.mono (CX.out _ (And.left (by assumption))) ?_; rintro e w1 ⟨rfl, g1⟩; have g2 := Gr.trans (And.left (by assumption)) g1; (first | have hz := Gr.lt_alloc g1 | have hz := Gr.lt_alloc_drew g1 | have hz := Nat.lt_of_lt_of_le hz g1.size | skip); obtain ⟨hc, hf⟩ := g1.cells)
          | (go_at_call 156; with_reducible refine Calls.mono (CY.out _ (And.left (by assumption))) ?_; rintro e w1 ⟨rfl, g1⟩; have g2 := Gr.trans (And.left (by assumption)) g1; (first | have hz := Gr.lt_alloc g1 | have hz := Gr.lt_alloc_drew g1 | have hz := Nat.lt_of_lt_of_le hz g1.size | skip); obtain ⟨hc, hf⟩ := g1.cells))
      all_goals (go_wp2_with fail; go_meet)
      all_goals (refine ⟨⟨_, rfl, ?_, ?_⟩, And.left (by assumption)⟩)
      all_goals (try rw [HS.out])
      all_goals (first | (go_simp; done) | (simp; omega))
  obtain ⟨⟨g, rfl, hg, hgs⟩, G⟩ := hcut
  obtain ⟨hc, hf⟩ := G.cells
  rename World => wq
  have GQ : Gr ((w.alloc (.cells #[.string s, .slice a cs.length cap] 40)).alloc (.cells #[.string t, .slice a' bs.length cap'] 40)) wq := GT.trans G
  have GW : Gr w wq := GB.trans G
  obtain ⟨-, q0, q1, q2, q3⟩ := two_pairs GQ
  go_upto_region 6 with fail
  go_cut [36] from 31 to 36 (fun s36 wx => (∃ l o, s36 = .func (.func 170) #[] #[.pointer (some ⟨l, 0, none⟩), .pointer (some ⟨o, 0, none⟩)] ∧ l < wx.heap.size ∧ o < wx.heap.size ∧ wq.heap.size + 1 < o ∧ wx.cell? ⟨l, 0, none⟩ = some (.slice a cs.length cap) ∧ wx.cell? ⟨o, 0, none⟩ = some (.slice a' bs.length cap')) ∧ Gr ((wq.alloc (.cells #[.string ⟨#[]⟩, .string ⟨#[]⟩, .int .i64 0, .int .i64 0, .int .i64 0] 61)).alloc (.cells #[.bool false] 4)) wx)
  case first =>
    have K6 : Hid (∀ w', Gr ((wq.alloc (.cells #[.string ⟨#[]⟩, .string ⟨#[]⟩, .int .i64 0, .int .i64 0, .int .i64 0] 61)).alloc (.cells #[.bool false] 4)) w' → Gr ((wq.alloc (.cells #[.string ⟨#[]⟩, .string ⟨#[]⟩, .int .i64 0, .int .i64 0, .int .i64 0] 61)).alloc (.cells #[.bool false] 4)) w' ∧ w'.cell? ⟨w.heap.size, 0, none⟩ = some (.string s) ∧ w'.cell? ⟨w.heap.size, 1, none⟩ = some (.slice a cs.length cap) ∧ w'.cell? ⟨w.heap.size + 1, 0, none⟩ = some (.string t) ∧ w'.cell? ⟨w.heap.size + 1, 1, none⟩ = some (.slice a' bs.length cap')) := fun w' g => ⟨g, (two_pairs (GQ.trans (((Gr.refl _).alloc _).alloc _ |>.trans g))).2⟩
    have G6 := Gr.refl ((wq.alloc (.cells #[.string ⟨#[]⟩, .string ⟨#[]⟩, .int .i64 0, .int .i64 0, .int .i64 0] 61)).alloc (.cells #[.bool false] 4))
    go_region_held3 (fun w' => Gr ((wq.alloc (.cells #[.string ⟨#[]⟩, .string ⟨#[]⟩, .int .i64 0, .int .i64 0, .int .i64 0] 61)).alloc (.cells #[.bool false] 4)) w' ∧ w'.cell? ⟨w.heap.size, 0, none⟩ = some (.string s) ∧ w'.cell? ⟨w.heap.size, 1, none⟩ = some (.slice a cs.length cap) ∧ w'.cell? ⟨w.heap.size + 1, 0, none⟩ = some (.string t) ∧ w'.cell? ⟨w.heap.size + 1, 1, none⟩ = some (.slice a' bs.length cap'))
      ((refine K6.out _ ?_; repeat (first | exact G6 | assumption | exact And.left (by assumption) | refine Gr.drew ?_ | refine Gr.alloc ?_ _)))
      (first
        | (go_at_call 78; refine (tubeOf_any _ _ _ ⟨_, _, _, rfl⟩).mono ?_; rintro e w1 ⟨rfl, g1⟩; have g2 := Gr.trans (And.left (by assumption)) g1; have hz := g2.size; simp only [World.size_alloc] at hz)
        | (go_at_call 157; refine (pairsWith_any _ _ _ ⟨_, _, _, rfl⟩ ⟨_, _, _, rfl⟩).mono ?_; rintro e w3 ⟨rfl, rfl⟩))
    all_goals (go_wp2_with fail; go_meet)
    all_goals (refine ⟨⟨_, _, rfl, ?_, ?_, ?_, ?_, ?_⟩, And.left (by assumption)⟩)
    all_goals (first | (simp; done) | (simp; omega) | omega)
  obtain ⟨⟨l0, o0, rfl, hl, ho, hol, cl, co⟩, G2⟩ := hcut
  rename World => W0
  clear q0 q1 q2 q3 hc hf
  have HQ : wq.heap.size + 1 + 1 ≤ W0.heap.size := by have := G2.size; simpa using this
  go_wp2_with fail
  refine (wpIn_wide (n := 3)).1 ?_
  refine' wpIn_rangeFunc_ownG (F := Fence.wide) rfl (by decide) (gf := 170) (lb := #[.pointer (some ⟨l0, 0, none⟩), .pointer (some ⟨o0, 0, none⟩)]) rfl trivial (enters_of Tryz.func170 (by kernel_rfl) rfl)
    (pairs_stops Fence.wide 2 trivial rfl (by decide) cs.length bs.length la lb l0 o0 a a' cap cap' W0 hl ho cl co)
    (fun h k => Eq.trans k h) (fun W l o o' hl' h h1 h2 => (belowK_b (n₀ := W0.heap.size) (w := W0) (Nat.le_refl _) W l o o' hl' h h1 h2).cell (p := ⟨o0, 0, none⟩) ho) (Below.refl _ _) (fun _ => rfl)
    (fun pre W => (Gr wq W ∧ W0.heap.size ≤ W.heap.size) ∧ ClashAt W wq.heap.size s t (foldP cs bs (pre.map (·.1))) ∧ FlagAt W (wq.heap.size + 1) (foldP cs bs (pre.map (·.1))).isSome)
    (fun c pre W => c = .exit 0 ∧ ((Gr wq W ∧ W0.heap.size ≤ W.heap.size) ∧ ClashAt W wq.heap.size s t (foldP cs bs (pre.map (·.1))) ∧ FlagAt W (wq.heap.size + 1) (foldP cs bs (pre.map (·.1))).isSome) ∧ ∃ i j, foldP cs bs (pre.map (·.1)) = some (soonT cs bs, i, j))
    (fun pre A B row hs hg hr => ⟨⟨ownFrom_below (β := Unit) (n₀ := wq.heap.size) (B := W0.heap.size) (w₀ := wq) (Nat.le_refl _) (by omega) () A B row hs.1.1 hg hr, Nat.le_trans hs.1.2 hg.size⟩, clash_kept hs.2.1 hg (fun r e => (hr r e).2), flag_kept hs.2.2 hg (fun r e => (hr r e).2)⟩)
    (fun c pre A B row hs hg hr => ⟨hs.1, ⟨⟨ownFrom_below (β := Unit) (n₀ := wq.heap.size) (B := W0.heap.size) (w₀ := wq) (Nat.le_refl _) (by omega) () A B row hs.2.1.1.1 hg hr, Nat.le_trans hs.2.1.1.2 hg.size⟩, clash_kept hs.2.1.2.1 hg (fun r e => (hr r e).2), flag_kept hs.2.1.2.2 hg (fun r e => (hr r e).2)⟩, hs.2.2⟩)
    ⟨⟨(((Gr.refl _).alloc _).alloc _).trans G2, Nat.le_refl _⟩, five_new (((Gr.refl _).alloc _).trans G2), by have := flag_new G2; rw [World.size_alloc] at this; exact this⟩ _ ?assign ?body ?done ?stop
  case assign =>
    intro l x W K hK
    gi_wp2
    exact hK
  case body =>
    rintro l pre ⟨⟨i, j⟩, hi, hj⟩ W ⟨⟨gI, hW0⟩, hbest, hflag⟩ -
    dsimp only at hi hj
    have HST : Hid (foldP cs bs ((pre ++ [(⟨(i, j), hi, hj⟩ : Prs cs.length bs.length)]).map (·.1)) = meetStep cs bs i j (foldP cs bs (pre.map (·.1)))) := by
      show foldP cs bs _ = _
      rw [List.map_append, List.map_singleton, foldP_snoc]
    obtain ⟨ga, oa, rfl, hga, hxa⟩ := ha i hi
    obtain ⟨gb, ob, rfl, hgb, hxb⟩ := hb j hj
    have hi0 : (0 : Int) ≤ (i : Int) := by omega
    have hi1 : (i : Int) < (cs.length : Int) := by omega
    have hj0 : (0 : Int) ≤ (j : Int) := by omega
    have hj1 : (j : Int) < (bs.length : Int) := by omega
    have hgq := (two_pairs (GQ.trans gI)).1
    have KS : Hid (∀ w', Gr W w' → Gr W w' ∧ Six w' ga (oa + i * 6) (cs.getD i Bx.nil) ∧ Six w' gb (ob + j * 6) (bs.getD j Bx.nil) ∧ (w'.cell? ⟨w.heap.size, 0, none⟩ = some (.string s) ∧ w'.cell? ⟨w.heap.size, 1, none⟩ = some (.slice (some ⟨ga, oa, none⟩) cs.length cap) ∧ w'.cell? ⟨w.heap.size + 1, 0, none⟩ = some (.string t) ∧ w'.cell? ⟨w.heap.size + 1, 1, none⟩ = some (.slice (some ⟨gb, ob, none⟩) bs.length cap'))) := fun w' g => ⟨g, six_gr hxa ((GW.trans gI).trans g) hga, six_gr hxb ((GW.trans gI).trans g) hgb, (two_pairs ((GQ.trans gI).trans g)).2⟩
    have H0 : Hid (closeB (cs.getD i Bx.nil) (bs.getD j Bx.nil) = false → ∀ st, meetStep cs bs i j st = st) := fun h st => step_far h
    have H1 : Hid (closeB (cs.getD i Bx.nil) (bs.getD j Bx.nil) = true → meetStep cs bs i j none = some (closeT (cs.getD i Bx.nil) (bs.getD j Bx.nil), i, j)) := fun h => step_first h
    have H2 : Hid (∀ T i' j', closeB (cs.getD i Bx.nil) (bs.getD j Bx.nil) = true → closeT (cs.getD i Bx.nil) (bs.getD j Bx.nil) < T → meetStep cs bs i j (some (T, i', j')) = some (closeT (cs.getD i Bx.nil) (bs.getD j Bx.nil), i, j)) := fun T i' j' h h' => step_less h h'
    have H3 : Hid (∀ T i' j', closeB (cs.getD i Bx.nil) (bs.getD j Bx.nil) = true → ¬ closeT (cs.getD i Bx.nil) (bs.getD j Bx.nil) < T → meetStep cs bs i j (some (T, i', j')) = some (T, i', j')) := fun T i' j' h h' => step_more h h'
    generalize cs.getD i Bx.nil = c at *
    generalize bs.getD j Bx.nil = b at *
    clear hxa hxb
    have hH : Gr W W.drew ∧ Six W.drew ga (oa + i * 6) c ∧ Six W.drew gb (ob + j * 6) b ∧ (W.drew.cell? ⟨w.heap.size, 0, none⟩ = some (.string s) ∧ W.drew.cell? ⟨w.heap.size, 1, none⟩ = some (.slice (some ⟨ga, oa, none⟩) cs.length cap) ∧ W.drew.cell? ⟨w.heap.size + 1, 0, none⟩ = some (.string t) ∧ W.drew.cell? ⟨w.heap.size + 1, 1, none⟩ = some (.slice (some ⟨gb, ob, none⟩) bs.length cap')) := KS.out _ (Gr.refl W).drew
    refine wpIn_block ?_
    refine wpIn_seq ?_
    dsimp only
    refine region_round (S := fun w' => Gr W w' ∧ Six w' ga (oa + i * 6) c ∧ Six w' gb (ob + j * 6) b ∧ (w'.cell? ⟨w.heap.size, 0, none⟩ = some (.string s) ∧ w'.cell? ⟨w.heap.size, 1, none⟩ = some (.slice (some ⟨ga, oa, none⟩) cs.length cap) ∧ w'.cell? ⟨w.heap.size + 1, 0, none⟩ = some (.string t) ∧ w'.cell? ⟨w.heap.size + 1, 1, none⟩ = some (.slice (some ⟨gb, ob, none⟩) bs.length cap'))) (by kernel_rfl) (by kernel_rfl) (by rintro ⟨_, _, h⟩; exact h) ?_
    refine takeH (i := 0) (d := 40) (v := .pointer (some ⟨w.heap.size, 1, none⟩)) rfl rfl (by kernel_rfl) (by kernel_rfl) (by kernel_rfl) (fun _ _ _ h => h) hH (Or.inl ⟨by rfl, by intro w' _; go_simp⟩) ?_
    simp only [Act.put, List.setIfInBounds_toArray, List.set_cons_zero, List.set_cons_succ]
    refine takeH (i := 1) (d := 41) (v := .slice (some ⟨ga, oa, none⟩) cs.length cap) rfl rfl (by kernel_rfl) (by kernel_rfl) (by kernel_rfl) (fun _ _ _ h => h) hH (Or.inl ⟨by rfl, by intro w' hSw; obtain ⟨-, ⟨x0, x1, x2, x3, x4, x5⟩, ⟨z0, z1, z2, z3, z4, z5⟩, y0, y1, y2, y3⟩ := hSw; go_simp⟩) ?_
    simp only [Act.put, List.setIfInBounds_toArray, List.set_cons_zero, List.set_cons_succ]
    refine takeH (i := 2) (d := 42) (v := .int .i64 i) rfl rfl (by kernel_rfl) (by kernel_rfl) (by kernel_rfl) (fun _ _ _ h => h) hH (Or.inl ⟨by rfl, by intro w' _; go_simp⟩) ?_
    simp only [Act.put, List.setIfInBounds_toArray, List.set_cons_zero, List.set_cons_succ]
    refine takeH (i := 3) (d := 43) (v := .pointer (some ⟨ga, oa + i * 6, none⟩)) rfl rfl (by kernel_rfl) (by kernel_rfl) (by kernel_rfl) (fun _ _ _ h => h) hH (Or.inl ⟨by rfl, by intro w' _; go_simp⟩) ?_
    simp only [Act.put, List.setIfInBounds_toArray, List.set_cons_zero, List.set_cons_succ]
    refine takeH (i := 4) (d := 44) (v := .agg #[.int .i64 c.x, .int .i64 c.y, .int .i64 c.l, .int .i64 c.h, .int .i64 c.i, .int .i64 c.o]) rfl rfl (by kernel_rfl) (by kernel_rfl) (by kernel_rfl) (fun _ _ _ h => h) hH (Or.inl ⟨by rfl, by intro w' hSw; obtain ⟨-, ⟨x0, x1, x2, x3, x4, x5⟩, ⟨z0, z1, z2, z3, z4, z5⟩, y0, y1, y2, y3⟩ := hSw; go_simp⟩) ?_
    simp only [Act.put, List.setIfInBounds_toArray, List.set_cons_zero, List.set_cons_succ]
    refine takeH (i := 5) (d := 45) (v := .pointer (some ⟨w.heap.size + 1, 1, none⟩)) rfl rfl (by kernel_rfl) (by kernel_rfl) (by kernel_rfl) (fun _ _ _ h => h) hH (Or.inl ⟨by rfl, by intro w' _; go_simp⟩) ?_
    simp only [Act.put, List.setIfInBounds_toArray, List.set_cons_zero, List.set_cons_succ]
    refine takeH (i := 6) (d := 46) (v := .slice (some ⟨gb, ob, none⟩) bs.length cap') rfl rfl (by kernel_rfl) (by kernel_rfl) (by kernel_rfl) (fun _ _ _ h => h) hH (Or.inl ⟨by rfl, by intro w' hSw; obtain ⟨-, ⟨x0, x1, x2, x3, x4, x5⟩, ⟨z0, z1, z2, z3, z4, z5⟩, y0, y1, y2, y3⟩ := hSw; go_simp⟩) ?_
    simp only [Act.put, List.setIfInBounds_toArray, List.set_cons_zero, List.set_cons_succ]
    refine takeH (i := 7) (d := 47) (v := .int .i64 j) rfl rfl (by kernel_rfl) (by kernel_rfl) (by kernel_rfl) (fun _ _ _ h => h) hH (Or.inl ⟨by rfl, by intro w' _; go_simp⟩) ?_
    simp only [Act.put, List.setIfInBounds_toArray, List.set_cons_zero, List.set_cons_succ]
    refine takeH (i := 8) (d := 48) (v := .pointer (some ⟨gb, ob + j * 6, none⟩)) rfl rfl (by kernel_rfl) (by kernel_rfl) (by kernel_rfl) (fun _ _ _ h => h) hH (Or.inl ⟨by rfl, by intro w' _; go_simp⟩) ?_
    simp only [Act.put, List.setIfInBounds_toArray, List.set_cons_zero, List.set_cons_succ]
    refine takeH (i := 9) (d := 49) (v := .agg #[.int .i64 b.x, .int .i64 b.y, .int .i64 b.l, .int .i64 b.h, .int .i64 b.i, .int .i64 b.o]) rfl rfl (by kernel_rfl) (by kernel_rfl) (by kernel_rfl) (fun _ _ _ h => h) hH (Or.inl ⟨by rfl, by intro w' hSw; obtain ⟨-, ⟨x0, x1, x2, x3, x4, x5⟩, ⟨z0, z1, z2, z3, z4, z5⟩, y0, y1, y2, y3⟩ := hSw; go_simp⟩) ?_
    simp only [Act.put, List.setIfInBounds_toArray, List.set_cons_zero, List.set_cons_succ]
    refine wpAnyH_ready (rs := [10]) (by kernel_rfl) (by simp) ?_
    refine AllReadyH.cons (o := _) rfl (fun K hK => ?_) AllReadyH.nil
    go_simp
    refine (implClose_any c b _).mono ?_
    rintro e w1 ⟨rfl, g1⟩
    dsimp only
    have G1 : Gr W w1 := ((Gr.refl W).drew).trans g1
    refine hK.out _ _ (KS.out _ G1) (fun hHeld => ?_)
    clear hK K hH g1
    have hH := hHeld
    clear hHeld
    (try dsimp only at hH)
    refine takeH (i := 11) (d := 39) (v := .tuple #[.int .i64 (closeT c b), .bool (closeB c b)]) rfl rfl (by kernel_rfl) (by kernel_rfl) (by kernel_rfl) (fun _ _ _ h => h) hH (Or.inl ⟨by rfl, by intro w' _; go_simp⟩) ?_
    simp only [Act.put, List.setIfInBounds_toArray, List.set_cons_zero, List.set_cons_succ]
    refine takeH (i := 12) (d := 51) (v := .int .i64 (closeT c b)) rfl rfl (by kernel_rfl) (by kernel_rfl) (by kernel_rfl) (fun _ _ _ h => h) hH (Or.inl ⟨by rfl, by intro w' _; go_simp⟩) ?_
    simp only [Act.put, List.setIfInBounds_toArray, List.set_cons_zero, List.set_cons_succ]
    refine takeH (i := 13) (d := 52) (v := .bool (closeB c b)) rfl rfl (by kernel_rfl) (by kernel_rfl) (by kernel_rfl) (fun _ _ _ h => h) hH (Or.inl ⟨by rfl, by intro w' _; go_simp⟩) ?_
    simp only [Act.put, List.setIfInBounds_toArray, List.set_cons_zero, List.set_cons_succ]
    refine takeH (i := 14) (d := 11) (v := .int .i64 (closeT c b)) rfl rfl (by kernel_rfl) (by kernel_rfl) (by kernel_rfl) (fun _ _ _ h => h) hH (Or.inl ⟨by rfl, by intro w' _; go_simp⟩) ?_
    simp only [Act.put, List.setIfInBounds_toArray, List.set_cons_zero, List.set_cons_succ]
    refine takeH (i := 15) (d := 12) (v := .bool (closeB c b)) rfl rfl (by kernel_rfl) (by kernel_rfl) (by kernel_rfl) (fun _ _ _ h => h) hH (Or.inl ⟨by rfl, by intro w' _; go_simp⟩) ?_
    simp only [Act.put, List.setIfInBounds_toArray, List.set_cons_zero, List.set_cons_succ]
    refine wpAnyH_done (by kernel_rfl) ?_ _
    obtain ⟨-, -, -, q0, q1, q2, q3⟩ := hH
    have hs1 : w1.cell? ⟨g, 0, none⟩ = some (.int .i64 (soonT cs bs)) := ((gI.trans G1).cells.1 g 0 hg).trans hgs
    have KA : Hid (KeepAt o0 W w1) := G1.cells.1 o0 0 (by omega)
    have B1 : Hid (ClashAt w1 wq.heap.size s t (foldP cs bs (pre.map (·.1)))) := clash_gr hbest G1
    have B2 : Hid (FlagAt w1 (wq.heap.size + 1) (foldP cs bs (pre.map (·.1))).isSome) := flag_gr hflag G1
    have hsz1 : W0.heap.size ≤ w1.heap.size := Nat.le_trans hW0 G1.size
    clear hbest hflag hgs
    obtain ⟨T0, hT0⟩ : ∃ T0, closeT c b = T0 := ⟨_, rfl⟩
    rw [hT0] at H1 H2 H3 ⊢
    clear hT0
    obtain ⟨S0, hS0⟩ : ∃ S0, soonT cs bs = S0 := ⟨_, rfl⟩
    rw [hS0] at hs1 ⊢
    clear hS0
    cases hcl : closeB c b
    · have HE := HST.out.trans (H0.out hcl _)
      have HE' : Hid (foldP cs bs ((pre ++ [(⟨(i, j), hi, hj⟩ : Prs cs.length bs.length)]).map (·.1)) = foldP cs bs (pre.map (·.1))) := HE
      clear HE HST H0 H1 H2 H3
      gi_wp2
      exact ⟨keeps_gr G1, KA.out, ⟨gI.trans G1, hsz1⟩, by rw [HE'.out]; exact B1.out, by rw [HE'.out]; exact B2.out⟩
    · obtain ⟨st, hst⟩ : ∃ st, foldP cs bs (pre.map (·.1)) = st := ⟨_, rfl⟩
      rw [hst] at HST B1 B2
      clear hst
      rcases st with _ | ⟨T, i', j'⟩
      · have HE : Hid (foldP cs bs ((pre ++ [(⟨(i, j), hi, hj⟩ : Prs cs.length bs.length)]).map (·.1)) = some (T0, i, j)) := HST.out.trans (H1.out hcl)
        obtain ⟨⟨c0, c1, c2, c3, c4⟩, ⟨k0, k1, k2, k3, k4⟩, -⟩ := B1.out
        obtain ⟨d0, d1, -⟩ := B2.out
        dsimp only [Option.isSome] at d0
        clear HST H0 H1 H2 H3
        by_cases hq : T0 = S0
        · subst hq
          have HP : Hid (((Gr wq (((put5 w1 wq.heap.size (.string s) (.string t) (.int .i64 T0) (.int .i64 i) (.int .i64 j))).setCell ⟨wq.heap.size + 1, 0, none⟩ (.bool true)) ∧ W0.heap.size ≤ (((put5 w1 wq.heap.size (.string s) (.string t) (.int .i64 T0) (.int .i64 i) (.int .i64 j))).setCell ⟨wq.heap.size + 1, 0, none⟩ (.bool true)).heap.size) ∧ ClashAt (((put5 w1 wq.heap.size (.string s) (.string t) (.int .i64 T0) (.int .i64 i) (.int .i64 j))).setCell ⟨wq.heap.size + 1, 0, none⟩ (.bool true)) wq.heap.size s t (some (T0, i, j)) ∧ FlagAt (((put5 w1 wq.heap.size (.string s) (.string t) (.int .i64 T0) (.int .i64 i) (.int .i64 j))).setCell ⟨wq.heap.size + 1, 0, none⟩ (.bool true)) (wq.heap.size + 1) true) ∧ KeepsFrom W0.heap.size W (((put5 w1 wq.heap.size (.string s) (.string t) (.int .i64 T0) (.int .i64 i) (.int .i64 j))).setCell ⟨wq.heap.size + 1, 0, none⟩ (.bool true)) ∧ KeepAt o0 W (((put5 w1 wq.heap.size (.string s) (.string t) (.int .i64 T0) (.int .i64 i) (.int .i64 j))).setCell ⟨wq.heap.size + 1, 0, none⟩ (.bool true))) :=
            ⟨⟨⟨(put5_gr (gI.trans G1) (Nat.le_refl _) _ _ _ _ _).setCell (by show wq.heap.size ≤ wq.heap.size + 1; omega) _, by rw [World.size_setCell, put5_size]; exact hsz1⟩, clash_set (clash_put B1.out T0 i j) (by omega) _, flag_put B2.out (by omega) _ _ _ _ _ true⟩,
             (keeps_gr G1).trans (((put5_keeps w1 wq.heap.size (.string s) (.string t) (.int .i64 T0) (.int .i64 i) (.int .i64 j)).trans (KeepsOthers.setCell _ ⟨wq.heap.size + 1, 0, none⟩ (.bool true))).from _),
             (cell_off _ _ _ _ _ _ (by omega)).trans ((put_off w1 _ _ 0 _ _ _ _ _ (by omega)).trans KA.out)⟩
          unfold put5 at HP
          gi_wp2
          exact ⟨HP.out.2.1, rfl, ⟨HP.out.1.1, by rw [HE.out]; exact HP.out.1.2.1, by rw [HE.out]; exact HP.out.1.2.2⟩, i, j, HE.out⟩
        · have HP : Hid (((Gr wq (((put5 w1 wq.heap.size (.string s) (.string t) (.int .i64 T0) (.int .i64 i) (.int .i64 j))).setCell ⟨wq.heap.size + 1, 0, none⟩ (.bool true)) ∧ W0.heap.size ≤ (((put5 w1 wq.heap.size (.string s) (.string t) (.int .i64 T0) (.int .i64 i) (.int .i64 j))).setCell ⟨wq.heap.size + 1, 0, none⟩ (.bool true)).heap.size) ∧ ClashAt (((put5 w1 wq.heap.size (.string s) (.string t) (.int .i64 T0) (.int .i64 i) (.int .i64 j))).setCell ⟨wq.heap.size + 1, 0, none⟩ (.bool true)) wq.heap.size s t (some (T0, i, j)) ∧ FlagAt (((put5 w1 wq.heap.size (.string s) (.string t) (.int .i64 T0) (.int .i64 i) (.int .i64 j))).setCell ⟨wq.heap.size + 1, 0, none⟩ (.bool true)) (wq.heap.size + 1) true) ∧ KeepsFrom W0.heap.size W (((put5 w1 wq.heap.size (.string s) (.string t) (.int .i64 T0) (.int .i64 i) (.int .i64 j))).setCell ⟨wq.heap.size + 1, 0, none⟩ (.bool true)) ∧ KeepAt o0 W (((put5 w1 wq.heap.size (.string s) (.string t) (.int .i64 T0) (.int .i64 i) (.int .i64 j))).setCell ⟨wq.heap.size + 1, 0, none⟩ (.bool true))) :=
            ⟨⟨⟨(put5_gr (gI.trans G1) (Nat.le_refl _) _ _ _ _ _).setCell (by show wq.heap.size ≤ wq.heap.size + 1; omega) _, by rw [World.size_setCell, put5_size]; exact hsz1⟩, clash_set (clash_put B1.out T0 i j) (by omega) _, flag_put B2.out (by omega) _ _ _ _ _ true⟩,
             (keeps_gr G1).trans (((put5_keeps w1 wq.heap.size (.string s) (.string t) (.int .i64 T0) (.int .i64 i) (.int .i64 j)).trans (KeepsOthers.setCell _ ⟨wq.heap.size + 1, 0, none⟩ (.bool true))).from _),
             (cell_off _ _ _ _ _ _ (by omega)).trans ((put_off w1 _ _ 0 _ _ _ _ _ (by omega)).trans KA.out)⟩
          unfold put5 at HP
          gi_wp2
          exact ⟨HP.out.2.1, HP.out.2.2, HP.out.1.1, by rw [HE.out]; exact HP.out.1.2.1, by rw [HE.out]; exact HP.out.1.2.2⟩
      · by_cases hlt : T0 < T
        · have HE : Hid (foldP cs bs ((pre ++ [(⟨(i, j), hi, hj⟩ : Prs cs.length bs.length)]).map (·.1)) = some (T0, i, j)) := HST.out.trans (H2.out T i' j' hcl hlt)
          obtain ⟨⟨c0, c1, c2, c3, c4⟩, ⟨k0, k1, k2, k3, k4⟩, -⟩ := B1.out
          obtain ⟨d0, d1, -⟩ := B2.out
          dsimp only [Option.isSome] at d0
          clear HST H0 H1 H2 H3
          by_cases hq : T0 = S0
          · subst hq
            have HP : Hid (((Gr wq (((put5 w1 wq.heap.size (.string s) (.string t) (.int .i64 T0) (.int .i64 i) (.int .i64 j))).setCell ⟨wq.heap.size + 1, 0, none⟩ (.bool true)) ∧ W0.heap.size ≤ (((put5 w1 wq.heap.size (.string s) (.string t) (.int .i64 T0) (.int .i64 i) (.int .i64 j))).setCell ⟨wq.heap.size + 1, 0, none⟩ (.bool true)).heap.size) ∧ ClashAt (((put5 w1 wq.heap.size (.string s) (.string t) (.int .i64 T0) (.int .i64 i) (.int .i64 j))).setCell ⟨wq.heap.size + 1, 0, none⟩ (.bool true)) wq.heap.size s t (some (T0, i, j)) ∧ FlagAt (((put5 w1 wq.heap.size (.string s) (.string t) (.int .i64 T0) (.int .i64 i) (.int .i64 j))).setCell ⟨wq.heap.size + 1, 0, none⟩ (.bool true)) (wq.heap.size + 1) true) ∧ KeepsFrom W0.heap.size W (((put5 w1 wq.heap.size (.string s) (.string t) (.int .i64 T0) (.int .i64 i) (.int .i64 j))).setCell ⟨wq.heap.size + 1, 0, none⟩ (.bool true)) ∧ KeepAt o0 W (((put5 w1 wq.heap.size (.string s) (.string t) (.int .i64 T0) (.int .i64 i) (.int .i64 j))).setCell ⟨wq.heap.size + 1, 0, none⟩ (.bool true))) :=
              ⟨⟨⟨(put5_gr (gI.trans G1) (Nat.le_refl _) _ _ _ _ _).setCell (by show wq.heap.size ≤ wq.heap.size + 1; omega) _, by rw [World.size_setCell, put5_size]; exact hsz1⟩, clash_set (clash_put B1.out T0 i j) (by omega) _, flag_put B2.out (by omega) _ _ _ _ _ true⟩,
               (keeps_gr G1).trans (((put5_keeps w1 wq.heap.size (.string s) (.string t) (.int .i64 T0) (.int .i64 i) (.int .i64 j)).trans (KeepsOthers.setCell _ ⟨wq.heap.size + 1, 0, none⟩ (.bool true))).from _),
               (cell_off _ _ _ _ _ _ (by omega)).trans ((put_off w1 _ _ 0 _ _ _ _ _ (by omega)).trans KA.out)⟩
            unfold put5 at HP
            gi_wp2
            exact ⟨HP.out.2.1, rfl, ⟨HP.out.1.1, by rw [HE.out]; exact HP.out.1.2.1, by rw [HE.out]; exact HP.out.1.2.2⟩, i, j, HE.out⟩
          · have HP : Hid (((Gr wq (((put5 w1 wq.heap.size (.string s) (.string t) (.int .i64 T0) (.int .i64 i) (.int .i64 j))).setCell ⟨wq.heap.size + 1, 0, none⟩ (.bool true)) ∧ W0.heap.size ≤ (((put5 w1 wq.heap.size (.string s) (.string t) (.int .i64 T0) (.int .i64 i) (.int .i64 j))).setCell ⟨wq.heap.size + 1, 0, none⟩ (.bool true)).heap.size) ∧ ClashAt (((put5 w1 wq.heap.size (.string s) (.string t) (.int .i64 T0) (.int .i64 i) (.int .i64 j))).setCell ⟨wq.heap.size + 1, 0, none⟩ (.bool true)) wq.heap.size s t (some (T0, i, j)) ∧ FlagAt (((put5 w1 wq.heap.size (.string s) (.string t) (.int .i64 T0) (.int .i64 i) (.int .i64 j))).setCell ⟨wq.heap.size + 1, 0, none⟩ (.bool true)) (wq.heap.size + 1) true) ∧ KeepsFrom W0.heap.size W (((put5 w1 wq.heap.size (.string s) (.string t) (.int .i64 T0) (.int .i64 i) (.int .i64 j))).setCell ⟨wq.heap.size + 1, 0, none⟩ (.bool true)) ∧ KeepAt o0 W (((put5 w1 wq.heap.size (.string s) (.string t) (.int .i64 T0) (.int .i64 i) (.int .i64 j))).setCell ⟨wq.heap.size + 1, 0, none⟩ (.bool true))) :=
              ⟨⟨⟨(put5_gr (gI.trans G1) (Nat.le_refl _) _ _ _ _ _).setCell (by show wq.heap.size ≤ wq.heap.size + 1; omega) _, by rw [World.size_setCell, put5_size]; exact hsz1⟩, clash_set (clash_put B1.out T0 i j) (by omega) _, flag_put B2.out (by omega) _ _ _ _ _ true⟩,
               (keeps_gr G1).trans (((put5_keeps w1 wq.heap.size (.string s) (.string t) (.int .i64 T0) (.int .i64 i) (.int .i64 j)).trans (KeepsOthers.setCell _ ⟨wq.heap.size + 1, 0, none⟩ (.bool true))).from _),
               (cell_off _ _ _ _ _ _ (by omega)).trans ((put_off w1 _ _ 0 _ _ _ _ _ (by omega)).trans KA.out)⟩
            unfold put5 at HP
            gi_wp2
            exact ⟨HP.out.2.1, HP.out.2.2, HP.out.1.1, by rw [HE.out]; exact HP.out.1.2.1, by rw [HE.out]; exact HP.out.1.2.2⟩
        · have HE : Hid (foldP cs bs ((pre ++ [(⟨(i, j), hi, hj⟩ : Prs cs.length bs.length)]).map (·.1)) = some (T, i', j')) := HST.out.trans (H3.out T i' j' hcl hlt)
          obtain ⟨⟨c0, c1, c2, c3, c4⟩, -, -⟩ := B1.out
          obtain ⟨d0, -, -⟩ := B2.out
          dsimp only [Option.isSome] at d0
          clear HST H0 H1 H2 H3
          gi_wp2
          exact ⟨keeps_gr G1, KA.out, ⟨gI.trans G1, hsz1⟩, by rw [HE.out]; exact B1.out, by rw [HE.out]; exact B2.out⟩
  case done =>
    rintro D xs W hD hS ⟨⟨gI, -⟩, hbest, hflag⟩ hK
    have EQ : foldP cs bs (xs.map (·.1)) = meetAll cs bs cs.length := by rw [hS, foldP_all]
    rw [EQ] at hbest hflag
    obtain ⟨st, hst'⟩ : ∃ st, meetAll cs bs cs.length = st := ⟨_, rfl⟩
    rw [hst'] at hbest hflag
    have HS : Hid (meetAll cs bs cs.length = st) := hst'
    clear hst'
    have HR := five_new (G.trans gI)
    rw [eR2] at HR
    have hsz := G.size
    rw [eR] at hsz
    have hRl := HR.2.2
    have HF := fun v0 v1 v2 v3 v4 => fin_five v0 v1 v2 v3 v4 (GW.trans gI) (R := w.heap.size + 1 + 1) (D := D) (by omega) (by omega) HR.1 HR.2.1 HR.2.2 hK
    obtain ⟨⟨r0, r1, r2, r3, r4⟩, ⟨p0, p1, p2, p3, p4⟩, -⟩ := HR
    have HFh : Hid (∀ v0 v1 v2 v3 v4, ((put5 W (w.heap.size + 1 + 1) v0 v1 v2 v3 v4).drew).heap[D]? = some (.deferred (some [])) ∧ Five (((put5 W (w.heap.size + 1 + 1) v0 v1 v2 v3 v4).drew).putObj D (.deferred none)) (w.heap.size + 1 + 1) v0 v1 v2 v3 v4 ∧ Gr w (((put5 W (w.heap.size + 1 + 1) v0 v1 v2 v3 v4).drew).putObj D (.deferred none))) := HF
    clear HF EQ
    have hne : w.heap.size + 1 + 1 ≠ wq.heap.size := by omega
    have hne' : w.heap.size + 1 + 1 ≠ wq.heap.size + 1 := by omega
    obtain ⟨d0, d1, d2⟩ := hflag
    rcases st with _ | ⟨T, i', j'⟩
    · obtain ⟨⟨c0, c1, c2, c3, c4⟩, -, hfl⟩ := hbest
      dsimp only [Option.isSome] at d0
      have K0 : Hid (W.drew.cell? ⟨wq.heap.size, 0, none⟩ = some (.string ⟨#[]⟩) ∧ W.drew.cell? ⟨wq.heap.size, 1, none⟩ = some (.string ⟨#[]⟩) ∧ W.drew.cell? ⟨wq.heap.size, 2, none⟩ = some (.int .i64 0) ∧ W.drew.cell? ⟨wq.heap.size, 3, none⟩ = some (.int .i64 0) ∧ W.drew.cell? ⟨wq.heap.size, 4, none⟩ = some (.int .i64 0) ∧ W.drew.cell? ⟨wq.heap.size + 1, 0, none⟩ = some (.bool false)) := ⟨c0, c1, c2, c3, c4, d0⟩
      have KF : Hid (∀ (v0 v1 v2 v3 v4 : Value), ((((((W.setCell ⟨w.heap.size + 1 + 1, 0, none⟩ v0).setCell ⟨w.heap.size + 1 + 1, 1, none⟩ v1).setCell ⟨w.heap.size + 1 + 1, 2, none⟩ v2).setCell ⟨w.heap.size + 1 + 1, 3, none⟩ v3).setCell ⟨w.heap.size + 1 + 1, 4, none⟩ v4).drew).cell? ⟨wq.heap.size, 0, none⟩ = some (.string ⟨#[]⟩) ∧ ((((((W.setCell ⟨w.heap.size + 1 + 1, 0, none⟩ v0).setCell ⟨w.heap.size + 1 + 1, 1, none⟩ v1).setCell ⟨w.heap.size + 1 + 1, 2, none⟩ v2).setCell ⟨w.heap.size + 1 + 1, 3, none⟩ v3).setCell ⟨w.heap.size + 1 + 1, 4, none⟩ v4).drew).cell? ⟨wq.heap.size, 1, none⟩ = some (.string ⟨#[]⟩) ∧ ((((((W.setCell ⟨w.heap.size + 1 + 1, 0, none⟩ v0).setCell ⟨w.heap.size + 1 + 1, 1, none⟩ v1).setCell ⟨w.heap.size + 1 + 1, 2, none⟩ v2).setCell ⟨w.heap.size + 1 + 1, 3, none⟩ v3).setCell ⟨w.heap.size + 1 + 1, 4, none⟩ v4).drew).cell? ⟨wq.heap.size, 2, none⟩ = some (.int .i64 0) ∧ ((((((W.setCell ⟨w.heap.size + 1 + 1, 0, none⟩ v0).setCell ⟨w.heap.size + 1 + 1, 1, none⟩ v1).setCell ⟨w.heap.size + 1 + 1, 2, none⟩ v2).setCell ⟨w.heap.size + 1 + 1, 3, none⟩ v3).setCell ⟨w.heap.size + 1 + 1, 4, none⟩ v4).drew).cell? ⟨wq.heap.size, 3, none⟩ = some (.int .i64 0) ∧ ((((((W.setCell ⟨w.heap.size + 1 + 1, 0, none⟩ v0).setCell ⟨w.heap.size + 1 + 1, 1, none⟩ v1).setCell ⟨w.heap.size + 1 + 1, 2, none⟩ v2).setCell ⟨w.heap.size + 1 + 1, 3, none⟩ v3).setCell ⟨w.heap.size + 1 + 1, 4, none⟩ v4).drew).cell? ⟨wq.heap.size, 4, none⟩ = some (.int .i64 0) ∧ ((((((W.setCell ⟨w.heap.size + 1 + 1, 0, none⟩ v0).setCell ⟨w.heap.size + 1 + 1, 1, none⟩ v1).setCell ⟨w.heap.size + 1 + 1, 2, none⟩ v2).setCell ⟨w.heap.size + 1 + 1, 3, none⟩ v3).setCell ⟨w.heap.size + 1 + 1, 4, none⟩ v4).drew).cell? ⟨wq.heap.size + 1, 0, none⟩ = some (.bool false)) := fun v0 v1 v2 v3 v4 => by
        refine ⟨?_, ?_, ?_, ?_, ?_, ?_⟩
        · exact (cell_drew_own _ _).trans ((put_off W _ _ 0 v0 v1 v2 v3 v4 hne).trans c0)
        · exact (cell_drew_own _ _).trans ((put_off W _ _ 1 v0 v1 v2 v3 v4 hne).trans c1)
        · exact (cell_drew_own _ _).trans ((put_off W _ _ 2 v0 v1 v2 v3 v4 hne).trans c2)
        · exact (cell_drew_own _ _).trans ((put_off W _ _ 3 v0 v1 v2 v3 v4 hne).trans c3)
        · exact (cell_drew_own _ _).trans ((put_off W _ _ 4 v0 v1 v2 v3 v4 hne).trans c4)
        · exact (cell_drew_own _ _).trans ((put_off W _ _ 0 v0 v1 v2 v3 v4 hne').trans d0)
      clear c0 c1 c2 c3 c4 d0 d1 d2
      go_wp2_with fail
      go_region_held3 (fun w' => w'.cell? ⟨wq.heap.size, 0, none⟩ = some (.string ⟨#[]⟩) ∧ w'.cell? ⟨wq.heap.size, 1, none⟩ = some (.string ⟨#[]⟩) ∧ w'.cell? ⟨wq.heap.size, 2, none⟩ = some (.int .i64 0) ∧ w'.cell? ⟨wq.heap.size, 3, none⟩ = some (.int .i64 0) ∧ w'.cell? ⟨wq.heap.size, 4, none⟩ = some (.int .i64 0) ∧ w'.cell? ⟨wq.heap.size + 1, 0, none⟩ = some (.bool false))
        (first | with_reducible exact K0.out | with_reducible exact KF.out _ _ _ _ _)
        (fail)
      go_wp2_with fail
      obtain ⟨hk', ⟨v0, v1, v2, v3, v4⟩, hgr⟩ := HFh.out (.string ⟨#[]⟩) (.string ⟨#[]⟩) (.int .i64 0) (.int .i64 0) (.int .i64 0)
      unfold put5 at hk' v0 v1 v2 v3 v4 hgr
      exact leaves_mark (v := .tuple #[.agg #[.string ⟨#[]⟩, .string ⟨#[]⟩, .int .i64 0, .int .i64 0, .int .i64 0], .bool false]) hk' (by simp [results, Tryz.results123, go_sem, v0, v1, v2, v3, v4]) ⟨by rw [HS.out]; rfl, hgr⟩
    · obtain ⟨⟨c0, c1, c2, c3, c4⟩, -, hfl⟩ := hbest
      dsimp only [Option.isSome] at d0
      have K0 : Hid (W.drew.cell? ⟨wq.heap.size, 0, none⟩ = some (.string s) ∧ W.drew.cell? ⟨wq.heap.size, 1, none⟩ = some (.string t) ∧ W.drew.cell? ⟨wq.heap.size, 2, none⟩ = some (.int .i64 T) ∧ W.drew.cell? ⟨wq.heap.size, 3, none⟩ = some (.int .i64 i') ∧ W.drew.cell? ⟨wq.heap.size, 4, none⟩ = some (.int .i64 j') ∧ W.drew.cell? ⟨wq.heap.size + 1, 0, none⟩ = some (.bool true)) := ⟨c0, c1, c2, c3, c4, d0⟩
      have KF : Hid (∀ (v0 v1 v2 v3 v4 : Value), ((((((W.setCell ⟨w.heap.size + 1 + 1, 0, none⟩ v0).setCell ⟨w.heap.size + 1 + 1, 1, none⟩ v1).setCell ⟨w.heap.size + 1 + 1, 2, none⟩ v2).setCell ⟨w.heap.size + 1 + 1, 3, none⟩ v3).setCell ⟨w.heap.size + 1 + 1, 4, none⟩ v4).drew).cell? ⟨wq.heap.size, 0, none⟩ = some (.string s) ∧ ((((((W.setCell ⟨w.heap.size + 1 + 1, 0, none⟩ v0).setCell ⟨w.heap.size + 1 + 1, 1, none⟩ v1).setCell ⟨w.heap.size + 1 + 1, 2, none⟩ v2).setCell ⟨w.heap.size + 1 + 1, 3, none⟩ v3).setCell ⟨w.heap.size + 1 + 1, 4, none⟩ v4).drew).cell? ⟨wq.heap.size, 1, none⟩ = some (.string t) ∧ ((((((W.setCell ⟨w.heap.size + 1 + 1, 0, none⟩ v0).setCell ⟨w.heap.size + 1 + 1, 1, none⟩ v1).setCell ⟨w.heap.size + 1 + 1, 2, none⟩ v2).setCell ⟨w.heap.size + 1 + 1, 3, none⟩ v3).setCell ⟨w.heap.size + 1 + 1, 4, none⟩ v4).drew).cell? ⟨wq.heap.size, 2, none⟩ = some (.int .i64 T) ∧ ((((((W.setCell ⟨w.heap.size + 1 + 1, 0, none⟩ v0).setCell ⟨w.heap.size + 1 + 1, 1, none⟩ v1).setCell ⟨w.heap.size + 1 + 1, 2, none⟩ v2).setCell ⟨w.heap.size + 1 + 1, 3, none⟩ v3).setCell ⟨w.heap.size + 1 + 1, 4, none⟩ v4).drew).cell? ⟨wq.heap.size, 3, none⟩ = some (.int .i64 i') ∧ ((((((W.setCell ⟨w.heap.size + 1 + 1, 0, none⟩ v0).setCell ⟨w.heap.size + 1 + 1, 1, none⟩ v1).setCell ⟨w.heap.size + 1 + 1, 2, none⟩ v2).setCell ⟨w.heap.size + 1 + 1, 3, none⟩ v3).setCell ⟨w.heap.size + 1 + 1, 4, none⟩ v4).drew).cell? ⟨wq.heap.size, 4, none⟩ = some (.int .i64 j') ∧ ((((((W.setCell ⟨w.heap.size + 1 + 1, 0, none⟩ v0).setCell ⟨w.heap.size + 1 + 1, 1, none⟩ v1).setCell ⟨w.heap.size + 1 + 1, 2, none⟩ v2).setCell ⟨w.heap.size + 1 + 1, 3, none⟩ v3).setCell ⟨w.heap.size + 1 + 1, 4, none⟩ v4).drew).cell? ⟨wq.heap.size + 1, 0, none⟩ = some (.bool true)) := fun v0 v1 v2 v3 v4 => by
        refine ⟨?_, ?_, ?_, ?_, ?_, ?_⟩
        · exact (cell_drew_own _ _).trans ((put_off W _ _ 0 v0 v1 v2 v3 v4 hne).trans c0)
        · exact (cell_drew_own _ _).trans ((put_off W _ _ 1 v0 v1 v2 v3 v4 hne).trans c1)
        · exact (cell_drew_own _ _).trans ((put_off W _ _ 2 v0 v1 v2 v3 v4 hne).trans c2)
        · exact (cell_drew_own _ _).trans ((put_off W _ _ 3 v0 v1 v2 v3 v4 hne).trans c3)
        · exact (cell_drew_own _ _).trans ((put_off W _ _ 4 v0 v1 v2 v3 v4 hne).trans c4)
        · exact (cell_drew_own _ _).trans ((put_off W _ _ 0 v0 v1 v2 v3 v4 hne').trans d0)
      clear c0 c1 c2 c3 c4 d0 d1 d2
      go_wp2_with fail
      go_region_held3 (fun w' => w'.cell? ⟨wq.heap.size, 0, none⟩ = some (.string s) ∧ w'.cell? ⟨wq.heap.size, 1, none⟩ = some (.string t) ∧ w'.cell? ⟨wq.heap.size, 2, none⟩ = some (.int .i64 T) ∧ w'.cell? ⟨wq.heap.size, 3, none⟩ = some (.int .i64 i') ∧ w'.cell? ⟨wq.heap.size, 4, none⟩ = some (.int .i64 j') ∧ w'.cell? ⟨wq.heap.size + 1, 0, none⟩ = some (.bool true))
        (first | with_reducible exact K0.out | with_reducible exact KF.out _ _ _ _ _)
        (fail)
      go_wp2_with fail
      obtain ⟨hk', ⟨v0, v1, v2, v3, v4⟩, hgr⟩ := HFh.out (.string s) (.string t) (.int .i64 T) (.int .i64 i') (.int .i64 j')
      unfold put5 at hk' v0 v1 v2 v3 v4 hgr
      exact leaves_mark (v := .tuple #[.agg #[.string s, .string t, .int .i64 T, .int .i64 i', .int .i64 j'], .bool true]) hk' (by simp [results, Tryz.results123, go_sem, v0, v1, v2, v3, v4]) ⟨by rw [HS.out]; rfl, hgr⟩
  case stop =>
    rintro D c pre W hD hS ⟨rfl, ⟨⟨gI, -⟩, hbest, hflag⟩, i, j, hst⟩ hK
    have EQ : foldP cs bs (pre.map (·.1)) = meetAll cs bs cs.length := hst.trans (fold_stop hS hst).symm
    clear hst
    refine wpIn_exit ?_
    rw [EQ] at hbest hflag
    obtain ⟨st, hst'⟩ : ∃ st, meetAll cs bs cs.length = st := ⟨_, rfl⟩
    rw [hst'] at hbest hflag
    have HS : Hid (meetAll cs bs cs.length = st) := hst'
    clear hst'
    have HR := five_new (G.trans gI)
    rw [eR2] at HR
    have hsz := G.size
    rw [eR] at hsz
    have hRl := HR.2.2
    have HF := fun v0 v1 v2 v3 v4 => fin_five v0 v1 v2 v3 v4 (GW.trans gI) (R := w.heap.size + 1 + 1) (D := D) (by omega) (by omega) HR.1 HR.2.1 HR.2.2 hK
    obtain ⟨⟨r0, r1, r2, r3, r4⟩, ⟨p0, p1, p2, p3, p4⟩, -⟩ := HR
    have HFh : Hid (∀ v0 v1 v2 v3 v4, ((put5 W (w.heap.size + 1 + 1) v0 v1 v2 v3 v4).drew).heap[D]? = some (.deferred (some [])) ∧ Five (((put5 W (w.heap.size + 1 + 1) v0 v1 v2 v3 v4).drew).putObj D (.deferred none)) (w.heap.size + 1 + 1) v0 v1 v2 v3 v4 ∧ Gr w (((put5 W (w.heap.size + 1 + 1) v0 v1 v2 v3 v4).drew).putObj D (.deferred none))) := HF
    clear HF EQ
    have hne : w.heap.size + 1 + 1 ≠ wq.heap.size := by omega
    have hne' : w.heap.size + 1 + 1 ≠ wq.heap.size + 1 := by omega
    obtain ⟨d0, d1, d2⟩ := hflag
    rcases st with _ | ⟨T, i', j'⟩
    · obtain ⟨⟨c0, c1, c2, c3, c4⟩, -, hfl⟩ := hbest
      dsimp only [Option.isSome] at d0
      have K0 : Hid (W.drew.cell? ⟨wq.heap.size, 0, none⟩ = some (.string ⟨#[]⟩) ∧ W.drew.cell? ⟨wq.heap.size, 1, none⟩ = some (.string ⟨#[]⟩) ∧ W.drew.cell? ⟨wq.heap.size, 2, none⟩ = some (.int .i64 0) ∧ W.drew.cell? ⟨wq.heap.size, 3, none⟩ = some (.int .i64 0) ∧ W.drew.cell? ⟨wq.heap.size, 4, none⟩ = some (.int .i64 0) ∧ W.drew.cell? ⟨wq.heap.size + 1, 0, none⟩ = some (.bool false)) := ⟨c0, c1, c2, c3, c4, d0⟩
      have KF : Hid (∀ (v0 v1 v2 v3 v4 : Value), ((((((W.setCell ⟨w.heap.size + 1 + 1, 0, none⟩ v0).setCell ⟨w.heap.size + 1 + 1, 1, none⟩ v1).setCell ⟨w.heap.size + 1 + 1, 2, none⟩ v2).setCell ⟨w.heap.size + 1 + 1, 3, none⟩ v3).setCell ⟨w.heap.size + 1 + 1, 4, none⟩ v4).drew).cell? ⟨wq.heap.size, 0, none⟩ = some (.string ⟨#[]⟩) ∧ ((((((W.setCell ⟨w.heap.size + 1 + 1, 0, none⟩ v0).setCell ⟨w.heap.size + 1 + 1, 1, none⟩ v1).setCell ⟨w.heap.size + 1 + 1, 2, none⟩ v2).setCell ⟨w.heap.size + 1 + 1, 3, none⟩ v3).setCell ⟨w.heap.size + 1 + 1, 4, none⟩ v4).drew).cell? ⟨wq.heap.size, 1, none⟩ = some (.string ⟨#[]⟩) ∧ ((((((W.setCell ⟨w.heap.size + 1 + 1, 0, none⟩ v0).setCell ⟨w.heap.size + 1 + 1, 1, none⟩ v1).setCell ⟨w.heap.size + 1 + 1, 2, none⟩ v2).setCell ⟨w.heap.size + 1 + 1, 3, none⟩ v3).setCell ⟨w.heap.size + 1 + 1, 4, none⟩ v4).drew).cell? ⟨wq.heap.size, 2, none⟩ = some (.int .i64 0) ∧ ((((((W.setCell ⟨w.heap.size + 1 + 1, 0, none⟩ v0).setCell ⟨w.heap.size + 1 + 1, 1, none⟩ v1).setCell ⟨w.heap.size + 1 + 1, 2, none⟩ v2).setCell ⟨w.heap.size + 1 + 1, 3, none⟩ v3).setCell ⟨w.heap.size + 1 + 1, 4, none⟩ v4).drew).cell? ⟨wq.heap.size, 3, none⟩ = some (.int .i64 0) ∧ ((((((W.setCell ⟨w.heap.size + 1 + 1, 0, none⟩ v0).setCell ⟨w.heap.size + 1 + 1, 1, none⟩ v1).setCell ⟨w.heap.size + 1 + 1, 2, none⟩ v2).setCell ⟨w.heap.size + 1 + 1, 3, none⟩ v3).setCell ⟨w.heap.size + 1 + 1, 4, none⟩ v4).drew).cell? ⟨wq.heap.size, 4, none⟩ = some (.int .i64 0) ∧ ((((((W.setCell ⟨w.heap.size + 1 + 1, 0, none⟩ v0).setCell ⟨w.heap.size + 1 + 1, 1, none⟩ v1).setCell ⟨w.heap.size + 1 + 1, 2, none⟩ v2).setCell ⟨w.heap.size + 1 + 1, 3, none⟩ v3).setCell ⟨w.heap.size + 1 + 1, 4, none⟩ v4).drew).cell? ⟨wq.heap.size + 1, 0, none⟩ = some (.bool false)) := fun v0 v1 v2 v3 v4 => by
        refine ⟨?_, ?_, ?_, ?_, ?_, ?_⟩
        · exact (cell_drew_own _ _).trans ((put_off W _ _ 0 v0 v1 v2 v3 v4 hne).trans c0)
        · exact (cell_drew_own _ _).trans ((put_off W _ _ 1 v0 v1 v2 v3 v4 hne).trans c1)
        · exact (cell_drew_own _ _).trans ((put_off W _ _ 2 v0 v1 v2 v3 v4 hne).trans c2)
        · exact (cell_drew_own _ _).trans ((put_off W _ _ 3 v0 v1 v2 v3 v4 hne).trans c3)
        · exact (cell_drew_own _ _).trans ((put_off W _ _ 4 v0 v1 v2 v3 v4 hne).trans c4)
        · exact (cell_drew_own _ _).trans ((put_off W _ _ 0 v0 v1 v2 v3 v4 hne').trans d0)
      clear c0 c1 c2 c3 c4 d0 d1 d2
      go_wp2_with fail
      go_region_held3 (fun w' => w'.cell? ⟨wq.heap.size, 0, none⟩ = some (.string ⟨#[]⟩) ∧ w'.cell? ⟨wq.heap.size, 1, none⟩ = some (.string ⟨#[]⟩) ∧ w'.cell? ⟨wq.heap.size, 2, none⟩ = some (.int .i64 0) ∧ w'.cell? ⟨wq.heap.size, 3, none⟩ = some (.int .i64 0) ∧ w'.cell? ⟨wq.heap.size, 4, none⟩ = some (.int .i64 0) ∧ w'.cell? ⟨wq.heap.size + 1, 0, none⟩ = some (.bool false))
        (first | with_reducible exact K0.out | with_reducible exact KF.out _ _ _ _ _)
        (fail)
      go_wp2_with fail
      obtain ⟨hk', ⟨v0, v1, v2, v3, v4⟩, hgr⟩ := HFh.out (.string ⟨#[]⟩) (.string ⟨#[]⟩) (.int .i64 0) (.int .i64 0) (.int .i64 0)
      unfold put5 at hk' v0 v1 v2 v3 v4 hgr
      exact leaves_mark (v := .tuple #[.agg #[.string ⟨#[]⟩, .string ⟨#[]⟩, .int .i64 0, .int .i64 0, .int .i64 0], .bool false]) hk' (by simp [results, Tryz.results123, go_sem, v0, v1, v2, v3, v4]) ⟨by rw [HS.out]; rfl, hgr⟩
    · obtain ⟨⟨c0, c1, c2, c3, c4⟩, -, hfl⟩ := hbest
      dsimp only [Option.isSome] at d0
      have K0 : Hid (W.drew.cell? ⟨wq.heap.size, 0, none⟩ = some (.string s) ∧ W.drew.cell? ⟨wq.heap.size, 1, none⟩ = some (.string t) ∧ W.drew.cell? ⟨wq.heap.size, 2, none⟩ = some (.int .i64 T) ∧ W.drew.cell? ⟨wq.heap.size, 3, none⟩ = some (.int .i64 i') ∧ W.drew.cell? ⟨wq.heap.size, 4, none⟩ = some (.int .i64 j') ∧ W.drew.cell? ⟨wq.heap.size + 1, 0, none⟩ = some (.bool true)) := ⟨c0, c1, c2, c3, c4, d0⟩
      have KF : Hid (∀ (v0 v1 v2 v3 v4 : Value), ((((((W.setCell ⟨w.heap.size + 1 + 1, 0, none⟩ v0).setCell ⟨w.heap.size + 1 + 1, 1, none⟩ v1).setCell ⟨w.heap.size + 1 + 1, 2, none⟩ v2).setCell ⟨w.heap.size + 1 + 1, 3, none⟩ v3).setCell ⟨w.heap.size + 1 + 1, 4, none⟩ v4).drew).cell? ⟨wq.heap.size, 0, none⟩ = some (.string s) ∧ ((((((W.setCell ⟨w.heap.size + 1 + 1, 0, none⟩ v0).setCell ⟨w.heap.size + 1 + 1, 1, none⟩ v1).setCell ⟨w.heap.size + 1 + 1, 2, none⟩ v2).setCell ⟨w.heap.size + 1 + 1, 3, none⟩ v3).setCell ⟨w.heap.size + 1 + 1, 4, none⟩ v4).drew).cell? ⟨wq.heap.size, 1, none⟩ = some (.string t) ∧ ((((((W.setCell ⟨w.heap.size + 1 + 1, 0, none⟩ v0).setCell ⟨w.heap.size + 1 + 1, 1, none⟩ v1).setCell ⟨w.heap.size + 1 + 1, 2, none⟩ v2).setCell ⟨w.heap.size + 1 + 1, 3, none⟩ v3).setCell ⟨w.heap.size + 1 + 1, 4, none⟩ v4).drew).cell? ⟨wq.heap.size, 2, none⟩ = some (.int .i64 T) ∧ ((((((W.setCell ⟨w.heap.size + 1 + 1, 0, none⟩ v0).setCell ⟨w.heap.size + 1 + 1, 1, none⟩ v1).setCell ⟨w.heap.size + 1 + 1, 2, none⟩ v2).setCell ⟨w.heap.size + 1 + 1, 3, none⟩ v3).setCell ⟨w.heap.size + 1 + 1, 4, none⟩ v4).drew).cell? ⟨wq.heap.size, 3, none⟩ = some (.int .i64 i') ∧ ((((((W.setCell ⟨w.heap.size + 1 + 1, 0, none⟩ v0).setCell ⟨w.heap.size + 1 + 1, 1, none⟩ v1).setCell ⟨w.heap.size + 1 + 1, 2, none⟩ v2).setCell ⟨w.heap.size + 1 + 1, 3, none⟩ v3).setCell ⟨w.heap.size + 1 + 1, 4, none⟩ v4).drew).cell? ⟨wq.heap.size, 4, none⟩ = some (.int .i64 j') ∧ ((((((W.setCell ⟨w.heap.size + 1 + 1, 0, none⟩ v0).setCell ⟨w.heap.size + 1 + 1, 1, none⟩ v1).setCell ⟨w.heap.size + 1 + 1, 2, none⟩ v2).setCell ⟨w.heap.size + 1 + 1, 3, none⟩ v3).setCell ⟨w.heap.size + 1 + 1, 4, none⟩ v4).drew).cell? ⟨wq.heap.size + 1, 0, none⟩ = some (.bool true)) := fun v0 v1 v2 v3 v4 => by
        refine ⟨?_, ?_, ?_, ?_, ?_, ?_⟩
        · exact (cell_drew_own _ _).trans ((put_off W _ _ 0 v0 v1 v2 v3 v4 hne).trans c0)
        · exact (cell_drew_own _ _).trans ((put_off W _ _ 1 v0 v1 v2 v3 v4 hne).trans c1)
        · exact (cell_drew_own _ _).trans ((put_off W _ _ 2 v0 v1 v2 v3 v4 hne).trans c2)
        · exact (cell_drew_own _ _).trans ((put_off W _ _ 3 v0 v1 v2 v3 v4 hne).trans c3)
        · exact (cell_drew_own _ _).trans ((put_off W _ _ 4 v0 v1 v2 v3 v4 hne).trans c4)
        · exact (cell_drew_own _ _).trans ((put_off W _ _ 0 v0 v1 v2 v3 v4 hne').trans d0)
      clear c0 c1 c2 c3 c4 d0 d1 d2
      go_wp2_with fail
      go_region_held3 (fun w' => w'.cell? ⟨wq.heap.size, 0, none⟩ = some (.string s) ∧ w'.cell? ⟨wq.heap.size, 1, none⟩ = some (.string t) ∧ w'.cell? ⟨wq.heap.size, 2, none⟩ = some (.int .i64 T) ∧ w'.cell? ⟨wq.heap.size, 3, none⟩ = some (.int .i64 i') ∧ w'.cell? ⟨wq.heap.size, 4, none⟩ = some (.int .i64 j') ∧ w'.cell? ⟨wq.heap.size + 1, 0, none⟩ = some (.bool true))
        (first | with_reducible exact K0.out | with_reducible exact KF.out _ _ _ _ _)
        (fail)
      go_wp2_with fail
      obtain ⟨hk', ⟨v0, v1, v2, v3, v4⟩, hgr⟩ := HFh.out (.string s) (.string t) (.int .i64 T) (.int .i64 i') (.int .i64 j')
      unfold put5 at hk' v0 v1 v2 v3 v4 hgr
      exact leaves_mark (v := .tuple #[.agg #[.string s, .string t, .int .i64 T, .int .i64 i', .int .i64 j'], .bool true]) hk' (by simp [results, Tryz.results123, go_sem, v0, v1, v2, v3, v4]) ⟨by rw [HS.out]; rfl, hgr⟩

set_option maxRecDepth 100000 in
set_option maxHeartbeats 4000000 in
theorem implMeet_any (s t : ByteArray) (a a' : Option Addr) (cap cap' : Nat) (cs bs : List Bx) (w : World) (hs : s.size ≤ maxLen) (ht : t.size ≤ maxLen) (ha : Boxes w a cs) (hb : Boxes w a' bs) (hn : cs.length ≤ 1048576) (hm : bs.length ≤ 1048576) :
    Calls Tryz.prog 123 #[.agg #[.string s, .slice a cs.length cap], .agg #[.string t, .slice a' bs.length cap']] w fun e w' => e = .returned (.tuple #[.agg (clashV s t (meetO s cs t bs)), .bool (meetO s cs t bs).isSome]) ∧ Gr w w' := by
  have GB : Gr w (((w.alloc (.cells #[.string s, .slice a cs.length cap] 40)).alloc (.cells #[.string t, .slice a' bs.length cap'] 40)).alloc (.cells #[.string ⟨#[]⟩, .string ⟨#[]⟩, .int .i64 0, .int .i64 0, .int .i64 0] 61)) := (((Gr.refl _).alloc _).alloc _).alloc _
  have GT : Gr ((w.alloc (.cells #[.string s, .slice a cs.length cap] 40)).alloc (.cells #[.string t, .slice a' bs.length cap'] 40)) (((w.alloc (.cells #[.string s, .slice a cs.length cap] 40)).alloc (.cells #[.string t, .slice a' bs.length cap'] 40)).alloc (.cells #[.string ⟨#[]⟩, .string ⟨#[]⟩, .int .i64 0, .int .i64 0, .int .i64 0] 61)) := (Gr.refl _).alloc _
  have eR2 : ((w.alloc (.cells #[.string s, .slice a cs.length cap] 40)).alloc (.cells #[.string t, .slice a' bs.length cap'] 40)).heap.size = w.heap.size + 1 + 1 := by simp
  cases hA : tubeB s cs
  · have HV : Hid (meetO s cs t bs = none) := by show meetO s cs t bs = none; simp [meetO, hA]
    go_enter Tryz.func123, Tryz.ntmps123
    go_wp2_with fail
    refine (implTubeOk_any _ _ _ cs _ hs (boxes_gr ha GB) hn).mono ?_
    rintro e w1 ⟨rfl, g1⟩
    obtain ⟨-, q0, q1, q2, q3⟩ := two_pairs (GT.trans g1)
    have HR := five_new g1
    rw [eR2] at HR
    obtain ⟨⟨r0, r1, r2, r3, r4⟩, ⟨p0, p1, p2, p3, p4⟩, -⟩ := HR
    have HR := five_new g1
    rw [eR2] at HR
    have HR' : Hid (Five w1 (w.heap.size + 1 + 1) (.string ⟨#[]⟩) (.string ⟨#[]⟩) (.int .i64 0) (.int .i64 0) (.int .i64 0)) := HR.1
    clear HR
    go_wp2
    obtain ⟨v0, v1, v2, v3, v4⟩ := five_put HR'.out (.string ⟨#[]⟩) (.string ⟨#[]⟩) (.int .i64 0) (.int .i64 0) (.int .i64 0)
    unfold put5 at v0 v1 v2 v3 v4
    refine bodyPost_ret (v := .tuple #[.agg #[.string ⟨#[]⟩, .string ⟨#[]⟩, .int .i64 0, .int .i64 0, .int .i64 0], .bool false]) (by simp [results, Tryz.results123, go_sem, v0, v1, v2, v3, v4]) rfl ⟨by rw [HV.out]; rfl, ?_⟩
    exact put5_gr (GB.trans g1) (by omega) _ _ _ _ _
  cases hB : tubeB t bs
  · have HV : Hid (meetO s cs t bs = none) := by show meetO s cs t bs = none; simp [meetO, hB]
    go_enter Tryz.func123, Tryz.ntmps123
    go_wp2_with fail
    refine (implTubeOk_any _ _ _ cs _ hs (boxes_gr ha GB) hn).mono ?_
    rintro e w1 ⟨rfl, g1⟩
    obtain ⟨-, q0, q1, q2, q3⟩ := two_pairs (GT.trans g1)
    go_wp2_with fail
    refine (implTubeOk_any _ _ _ bs _ ht (boxes_gr hb (GB.trans g1)) hm).mono ?_
    rintro e w2 ⟨rfl, g2⟩
    replace g1 := g1.trans g2
    clear g2 q0 q1 q2 q3
    obtain ⟨-, q0, q1, q2, q3⟩ := two_pairs (GT.trans g1)
    have HR := five_new g1
    rw [eR2] at HR
    obtain ⟨⟨r0, r1, r2, r3, r4⟩, ⟨p0, p1, p2, p3, p4⟩, -⟩ := HR
    have HR := five_new g1
    rw [eR2] at HR
    have HR' : Hid (Five w2 (w.heap.size + 1 + 1) (.string ⟨#[]⟩) (.string ⟨#[]⟩) (.int .i64 0) (.int .i64 0) (.int .i64 0)) := HR.1
    clear HR
    go_wp2
    obtain ⟨v0, v1, v2, v3, v4⟩ := five_put HR'.out (.string ⟨#[]⟩) (.string ⟨#[]⟩) (.int .i64 0) (.int .i64 0) (.int .i64 0)
    unfold put5 at v0 v1 v2 v3 v4
    refine bodyPost_ret (v := .tuple #[.agg #[.string ⟨#[]⟩, .string ⟨#[]⟩, .int .i64 0, .int .i64 0, .int .i64 0], .bool false]) (by simp [results, Tryz.results123, go_sem, v0, v1, v2, v3, v4]) rfl ⟨by rw [HV.out]; rfl, ?_⟩
    exact put5_gr (GB.trans g1) (by omega) _ _ _ _ _
  have HV : meetO s cs t bs = meetAll cs bs cs.length := by simp [meetO, hA, hB]
  rw [HV]
  exact implMeet_ok s t a a' cap cap' cs bs w hs ht ha hb hn hm hA hB
end Go.Proofs.YtpdcgjkfilohcabGreat
