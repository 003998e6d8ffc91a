import Derived.Test.YtpdcgjkfilohcaaCutB
namespace Go.Proofs.Ytpdcgjkfilohcaa
open Go.RowKit
attribute [local go_sem ↓] Go.wp_at_zero Go.wp_at_succ

/-- The variable 'out' of the specification's ProbeCut, and what it owns. -/
def OutIs (w wr : World) (s : ByteArray) (v : Value) (L : List Bx) : Prop :=
  wr.cell? ⟨w.heap.size + 1 + 1, 0, none⟩ = some (.string s) ∧ wr.cell? ⟨w.heap.size + 1 + 1, 1, none⟩ = some v ∧ wr.frozen? ⟨w.heap.size + 1 + 1, 1, none⟩ = false ∧ w.heap.size + 1 + 1 < wr.heap.size ∧ wr.ownsRow (w.heap.size + 1 + 1 + 1) 36 6 v L.length (flat L)

theorem out_alloc {w wr : World} {s : ByteArray} {v : Value} {L : List Bx} (h : OutIs w wr s v L) (o : Obj) (hl : w.heap.size + 1 + 1 < wr.heap.size) : OutIs w (wr.alloc o) s v L := by
  obtain ⟨h0, h1, h2, h3, h4⟩ := h
  exact ⟨(World.cell?_alloc_lt _ _ _ hl).trans h0, (World.cell?_alloc_lt _ _ _ hl).trans h1, (((Gr.refl wr).alloc o).cells.2 _ _ hl).trans h2, by simp; omega, h4.alloc o⟩

theorem owns_form {w : World} {base e size n : Nat} {v : Value} {xs : List Value} (h : w.ownsRow base e size v n xs) : ∃ a c, v = .slice a n c := by
  rcases h.2 with ⟨rfl, h0⟩ | ⟨g, cap, cur, rfl, _⟩
  · subst h0; exact ⟨_, _, rfl⟩
  · exact ⟨_, _, rfl⟩
theorem new_free {w w1 : World} {u v : Value} {t : TypeId} (g : Gr (w.alloc (.cells #[u, v] t)) w1) : w1.frozen? ⟨w.heap.size, 1, none⟩ = false := (g.cells.2 _ _ (by simp)).trans (by simp)

theorem out_next {w W w1 : World} {s : ByteArray} {v v' : Value} {L M : List Bx} {c : Bx} (h : OutIs w W s v L) (hM : M = L ++ [c]) (hown : w1.ownsRow (w.heap.size + 1 + 1 + 1) 36 6 v' (L.length + 1) (flat L ++ c.vals)) (hb : Below (w.heap.size + 1 + 1 + 1) W w1) :
    OutIs w (w1.setCell ⟨w.heap.size + 1 + 1, 1, none⟩ v') s v' M := by
  obtain ⟨h0, h1, h2, h3, h4⟩ := h
  have e1 : w1.cell? ⟨w.heap.size + 1 + 1, 1, none⟩ = some v := (hb.cell (p := ⟨w.heap.size + 1 + 1, 1, none⟩) (by simp)).trans h1
  refine ⟨?_, World.cell?_setCell_same _ _ _ e1, ?_, ?_, ?_⟩
  · rw [cell_off _ _ _ _ _ _ (by simp)]
    exact (hb.cell (p := ⟨w.heap.size + 1 + 1, 0, none⟩) (by simp)).trans h0
  · rw [World.frozen?_setCell]
    exact (hb.frozen (p := ⟨w.heap.size + 1 + 1, 1, none⟩) (by simp)).trans h2
  · rw [World.size_setCell]
    exact Nat.lt_of_lt_of_le h3 hb.size
  · subst hM
    rw [flat_snoc, List.length_append]
    exact ownsRow_setCell_below hown (by simp) _

set_option maxRecDepth 100000 in
set_option maxHeartbeats 4000000 in
theorem specCut_any (s : ByteArray) (a : Option Addr) (cap : Nat) (bs : List Bx) (f : Int) (w : World) (hs : s.size ≤ maxLen) (ha : Boxes w a bs) (hn : bs.length ≤ 1048576) :
    Calls Try.prog 21 #[.agg #[.string s, .slice a bs.length cap], .int .i64 f] w fun e w' => (∃ v, e = .returned (.agg #[.string (cutS s bs), v]) ∧ OwnL w w' v (cutT f s bs)) ∧ Gr w w' := by
  obtain ⟨i0, hi, hz0, hz1, hz2⟩ := info_parts Try.info36
  have G := Gr.refl (((w.alloc (.cells #[.string s, .slice a bs.length cap] 25)).alloc (.cells #[.string ⟨#[]⟩, .slice none 0 0] 25)).alloc (.cells #[.string s, .slice none 0 0] 25))
  have GB : Gr w ((w.alloc (.cells #[.string s, .slice a bs.length cap] 25)).alloc (.cells #[.string ⟨#[]⟩, .slice none 0 0] 25)) := ((Gr.refl _).alloc _).alloc _
  have GO : Gr w (((w.alloc (.cells #[.string s, .slice a bs.length cap] 25)).alloc (.cells #[.string ⟨#[]⟩, .slice none 0 0] 25)).alloc (.cells #[.string s, .slice none 0 0] 25)) := (((Gr.refl _).alloc _).alloc _).alloc _
  cases hA : tubeB s bs
  · have H1 : Hid (cutS s bs = ⟨#[]⟩) := by show cutS s bs = _; simp [cutS, hA]
    have H2 : Hid (cutT f s bs = []) := by show cutT f s bs = _; simp [cutT, hA]
    go_enter Try.func21, Try.ntmps21
    go_wp2_with (go_at_call 14; refine (specTubeOk_any _ _ _ bs _ hs (boxes_gr ha (GO.trans G)) hn).mono ?_; rintro e w1 ⟨rfl, g1⟩; replace G := Gr.trans (by first | exact G | exact G.drew) g1; (try clear hc hf); obtain ⟨hc, hf⟩ := G.cells)
    refine bodyPost_ret (v := .agg #[.string ⟨#[]⟩, .slice none 0 0]) (by simp [results, Try.results21, go_sem, hc]) rfl ⟨⟨_, by rw [H1.out], by rw [H2.out]; exact ownL_nil _ _⟩, ?_⟩
    exact ((GO.trans G).setCell (by dsimp only; omega) _).setCell (by dsimp only; omega) _
  · have H1 : Hid (cutS s bs = s) := by show cutS s bs = _; simp [cutS, hA]
    have H2 : Hid (cutT f s bs = cutL f bs) := by show cutT f s bs = _; simp [cutT, hA]
    go_enter Try.func21, Try.ntmps21
    go_wp2_with (go_at_call 14; refine (specTubeOk_any _ _ _ bs _ hs (boxes_gr ha (GO.trans G)) hn).mono ?_; rintro e w1 ⟨rfl, g1⟩; replace G := Gr.trans (by first | exact G | exact G.drew) g1; (try clear hc hf); obtain ⟨hc, hf⟩ := G.cells; clear g1)
    have hO1 : OutIs w w1 s (.slice none 0 0) (cutL f (bs.take 0)) := by
      obtain ⟨n1, n2, n3⟩ := new_pair G
      have n4 := new_free G
      have eB : ((w.alloc (.cells #[.string s, .slice a bs.length cap] 25)).alloc (.cells #[.string ⟨#[]⟩, .slice none 0 0] 25)).heap.size = w.heap.size + 1 + 1 := by simp
      rw [eB] at n1 n2 n3 n4
      refine ⟨n2, n3, n4, n1, ?_⟩
      exact World.ownsRow_nil _ _ _ _
    have G1 : Gr ((w.alloc (.cells #[.string s, .slice a bs.length cap] 25)).alloc (.cells #[.string ⟨#[]⟩, .slice none 0 0] 25)) w1 := ((Gr.refl _).alloc _).trans G
    clear hc hf G
    go_loopw [6] (fun i wr => ∃ (k : Nat) (v : Value), k ≤ bs.length ∧ i = .int .i64 k ∧ Hid (OutIs w wr s v (cutL f (bs.take k))) ∧ Gr ((w.alloc (.cells #[.string s, .slice a bs.length cap] 25)).alloc (.cells #[.string ⟨#[]⟩, .slice none 0 0] 25)) wr) (fun i _ => bs.length - (intOf i).toNat)
    case atStart => exact ⟨0, _, Nat.zero_le _, rfl, hO1, G1⟩
    case round =>
      obtain ⟨k, v, hk, rfl, HO, gr⟩ := hrel
      obtain ⟨p0, p1, p2, p3, -⟩ := HO.out
      have hcl := cutL_le f (bs.take k)
      have htk : (bs.take k).length ≤ k := List.length_take_le _ _
      obtain ⟨hl, e0, e1, e2, e3⟩ := two_pairs gr
      have l0 := Nat.lt_of_succ_lt hl
      by_cases hkl : k < bs.length
      · obtain ⟨g, o, rfl, hg, hx⟩ := ha k hkl
        obtain ⟨c0, c1, c2, c3, c4, c5⟩ := six_gr hx (GB.trans gr) hg
        have HK : Hid (f ≤ (bs.getD k Bx.nil).o → cutL f (bs.take (k + 1)) = cutL f (bs.take k) ++ [cut1 f (bs.getD k Bx.nil)]) := fun h => cutL_keep f bs k hkl h
        have HD : Hid (¬ f ≤ (bs.getD k Bx.nil).o → cutL f (bs.take (k + 1)) = cutL f (bs.take k)) := fun h => cutL_drop f bs k hkl h
        clear hx
        generalize bs.getD k Bx.nil = b at *
        by_cases hb : b.o < f
        · have HD' : Hid (cutL f (bs.take (k + 1)) = cutL f (bs.take k)) := HD.out (by omega)
          clear HK HD
          go_wp2
          go_roundw
          case rel => exact ⟨k + 1, v, by omega, by go_num, by show OutIs _ _ _ _ _; rw [HD'.out]; exact out_alloc HO.out (.cells #[.int .i64 b.x, .int .i64 b.y, .int .i64 b.l, .int .i64 b.h, .int .i64 b.i, .int .i64 b.o] 36) p3, gr.alloc _⟩
          case measure => simp [intOf]; omega
        · have HK' : Hid (cutL f (bs.take (k + 1)) = cutL f (bs.take k) ++ [cut1 f b]) := HK.out (by omega)
          clear HK HD
          by_cases hlt : b.i < f
          · have HC : Hid (cut1 f b = ⟨b.x, b.y, b.l, b.h, f, b.o⟩) := by show cut1 f b = _; simp [cut1, hlt]
            go_wp2_with (at_builtin; refine wpList_append_own _ rfl (.tmp 38) (.tmp 40) 23 rfl (w.heap.size + 1 + 1 + 1) 36 i0 _ 6 48 Try.underlying23 hi hz0 hz1 hz2 rfl (by decide) _ _ _ rfl ((HO.out.2.2.2.2.alloc _).alloc _) ⟨wr.heap.size + 1, 0, none⟩ 1 1 (Bx.vals ⟨b.x, b.y, b.l, b.h, f, b.o⟩) rfl rfl (by exact news6 _ _ (by simp) ⟨b.x, b.y, b.l, b.h, f, b.o⟩ 36) (vals_one _) (by unfold maxLen; omega) (by omega) (by simp; omega) ?_; intro v' w2 hown' hgrow hnil; obtain ⟨av, cv, hav⟩ := owns_form hown'; subst hav; have hbl := Below.grown (Below.refl (w.heap.size + 1 + 1 + 1) _) hgrow (by simp; omega) (owns_block HO.out.2.2.2.2); have q1 := hbl.cell (p := ⟨w.heap.size + 1 + 1, 1, none⟩) (by simp); have q2 := hbl.frozen (p := ⟨w.heap.size + 1 + 1, 1, none⟩) (by simp))
            have R := out_next (out_alloc (out_alloc HO.out (.cells #[.int .i64 (⟨b.x, b.y, b.l, b.h, f, b.o⟩ : Bx).x, .int .i64 (⟨b.x, b.y, b.l, b.h, f, b.o⟩ : Bx).y, .int .i64 (⟨b.x, b.y, b.l, b.h, f, b.o⟩ : Bx).l, .int .i64 (⟨b.x, b.y, b.l, b.h, f, b.o⟩ : Bx).h, .int .i64 (⟨b.x, b.y, b.l, b.h, f, b.o⟩ : Bx).i, .int .i64 (⟨b.x, b.y, b.l, b.h, f, b.o⟩ : Bx).o] 36) p3) (.cells #[.int .i64 (⟨b.x, b.y, b.l, b.h, f, b.o⟩ : Bx).x, .int .i64 (⟨b.x, b.y, b.l, b.h, f, b.o⟩ : Bx).y, .int .i64 (⟨b.x, b.y, b.l, b.h, f, b.o⟩ : Bx).l, .int .i64 (⟨b.x, b.y, b.l, b.h, f, b.o⟩ : Bx).h, .int .i64 (⟨b.x, b.y, b.l, b.h, f, b.o⟩ : Bx).i, .int .i64 (⟨b.x, b.y, b.l, b.h, f, b.o⟩ : Bx).o] 36) (by simp; omega)) (HK'.out.trans (by rw [HC.out])) hown' hbl
            have R2 : Gr ((w.alloc (.cells #[.string s, .slice (some ⟨g, o, none⟩) bs.length cap] 25)).alloc (.cells #[.string ⟨#[]⟩, .slice none 0 0] 25)) w2 := Below.grown ((gr.alloc _).alloc _) hgrow (by simp; omega) (fun q hq => by have := owns_block HO.out.2.2.2.2 q hq; simp; omega)
            clear hown' hgrow hbl
            go_wp2
            go_roundw
            case rel => exact ⟨k + 1, _, by omega, by go_num, R, R2.setCell (by simp) _⟩
            case measure => simp [intOf]; omega
          · have HC : Hid (cut1 f b = ⟨b.x, b.y, b.l, b.h, b.i, b.o⟩) := by show cut1 f b = _; simp [cut1, hlt]
            go_wp2_with (at_builtin; refine wpList_append_own _ rfl (.tmp 38) (.tmp 40) 23 rfl (w.heap.size + 1 + 1 + 1) 36 i0 _ 6 48 Try.underlying23 hi hz0 hz1 hz2 rfl (by decide) _ _ _ rfl ((HO.out.2.2.2.2.alloc _).alloc _) ⟨wr.heap.size + 1, 0, none⟩ 1 1 (Bx.vals ⟨b.x, b.y, b.l, b.h, b.i, b.o⟩) rfl rfl (by exact news6 _ _ (by simp) ⟨b.x, b.y, b.l, b.h, b.i, b.o⟩ 36) (vals_one _) (by unfold maxLen; omega) (by omega) (by simp; omega) ?_; intro v' w2 hown' hgrow hnil; obtain ⟨av, cv, hav⟩ := owns_form hown'; subst hav; have hbl := Below.grown (Below.refl (w.heap.size + 1 + 1 + 1) _) hgrow (by simp; omega) (owns_block HO.out.2.2.2.2); have q1 := hbl.cell (p := ⟨w.heap.size + 1 + 1, 1, none⟩) (by simp); have q2 := hbl.frozen (p := ⟨w.heap.size + 1 + 1, 1, none⟩) (by simp))
            have R := out_next (out_alloc (out_alloc HO.out (.cells #[.int .i64 (⟨b.x, b.y, b.l, b.h, b.i, b.o⟩ : Bx).x, .int .i64 (⟨b.x, b.y, b.l, b.h, b.i, b.o⟩ : Bx).y, .int .i64 (⟨b.x, b.y, b.l, b.h, b.i, b.o⟩ : Bx).l, .int .i64 (⟨b.x, b.y, b.l, b.h, b.i, b.o⟩ : Bx).h, .int .i64 (⟨b.x, b.y, b.l, b.h, b.i, b.o⟩ : Bx).i, .int .i64 (⟨b.x, b.y, b.l, b.h, b.i, b.o⟩ : Bx).o] 36) p3) (.cells #[.int .i64 (⟨b.x, b.y, b.l, b.h, b.i, b.o⟩ : Bx).x, .int .i64 (⟨b.x, b.y, b.l, b.h, b.i, b.o⟩ : Bx).y, .int .i64 (⟨b.x, b.y, b.l, b.h, b.i, b.o⟩ : Bx).l, .int .i64 (⟨b.x, b.y, b.l, b.h, b.i, b.o⟩ : Bx).h, .int .i64 (⟨b.x, b.y, b.l, b.h, b.i, b.o⟩ : Bx).i, .int .i64 (⟨b.x, b.y, b.l, b.h, b.i, b.o⟩ : Bx).o] 36) (by simp; omega)) (HK'.out.trans (by rw [HC.out])) hown' hbl
            have R2 : Gr ((w.alloc (.cells #[.string s, .slice (some ⟨g, o, none⟩) bs.length cap] 25)).alloc (.cells #[.string ⟨#[]⟩, .slice none 0 0] 25)) w2 := Below.grown ((gr.alloc _).alloc _) hgrow (by simp; omega) (fun q hq => by have := owns_block HO.out.2.2.2.2 q hq; simp; omega)
            clear hown' hgrow hbl
            go_wp2
            go_roundw
            case rel => exact ⟨k + 1, _, by omega, by go_num, R, R2.setCell (by simp) _⟩
            case measure => simp [intOf]; omega
      · have hO := HO.out
        rw [cutL_all f bs k hkl] at hO
        obtain ⟨o0, o1, o2, o3, o4⟩ := hO
        have hL : OwnL ((w.alloc (.cells #[.string s, .slice a bs.length cap] 25)).alloc (.cells #[.string ⟨#[]⟩, .slice none 0 0] 25)) wr v (cutL f bs) := by
          obtain ⟨a1, c1, hv, hr, hb1⟩ := owns_boxes rfl o4
          exact ⟨a1, c1, hv, fun g o sp e => by obtain ⟨h0, h1, h2, h3, h4⟩ := hr g o sp e; exact ⟨h0, h1, by simp; omega, h3, h4⟩, hb1⟩
        have hL' := hL
        obtain ⟨av, cv, rfl, -⟩ := hL'
        obtain ⟨hc, hf⟩ := gr.cells
        clear e0 e1 e2 e3 p0 p1 p2 p3
        go_wp2
        refine bodyPost_ret (v := .agg #[.string s, .slice av (cutL f bs).length cv]) (by simp [results, Try.results21, go_sem, hc]) rfl ⟨⟨_, by rw [H1.out], by rw [H2.out]; exact ownL_old (w0 := w) (ownL_set (ownL_set hL _ _ (by simp)) _ _ (by simp)) GB.size⟩, ?_⟩
        exact ((GB.trans gr).setCell (by dsimp only; omega) _).setCell (by dsimp only; omega) _

end Go.Proofs.Ytpdcgjkfilohcaa
