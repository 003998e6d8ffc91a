import Derived.Test.YtpdcgjkfilohcabGreatIdxT
import Derived.Test.YtpdcgjkfilohcabGreatIdxR
namespace Go.Proofs.YtpdcgjkfilohcabGreat
open Go.RowKit Go.Sort Go.Maps
attribute [local go_sem ↓] Go.wp_at_zero Go.wp_at_succ
set_option linter.unusedSimpArgs false
set_option linter.unusedVariables false

/-- How great an index is. -/
theorem idx_count : ∀ (idx : List Cl) (all : List Pt), (idx.Pairwise fun a b => keyLt a.1 b.1 = true) → (∀ c ∈ idx, slotsAt c.1 all ≠ []) → idx.length ≤ all.length
  | [], _, _, _ => Nat.zero_le _
  | c :: idx, all, hp, hs => by
    obtain ⟨h1, h2⟩ := List.pairwise_cons.1 hp
    have hc := hs c List.mem_cons_self
    obtain ⟨s, l, e⟩ : ∃ s l, slotsAt c.1 all = s :: l := by
      cases h : slotsAt c.1 all with
      | nil => exact absurd h hc
      | cons s l => exact ⟨s, l, rfl⟩
    have hm : (c.1, s) ∈ all := mem_slotsAt.1 (by rw [e]; exact List.mem_cons_self)
    have hlt : (all.filter fun p => !(p.1 == c.1)).length < all.length := by
      refine List.length_filter_lt_length_iff_exists.2 ⟨_, hm, by simp⟩
    have ih := idx_count idx (all.filter fun p => !(p.1 == c.1)) h2 (fun d hd => by
      have hne : d.1 ≠ c.1 := fun e2 => by
        have h3 := h1 d hd
        rw [e2, keyLt_irrefl] at h3
        cases h3
      have e3 : slotsAt d.1 (all.filter fun p => !(p.1 == c.1)) = slotsAt d.1 all := by
        unfold slotsAt
        rw [List.filter_filter]
        congr 1
        refine List.filter_congr (fun p _ => ?_)
        by_cases e4 : p.1 = d.1
        · simp [e4, hne]
        · simp [e4]
      rw [e3]
      exact hs d (List.mem_cons_of_mem _ hd))
    rw [List.length_cons]
    omega
theorem idx_bound {all : List Pt} {idx : List Cl} (h : IsIdx all idx) : idx.length ≤ all.length ∧ ∀ c ∈ idx, c.2 ≠ [] ∧ c.2.length ≤ all.length := by
  refine ⟨idx_count idx all h.asc (fun c hc e => ?_), fun c hc => ?_⟩
  · obtain ⟨h1, h2, h3⟩ := h.slots c hc
    rw [e] at h3
    exact h1 (List.perm_nil.1 h3)
  · obtain ⟨h1, h2, h3⟩ := h.slots c hc
    exact ⟨h1, by rw [h3.length_eq]; exact slotsAt_le _ _⟩
theorem cx_bound {all : List Pt} {cs : List Cx} (h : IsIdx all (idxOf cs)) : cs.length ≤ all.length ∧ ∀ c ∈ cs, c.2.2 ≠ [] ∧ c.2.2.length ≤ all.length := by
  obtain ⟨h1, h2⟩ := idx_bound h
  exact ⟨by rw [← idx_len]; exact h1, fun c hc => h2 (c.1, c.2.2) (List.mem_map.2 ⟨c, hc, rfl⟩)⟩
theorem idxIs_small {ts : List Tb} {cs : List Cx} (h : IdxIs ts (idxOf cs)) : SmallX cs := by
  unfold IdxIs at h
  split at h
  · rename_i hsky
    obtain ⟨h1, h2⟩ := cx_bound h
    obtain ⟨-, -, hl⟩ := placed_good hsky ts.length (Nat.le_refl _)
    rw [List.take_length] at hl
    exact ⟨by omega, fun c hc => by have := (h2 c hc).2; omega⟩
  · have : cs = [] := by simpa [idxOf] using h
    subst this
    exact ⟨by simp, fun c hc => by simp at hc⟩
/-- What lies ahead of all that is turned. -/
theorem frame_low {w w' : World} {lo : Nat} (h : ∀ w0, Gr w0 w → w0.heap.size ≤ lo → Gr w0 w') (hlo : lo ≤ w.heap.size) : ∀ k, k < lo → w'.heap[k]? = w.heap[k]? := by
  intro k hk
  have h1 := h { w with heap := w.heap.extract 0 lo } ⟨rfl, rfl, rfl, by simp; omega, fun j hj => by
    have hj' : j < lo := by have := hj; simp at this; omega
    show w.heap[j]? = (w.heap.extract 0 lo)[j]?
    rw [Array.getElem?_extract_of_lt (by omega)]
    simp⟩ (by simp; omega)
  have h2 := h1.block k (by simp; omega)
  rw [h2]
  show (w.heap.extract 0 lo)[k]? = _
  rw [Array.getElem?_extract_of_lt (by omega)]
  simp
theorem frame_gr {w w0 w' : World} {lo : Nat} (h : ∀ w0, Gr w0 w → w0.heap.size ≤ lo → Gr w0 w') (g : Gr w0 w) (hlo : w0.heap.size ≤ lo) : Gr w0 w' := h w0 g hlo

/-- Between two boxes. -/
structure XAt (w wr : World) (v : Value) (cs : List Cx) (all : List Pt) : Prop where
  box : wr.heap[w.heap.size + 1]? = some (.cells #[v] 48 (0, 0))
  res : wr.heap[w.heap.size]? = some (.cells #[.slice none 0 0] 48 (0, 0))
  own : OwnX (w.heap.size + 1 + 1) wr v cs
  idx : IsIdx all (idxOf cs)
  gr : Gr w wr
  size : w.heap.size + 1 + 1 ≤ wr.heap.size
theorem xat_next {w wr w5 : World} {v v' : Value} {cs cs' : List Cx} {all : List Pt} {p : Pt} (h : XAt w wr v cs all) (hd : ∀ q ∈ all, Differ q.2 p.2) (hO : OwnX (w.heap.size + 1 + 1) w5 v' cs') (hP : PutTo cs cs' p) (hf : ∀ w0, Gr w0 wr.drew → w0.heap.size ≤ w.heap.size + 1 + 1 → Gr w0 w5) :
    XAt w (w5.setCell ⟨w.heap.size + 1, 0, none⟩ v') v' cs' (all ++ [p]) ∧ w5.heap[w.heap.size + 1]? = some (.cells #[v] 48 (0, 0)) ∧ Gr w w5 := by
  have hlow := frame_low hf (by have := h.size; exact this)
  have e1 : w5.heap[w.heap.size + 1]? = some (.cells #[v] 48 (0, 0)) := (hlow _ (by omega)).trans h.box
  have e0 : w5.heap[w.heap.size]? = some (.cells #[.slice none 0 0] 48 (0, 0)) := (hlow _ (by omega)).trans h.res
  have g5 : Gr w w5 := hf w h.gr.drew (by omega)
  refine ⟨⟨boxed_set e1 _, (Below.heap_setCell _ _ _ _ (by show w.heap.size ≠ w.heap.size + 1; omega)).trans e0, ownX_box hO ⟨_, _, e1⟩ _, hP.1 all h.idx hd, g5.setCell (by dsimp only; omega) _, ?_⟩, e1, g5⟩
  have := (Array.getElem?_eq_some_iff.1 e1).1
  simp
  omega

set_option maxRecDepth 100000 in
set_option maxHeartbeats 4000000 in
theorem specIndexOf_ok (a : Option Addr) (cap : Nat) (ts : List Tb) (w : World) (ha : Tubes w a ts) (hS : Small ts) (hsky : skyB ts = true) :
    Calls Tryz.prog 25 #[.slice a ts.length cap] w fun e w' => (∃ v cs, e = .returned (.agg #[v]) ∧ OwnX w.heap.size w' v cs ∧ IsIdx (placed ts) (idxOf cs)) ∧ Gr w w' := by
  have GB : Gr w ((w.alloc (.cells #[.slice none 0 0] 48)).alloc (.cells #[.slice none 0 0] 48)) := ((Gr.refl w).alloc _).alloc _
  have HSK := specSkyOk_any a cap ts _ (tubes_gr ha GB) hS
  rw [hsky] at HSK
  obtain ⟨hts, hbs, hasc⟩ := sky_parts hsky
  have HDF : Hid (∀ i, i < ts.length → ∀ j, ∀ q ∈ upTo ts i j, Differ q.2 (slotOf (ts.getD i Tb.nil).s j ((ts.getD i Tb.nil).bs.getD j Bx.nil)).2) := fun i hi j q hq => placed_new hasc hi j _ q hq
  clear hasc
  go_enter Tryz.func25, Tryz.ntmps25
  go_wp2_with fail
  refine HSK.mono ?_
  rintro e w1 ⟨rfl, g1⟩
  have X0 : XAt w w1 (.slice none 0 0) [] [] := ⟨(Below.block g1 _ (by simp)).trans (alloc_at _ _ _), (Below.block g1 _ (by simp; omega)).trans ((Below.heap_alloc _ _ _ (by simp)).trans (World.alloc_heap_new _ _)), ownX_nil _ _, idx_nil, GB.trans g1, by have := g1.size; simpa using this⟩
  clear HSK g1 GB
  go_wp2
  go_loopw [4] (fun n wr => ∃ (i : Nat) (v : Value) (cs : List Cx), i ≤ ts.length ∧ n = .int .i64 i ∧ Hid (XAt w wr v cs (placed (ts.take i)))) (fun n _ => ts.length - (intOf n).toNat)
  case atStart => exact ⟨0, _, _, Nat.zero_le _, rfl, X0⟩
  case round =>
    obtain ⟨i, v, cs, hi, rfl, HX⟩ := hrel
    rename World => wo
    by_cases hil : i < ts.length
    · obtain ⟨g, o, rfl, hg, hx, hbx⟩ := ha i hil
      have hbs1 := (hbs i hil).1
      have hok := (hbs i hil).2
      have hi0 : (0 : Int) ≤ (i : Int) := by omega
      have hi1 : (i : Int) < (ts.length : Int) := by omega
      have HU : Hid (∀ j, upTo ts i (j + 1) = upTo ts i j ++ [slotOf (ts.getD i Tb.nil).s j ((ts.getD i Tb.nil).bs.getD j Bx.nil)]) := upTo_succ ts i
      have HZ : Hid (upTo ts i 0 = placed (ts.take i)) := upTo_zero ts i
      have HA : Hid (upTo ts i (ts.getD i Tb.nil).bs.length = placed (ts.take (i + 1))) := upTo_all hil
      have HL : Hid (∀ j, j ≤ (ts.getD i Tb.nil).bs.length → (upTo ts i j).length ≤ 960) := fun j hj => upTo_len hsky hil hj
      have HD : Hid (∀ j, ∀ q ∈ upTo ts i j, Differ q.2 (slotOf (ts.getD i Tb.nil).s j ((ts.getD i Tb.nil).bs.getD j Bx.nil)).2) := HDF.out i hil
      generalize ts.getD i Tb.nil = t at *
      obtain ⟨s, ta, tc, bs⟩ := t
      simp only at hbx hbs1 HU HA HL HD
      have HTW := hidE hx
      have HX0 : Hid (XAt w wo v cs (upTo ts i 0)) := by show XAt _ _ _ _ _; rw [HZ.out]; exact HX.out
      clear hx hok HX HZ
      go_wp2
      go_loopw [5] (fun n wq => ∃ (j : Nat) (v : Value) (cs : List Cx), j ≤ bs.length ∧ n = .int .i64 j ∧ Hid (XAt w wq v cs (upTo ts i j))) (fun n _ => bs.length - (intOf n).toNat)
      case atStart => exact ⟨0, v, cs, Nat.zero_le _, rfl, HX0⟩
      case round =>
        rename World => wq
        obtain ⟨j, v, cs, hj, rfl, HQ⟩ := hrel
        have gq := HQ.out.gr
        obtain ⟨c0, c1⟩ := two_gr (t := ⟨s, ta, tc, bs⟩) HTW.out gq hg
        simp only at c0 c1
        by_cases hjl : j < bs.length
        · obtain ⟨gb, ob, rfl, hgb, hsix⟩ := hbx j hjl
          have hUs := HU.out j
          have hLn := HL.out j hj
          have hDj := HD.out j
          generalize bs.getD j Bx.nil = b at *
          have hj0 : (0 : Int) ≤ (j : Int) := by omega
          have hj1 : (j : Int) < (bs.length : Int) := by omega
          obtain ⟨hcl, hcs⟩ := cx_bound HQ.out.idx
          have KS : Hid (∀ w', Gr w w' → Gr w w' ∧ w'.cell? ⟨g, o + i * 2, none⟩ = some (.string s) ∧ w'.cell? ⟨g, o + i * 2 + 1, none⟩ = some (.slice (some ⟨gb, ob, none⟩) bs.length tc) ∧ w'.cell? ⟨gb, ob + j * 6, none⟩ = some (.int .i64 b.x) ∧ w'.cell? ⟨gb, ob + j * 6 + 1, none⟩ = some (.int .i64 b.y) ∧ w'.cell? ⟨gb, ob + j * 6 + 2, none⟩ = some (.int .i64 b.l) ∧ w'.cell? ⟨gb, ob + j * 6 + 3, none⟩ = some (.int .i64 b.h) ∧ w'.cell? ⟨gb, ob + j * 6 + 4, none⟩ = some (.int .i64 b.i) ∧ w'.cell? ⟨gb, ob + j * 6 + 5, none⟩ = some (.int .i64 b.o)) := fun w' h => by
            obtain ⟨z0, z1⟩ := two_gr (t := ⟨s, some ⟨gb, ob, none⟩, tc, bs⟩) HTW.out h hg
            exact ⟨h, z0, z1, cells_six (six_gr hsix h hgb)⟩
          have HPUT : Hid (Calls Tryz.prog 47 #[.agg #[v], .agg #[.int .i64 b.x, .int .i64 b.y, .int .i64 b.l, .int .i64 b.h, .int .i64 b.i, .int .i64 b.o], .string s, .int .i64 j] wq.drew fun e w' => (∃ v' cs', e = .returned (.agg #[v']) ∧ OwnX (w.heap.size + 1 + 1) w' v' cs' ∧ PutTo cs cs' (slotOf s j b)) ∧ ∀ w0, Gr w0 wq.drew → w0.heap.size ≤ w.heap.size + 1 + 1 → Gr w0 w') := l5Put_any (w.heap.size + 1 + 1) v cs b s j wq.drew (ownX_gr HQ.out.own (Gr.refl _).drew) HQ.out.size (by omega) (fun c hc => ⟨(hcs c hc).1, by have := (hcs c hc).2; omega⟩)
          have HNX : Hid (∀ (w5 : World) (v' : Value) (cs' : List Cx), OwnX (w.heap.size + 1 + 1) w5 v' cs' → PutTo cs cs' (slotOf s j b) → (∀ w0, Gr w0 wq.drew → w0.heap.size ≤ w.heap.size + 1 + 1 → Gr w0 w5) → XAt w (w5.setCell ⟨w.heap.size + 1, 0, none⟩ v') v' cs' (upTo ts i (j + 1)) ∧ w5.heap[w.heap.size + 1]? = some (.cells #[v] 48 (0, 0)) ∧ Gr w w5) := fun w5 v' cs' h1 h2 h3 => by
            rw [hUs]
            exact xat_next HQ.out hDj h1 h2 h3
          have bx : wq.cell? ⟨w.heap.size + 1, 0, none⟩ = some v := by unfold World.cell?; rw [HQ.out.box]; rfl
          obtain ⟨av, cv, ev⟩ := row_form HQ.out.own.row
          have hl := HQ.out.own.row
          subst ev
          have HBX := hidE bx
          clear hsix hcs hDj hUs bx hl
          go_upto_region 10 with fail
          clear c0 c1
          have hH := KS.out _ gq.drew
          refine wp_region_held (S := fun w' => Gr w w' ∧ w'.cell? ⟨g, o + i * 2, none⟩ = some (.string s) ∧ w'.cell? ⟨g, o + i * 2 + 1, none⟩ = some (.slice (some ⟨gb, ob, none⟩) bs.length tc) ∧ w'.cell? ⟨gb, ob + j * 6, none⟩ = some (.int .i64 b.x) ∧ w'.cell? ⟨gb, ob + j * 6 + 1, none⟩ = some (.int .i64 b.y) ∧ w'.cell? ⟨gb, ob + j * 6 + 2, none⟩ = some (.int .i64 b.l) ∧ w'.cell? ⟨gb, ob + j * 6 + 3, none⟩ = some (.int .i64 b.h) ∧ w'.cell? ⟨gb, ob + j * 6 + 4, none⟩ = some (.int .i64 b.i) ∧ w'.cell? ⟨gb, ob + j * 6 + 5, none⟩ = some (.int .i64 b.o)) (by kernel_rfl) ?_
          change wpAnyH _ _ _ _ _ _ _ _ (World.drew _)
          refine takeI (i := 1) (d := 28) (v := .slice (some ⟨g, o, none⟩) ts.length cap) rfl rfl (by kernel_rfl) (by kernel_rfl) (by kernel_rfl) (fun _ _ _ h => h) hH (Or.inl ⟨by rfl, by rintro w' ⟨-, s0, s1, s2, s3, s4, s5, s6, s7⟩; go_simp⟩) ?_
          simp only [Act.put, List.setIfInBounds_toArray, List.set_cons_zero, List.set_cons_succ]
          refine takeI (i := 2) (d := 29) (v := .int .i64 i) rfl rfl (by kernel_rfl) (by kernel_rfl) (by kernel_rfl) (fun _ _ _ h => h) hH (Or.inl ⟨by rfl, by rintro w' ⟨-, s0, s1, s2, s3, s4, s5, s6, s7⟩; go_simp⟩) ?_
          simp only [Act.put, List.setIfInBounds_toArray, List.set_cons_zero, List.set_cons_succ]
          refine takeI (i := 3) (d := 30) (v := .pointer (some ⟨g, o + i * 2, none⟩)) rfl rfl (by kernel_rfl) (by kernel_rfl) (by kernel_rfl) (fun _ _ _ h => h) hH (Or.inl ⟨by rfl, by rintro w' ⟨-, s0, s1, s2, s3, s4, s5, s6, s7⟩; go_simp⟩) ?_
          simp only [Act.put, List.setIfInBounds_toArray, List.set_cons_zero, List.set_cons_succ]
          refine takeI (i := 4) (d := 31) (v := .pointer (some ⟨g, o + i * 2 + 1, none⟩)) rfl rfl (by kernel_rfl) (by kernel_rfl) (by kernel_rfl) (fun _ _ _ h => h) hH (Or.inl ⟨by rfl, by rintro w' ⟨-, s0, s1, s2, s3, s4, s5, s6, s7⟩; go_simp⟩) ?_
          simp only [Act.put, List.setIfInBounds_toArray, List.set_cons_zero, List.set_cons_succ]
          refine takeI (i := 5) (d := 32) (v := .slice (some ⟨gb, ob, none⟩) bs.length tc) rfl rfl (by kernel_rfl) (by kernel_rfl) (by kernel_rfl) (fun _ _ _ h => h) hH (Or.inl ⟨by rfl, by rintro w' ⟨-, s0, s1, s2, s3, s4, s5, s6, s7⟩; go_simp⟩) ?_
          simp only [Act.put, List.setIfInBounds_toArray, List.set_cons_zero, List.set_cons_succ]
          refine takeI (i := 6) (d := 33) (v := .int .i64 j) rfl rfl (by kernel_rfl) (by kernel_rfl) (by kernel_rfl) (fun _ _ _ h => h) hH (Or.inl ⟨by rfl, by rintro w' ⟨-, s0, s1, s2, s3, s4, s5, s6, s7⟩; go_simp⟩) ?_
          simp only [Act.put, List.setIfInBounds_toArray, List.set_cons_zero, List.set_cons_succ]
          refine takeI (i := 7) (d := 34) (v := .pointer (some ⟨gb, ob + j * 6, none⟩)) rfl rfl (by kernel_rfl) (by kernel_rfl) (by kernel_rfl) (fun _ _ _ h => h) hH (Or.inl ⟨by rfl, by rintro w' ⟨-, s0, s1, s2, s3, s4, s5, s6, s7⟩; go_simp⟩) ?_
          simp only [Act.put, List.setIfInBounds_toArray, List.set_cons_zero, List.set_cons_succ]
          refine takeI (i := 8) (d := 35) (v := .agg #[.int .i64 b.x, .int .i64 b.y, .int .i64 b.l, .int .i64 b.h, .int .i64 b.i, .int .i64 b.o]) rfl rfl (by kernel_rfl) (by kernel_rfl) (by kernel_rfl) (fun _ _ _ h => h) hH (Or.inl ⟨by rfl, by rintro w' ⟨-, s0, s1, s2, s3, s4, s5, s6, s7⟩; go_simp⟩) ?_
          simp only [Act.put, List.setIfInBounds_toArray, List.set_cons_zero, List.set_cons_succ]
          refine takeI (i := 9) (d := 36) (v := .slice (some ⟨g, o, none⟩) ts.length cap) rfl rfl (by kernel_rfl) (by kernel_rfl) (by kernel_rfl) (fun _ _ _ h => h) hH (Or.inl ⟨by rfl, by rintro w' ⟨-, s0, s1, s2, s3, s4, s5, s6, s7⟩; go_simp⟩) ?_
          simp only [Act.put, List.setIfInBounds_toArray, List.set_cons_zero, List.set_cons_succ]
          refine takeI (i := 10) (d := 37) (v := .int .i64 i) rfl rfl (by kernel_rfl) (by kernel_rfl) (by kernel_rfl) (fun _ _ _ h => h) hH (Or.inl ⟨by rfl, by rintro w' ⟨-, s0, s1, s2, s3, s4, s5, s6, s7⟩; go_simp⟩) ?_
          simp only [Act.put, List.setIfInBounds_toArray, List.set_cons_zero, List.set_cons_succ]
          refine takeI (i := 11) (d := 38) (v := .pointer (some ⟨g, o + i * 2, none⟩)) rfl rfl (by kernel_rfl) (by kernel_rfl) (by kernel_rfl) (fun _ _ _ h => h) hH (Or.inl ⟨by rfl, by rintro w' ⟨-, s0, s1, s2, s3, s4, s5, s6, s7⟩; go_simp⟩) ?_
          simp only [Act.put, List.setIfInBounds_toArray, List.set_cons_zero, List.set_cons_succ]
          refine takeI (i := 12) (d := 39) (v := .pointer (some ⟨g, o + i * 2, none⟩)) rfl rfl (by kernel_rfl) (by kernel_rfl) (by kernel_rfl) (fun _ _ _ h => h) hH (Or.inl ⟨by rfl, by rintro w' ⟨-, s0, s1, s2, s3, s4, s5, s6, s7⟩; go_simp⟩) ?_
          simp only [Act.put, List.setIfInBounds_toArray, List.set_cons_zero, List.set_cons_succ]
          refine takeI (i := 13) (d := 40) (v := .string s) rfl rfl (by kernel_rfl) (by kernel_rfl) (by kernel_rfl) (fun _ _ _ h => h) hH (Or.inl ⟨by rfl, by rintro w' ⟨-, s0, s1, s2, s3, s4, s5, s6, s7⟩; go_simp⟩) ?_
          simp only [Act.put, List.setIfInBounds_toArray, List.set_cons_zero, List.set_cons_succ]
          refine takeI (i := 14) (d := 41) (v := .int .i64 j) rfl rfl (by kernel_rfl) (by kernel_rfl) (by kernel_rfl) (fun _ _ _ h => h) hH (Or.inl ⟨by rfl, by rintro w' ⟨-, s0, s1, s2, s3, s4, s5, s6, s7⟩; go_simp⟩) ?_
          simp only [Act.put, List.setIfInBounds_toArray, List.set_cons_zero, List.set_cons_succ]
          have bx := HBX.out
          refine wpAnyH_ready (rs := [0]) (by kernel_rfl) (by simp) ?_
          refine AllReadyH.cons (o := _) rfl (fun K hK => ?_) AllReadyH.nil
          go_simp
          refine hK.out _ _ (KS.out _ gq.drew) (fun hH => ?_)
          clear hK K bx
          (try simp only [Act.put, List.setIfInBounds_toArray, List.set_cons_zero, List.set_cons_succ])
          refine wpAnyH_ready (rs := [15]) (by kernel_rfl) (by simp) ?_
          refine AllReadyH.cons (o := _) rfl (fun K hK => ?_) AllReadyH.nil
          refine step_call rfl 47 #[.agg #[.slice av cs.length cv], .agg #[.int .i64 b.x, .int .i64 b.y, .int .i64 b.l, .int .i64 b.h, .int .i64 b.i, .int .i64 b.o], .string s, .int .i64 j] (by go_simp) HPUT.out ?_
          rintro e w5 ⟨⟨v5, cs5, rfl, h5, hp5⟩, hf5⟩
          refine ⟨_, rfl, ?_⟩
          obtain ⟨a5, c5, e5⟩ := row_form h5.row
          subst e5
          obtain ⟨X5, b5, G5⟩ := HNX.out w5 _ cs5 h5 hp5 hf5
          have HX5 := hidE X5
          have k5 : w5.cell? ⟨w.heap.size + 1, 0, none⟩ = some (.slice av cs.length cv) := by unfold World.cell?; rw [b5]; rfl
          have f5 : w5.frozen? ⟨w.heap.size + 1, 0, none⟩ = false := by unfold World.frozen?; rw [b5]; rfl
          refine hK.out _ _ (KS.out _ G5) (fun hH => ?_)
          clear hK K h5 hp5 hf5 X5 b5
          (try simp only [Act.put, List.setIfInBounds_toArray, List.set_cons_zero, List.set_cons_succ])
          refine wpAnyH_ready (rs := [16]) (by kernel_rfl) (by simp) ?_
          refine AllReadyH.cons (o := _) rfl (fun K hK => ?_) AllReadyH.nil
          go_simp
          refine hK.out _ _ (KS.out _ HX5.out.gr) (fun hH => ?_)
          clear hK K f5 k5
          (try simp only [Act.put, List.setIfInBounds_toArray, List.set_cons_zero, List.set_cons_succ])
          refine wpAnyH_done (by kernel_rfl) ?_ _
          go_wp2
          go_roundw
          case rel => exact ⟨j + 1, _, cs5, by omega, by go_num, HX5⟩
          case measure => simp [intOf]; omega
        · have ej : j = bs.length := by omega
          subst ej
          have R1 : Hid (XAt w wq v cs (placed (ts.take (i + 1)))) := by
            show XAt _ _ _ _ _
            rw [← HA.out]
            exact HQ.out
          clear HQ gq
          go_wp2
          go_roundw
          case rel => exact ⟨i + 1, v, cs, by omega, by go_num, R1⟩
          case measure => simp [intOf]; omega
    · have ei : i = ts.length := by omega
      subst ei
      have HQ : Hid (XAt w wo v cs (placed ts)) := by
        have h9 := HX.out
        rw [List.take_length] at h9
        exact h9
      have bx : wo.cell? ⟨w.heap.size + 1, 0, none⟩ = some v := by unfold World.cell?; rw [HQ.out.box]; rfl
      have rx : wo.cell? ⟨w.heap.size, 0, none⟩ = some (.slice none 0 0) := by unfold World.cell?; rw [HQ.out.res]; rfl
      have rf : wo.frozen? ⟨w.heap.size, 0, none⟩ = false := by unfold World.frozen?; rw [HQ.out.res]; rfl
      obtain ⟨av, cv, ev⟩ := row_form HQ.out.own.row
      subst ev
      have HF : Hid (OwnX w.heap.size (wo.setCell ⟨w.heap.size, 0, none⟩ (.slice av cs.length cv)) (.slice av cs.length cv) cs ∧ Gr w (wo.setCell ⟨w.heap.size, 0, none⟩ (.slice av cs.length cv))) := by
        have h8 := ownX_box HQ.out.own ⟨_, _, HQ.out.res⟩ (.slice av cs.length cv)
        exact ⟨⟨own_lo h8.row (by omega), fun c hc => own_lo (h8.slots c hc) (by omega), h8.apart⟩, HQ.out.gr.setCell (Nat.le_refl _) _⟩
      have HI := hidE HQ.out.idx
      clear HX
      go_wp2
      exact bodyPost_ret (v := .agg #[.slice av cs.length cv]) (by simp [results, Tryz.results25, go_sem, rx]) rfl ⟨⟨_, cs, rfl, HF.out.1, HI.out⟩, HF.out.2⟩
set_option maxHeartbeats 1000000 in
theorem specIndexOf_any (a : Option Addr) (cap : Nat) (ts : List Tb) (w : World) (ha : Tubes w a ts) (hS : Small ts) :
    Calls Tryz.prog 25 #[.slice a ts.length cap] w fun e w' => (∃ v cs, e = .returned (.agg #[v]) ∧ OwnX w.heap.size w' v cs ∧ IdxIs ts (idxOf cs)) ∧ Gr w w' := by
  cases hsky : skyB ts
  · have GB : Gr w ((w.alloc (.cells #[.slice none 0 0] 48)).alloc (.cells #[.slice none 0 0] 48)) := ((Gr.refl w).alloc _).alloc _
    have HSK := specSkyOk_any a cap ts _ (tubes_gr ha GB) hS
    rw [hsky] at HSK
    have HI : Hid (IdxIs ts (idxOf [])) := by
      show IdxIs ts (idxOf [])
      unfold IdxIs
      rw [hsky]
      rfl
    go_enter Tryz.func25, Tryz.ntmps25
    go_wp2_with fail
    refine HSK.mono ?_
    rintro e w1 ⟨rfl, g1⟩
    have e1 : w1.heap[w.heap.size + 1]? = some (.cells #[.slice none 0 0] 48 (0, 0)) := (Below.block g1 _ (by simp)).trans (alloc_at _ _ _)
    have e0 : w1.heap[w.heap.size]? = some (.cells #[.slice none 0 0] 48 (0, 0)) := (Below.block g1 _ (by simp; omega)).trans ((Below.heap_alloc _ _ _ (by simp)).trans (World.alloc_heap_new _ _))
    have bx : w1.cell? ⟨w.heap.size + 1, 0, none⟩ = some (.slice none 0 0) := by unfold World.cell?; rw [e1]; rfl
    have rx : w1.cell? ⟨w.heap.size, 0, none⟩ = some (.slice none 0 0) := by unfold World.cell?; rw [e0]; rfl
    have rf : w1.frozen? ⟨w.heap.size, 0, none⟩ = false := by unfold World.frozen?; rw [e0]; rfl
    have HG : Hid (Gr w (w1.setCell ⟨w.heap.size, 0, none⟩ (.slice none 0 0))) := (GB.trans g1).setCell (Nat.le_refl _) _
    clear e0 e1 HSK
    go_wp2
    exact bodyPost_ret (v := .agg #[.slice none 0 0]) (by simp [results, Tryz.results25, go_sem, rx]) rfl ⟨⟨_, [], rfl, ownX_nil _ _, HI.out⟩, HG.out⟩
  · refine (specIndexOf_ok a cap ts w ha hS hsky).mono ?_
    rintro e w' ⟨⟨v, cs, rfl, h1, h2⟩, g⟩
    refine ⟨⟨v, cs, rfl, h1, ?_⟩, g⟩
    unfold IdxIs
    rw [hsky]
    exact h2
end Go.Proofs.YtpdcgjkfilohcabGreat
