import Derived.Test.YtpdcgjkfilohcabGreatAskAC
namespace Go.Proofs.YtpdcgjkfilohcabGreat
open Go.RowKit Go.Sort Go.Maps
attribute [local go_sem ↓] Go.wp_at_zero Go.wp_at_succ
set_option linter.unusedSimpArgs false
set_option linter.unusedVariables false

/-! The first clash with a name: the walk. -/

def kV (s t : ByteArray) : Option K3 → Array Value
  | none => #[.string ⟨#[]⟩, .string ⟨#[]⟩, .int .i64 0, .int .i64 0, .int .i64 0]
  | some k => k3V s t k
theorem bestK_zero {p : Nat} {wr : World} {s t : ByteArray} (h : BestK p wr s t none) : BestK p (put5 wr p (.string ⟨#[]⟩) (.string ⟨#[]⟩) (.int .i64 0) (.int .i64 0) (.int .i64 0)) s t none := ⟨five_put h.1 _ _ _ _ _, free5_put h.2.1 _ _ _ _ _ _, by rw [put5_size]; exact h.2.2⟩

/-- A slot's variable. -/
def SlotAt (w : World) (p : Nat) (s : Sl) : Prop :=
  (w.cell? ⟨p, 0, none⟩ = some (.int .i64 s.i) ∧ w.cell? ⟨p, 1, none⟩ = some (.int .i64 s.o) ∧ w.cell? ⟨p, 2, none⟩ = some (.int .i64 s.l) ∧ w.cell? ⟨p, 3, none⟩ = some (.int .i64 s.h) ∧ w.cell? ⟨p, 4, none⟩ = some (.string s.s) ∧ w.cell? ⟨p, 5, none⟩ = some (.int .i64 s.p)) ∧ p < w.heap.size
theorem slotAt_gr {w wr : World} {p : Nat} {s : Sl} (h : SlotAt w p s) (gr : Gr w wr) : SlotAt wr p s := by
  obtain ⟨hc, -⟩ := gr.cells
  unfold SlotAt at *
  simp only [hc p _ h.2]
  exact ⟨h.1, Nat.lt_of_lt_of_le h.2 gr.size⟩
theorem slotAt_new (w : World) (s : Sl) (T : TypeId) : SlotAt (w.alloc (.cells #[.int .i64 s.i, .int .i64 s.o, .int .i64 s.l, .int .i64 s.h, .string s.s, .int .i64 s.p] T)) w.heap.size s := by
  refine ⟨⟨?_, ?_, ?_, ?_, ?_, ?_⟩, by simp⟩ <;> simp
theorem slotAt_put {w : World} {p q : Nat} {s : Sl} (h : SlotAt w p s) (hq : p ≠ q) (v0 v1 v2 v3 v4 : Value) : SlotAt (put5 w q v0 v1 v2 v3 v4) p s := by
  have key : ∀ o, (put5 w q v0 v1 v2 v3 v4).cell? ⟨p, o, none⟩ = w.cell? ⟨p, o, none⟩ := fun o => by
    unfold put5
    rw [cell_off _ _ _ _ _ _ (Or.inl hq), cell_off _ _ _ _ _ _ (Or.inl hq), cell_off _ _ _ _ _ _ (Or.inl hq), cell_off _ _ _ _ _ _ (Or.inl hq), cell_off _ _ _ _ _ _ (Or.inl hq)]
  unfold SlotAt at *
  simp only [key]
  exact ⟨h.1, by rw [put5_size]; exact h.2⟩

set_option maxRecDepth 100000 in
set_option maxHeartbeats 8000000 in
theorem l5First_any (lo : Nat) (v : Value) (cs : List Cx) (tn nm : ByteArray) (ba : Option Addr) (bc : Nat) (bs : List Bx) (w : World) (h : OwnX lo w v cs) (hS : SmallX cs) (hb : Boxes w ba bs) (hbn : bs.length ≤ 1048576) :
    Calls Tryz.prog 56 #[.agg #[v], .agg #[.string tn, .slice ba bs.length bc], .string nm] w fun e w' => e = .returned (.tuple #[.agg (kV tn nm (least (cands bs nm (ptsOf (idxOf cs))))), .bool (least (cands bs nm (ptsOf (idxOf cs)))).isSome]) ∧ Gr w w' := by
  obtain ⟨a, cap, rfl⟩ := row_form h.row
  have HCE : Hid (∀ i, i < cs.length → ∃ g sa sc, a = some ⟨g, 0, none⟩ ∧ ∀ w', Gr w w' → (w'.cell? ⟨g, i * 3, none⟩ = some (.int .i64 ((idxOf cs).getD i Cl.nil).1.1) ∧ w'.cell? ⟨g, i * 3 + 1, none⟩ = some (.int .i64 ((idxOf cs).getD i Cl.nil).1.2) ∧ w'.cell? ⟨g, i * 3 + 2, none⟩ = some (.slice sa (((idxOf cs).getD i Cl.nil).2.length) sc)) ∧ Slots w' sa ((idxOf cs).getD i Cl.nil).2) := fun i hi => by
    obtain ⟨-, hc⟩ := own_cells h
    obtain ⟨g, sa, sc, e, hg, -, c0, c1, c2, -, hsl, -⟩ := hc i hi
    have e2 : (idxOf cs).getD i Cl.nil = ((cs.getD i Cx.nil).1, (cs.getD i Cx.nil).2.2) := by rw [List.getD_eq_getElem?_getD, idx_get hi]; rfl
    rw [e2]
    exact ⟨g, sa, sc, e, fun w' g' => ⟨⟨(g'.cells.1 _ _ hg).trans c0, (g'.cells.1 _ _ hg).trans c1, (g'.cells.1 _ _ hg).trans c2⟩, slots_gr hsl g'⟩⟩
  have HSL : Hid (∀ i, i < cs.length → ((idxOf cs).getD i Cl.nil).2.length ≤ 1048576) := fun i hi => by
    have e2 : (idxOf cs).getD i Cl.nil = ((cs.getD i Cx.nil).1, (cs.getD i Cx.nil).2.2) := by rw [List.getD_eq_getElem?_getD, idx_get hi]; rfl
    rw [e2]
    exact hS.2 _ (List.mem_of_getElem? (cx_get hi))
  have hn := hS.1
  have hxl : (idxOf cs).length = cs.length := idx_len cs
  have G1 : Gr w (((w.alloc (.cells #[.slice a cs.length cap] 48)).alloc (.cells #[.string tn, .slice ba bs.length bc] 40)).alloc (.cells #[.string ⟨#[]⟩, .string ⟨#[]⟩, .int .i64 0, .int .i64 0, .int .i64 0] 61)) := (((Gr.refl w).alloc _).alloc _).alloc _
  have HG1 := hidE G1
  have eB : (((w.alloc (.cells #[.slice a cs.length cap] 48)).alloc (.cells #[.string tn, .slice ba bs.length bc] 40)).alloc (.cells #[.string ⟨#[]⟩, .string ⟨#[]⟩, .int .i64 0, .int .i64 0, .int .i64 0] 61)).heap.size = w.heap.size + 1 + 1 + 1 := by simp
  have HBX : Hid (∀ w', Gr (((w.alloc (.cells #[.slice a cs.length cap] 48)).alloc (.cells #[.string tn, .slice ba bs.length bc] 40)).alloc (.cells #[.string ⟨#[]⟩, .string ⟨#[]⟩, .int .i64 0, .int .i64 0, .int .i64 0] 61)) w' → w'.cell? ⟨w.heap.size, 0, none⟩ = some (.slice a cs.length cap) ∧ w'.cell? ⟨w.heap.size + 1, 0, none⟩ = some (.string tn) ∧ w'.cell? ⟨w.heap.size + 1, 1, none⟩ = some (.slice ba bs.length bc)) := fun w' g' => by
    refine ⟨?_, ?_, ?_⟩
    · exact (g'.cells.1 _ _ (by simp <;> omega)).trans ((cell_old (by simp <;> omega)).trans ((cell_old (by simp)).trans ((cell_new (by simp)).trans rfl)))
    · exact (g'.cells.1 _ _ (by simp)).trans ((cell_old (by simp)).trans ((cell_new (by simp)).trans rfl))
    · exact (g'.cells.1 _ _ (by simp)).trans ((cell_old (by simp)).trans ((cell_new (by simp)).trans rfl))
  have HB0 : Hid (BestK (w.heap.size + 1 + 1 + 1) ((((w.alloc (.cells #[.slice a cs.length cap] 48)).alloc (.cells #[.string tn, .slice ba bs.length bc] 40)).alloc (.cells #[.string ⟨#[]⟩, .string ⟨#[]⟩, .int .i64 0, .int .i64 0, .int .i64 0] 61)).alloc (.cells #[.string ⟨#[]⟩, .string ⟨#[]⟩, .int .i64 0, .int .i64 0, .int .i64 0] 61)) tn nm none) := by
    show BestK _ _ _ _ none
    have := five_new (Gr.refl ((((w.alloc (.cells #[.slice a cs.length cap] 48)).alloc (.cells #[.string tn, .slice ba bs.length bc] 40)).alloc (.cells #[.string ⟨#[]⟩, .string ⟨#[]⟩, .int .i64 0, .int .i64 0, .int .i64 0] 61)).alloc (.cells #[.string ⟨#[]⟩, .string ⟨#[]⟩, .int .i64 0, .int .i64 0, .int .i64 0] 61)))
    rw [eB] at this
    exact this
  have HG5 : Hid (Gr (((w.alloc (.cells #[.slice a cs.length cap] 48)).alloc (.cells #[.string tn, .slice ba bs.length bc] 40)).alloc (.cells #[.string ⟨#[]⟩, .string ⟨#[]⟩, .int .i64 0, .int .i64 0, .int .i64 0] 61)) ((((w.alloc (.cells #[.slice a cs.length cap] 48)).alloc (.cells #[.string tn, .slice ba bs.length bc] 40)).alloc (.cells #[.string ⟨#[]⟩, .string ⟨#[]⟩, .int .i64 0, .int .i64 0, .int .i64 0] 61)).alloc (.cells #[.string ⟨#[]⟩, .string ⟨#[]⟩, .int .i64 0, .int .i64 0, .int .i64 0] 61))) := (Gr.refl _).alloc _
  have HBS := hidE hb
  generalize hX : idxOf cs = idx at *
  clear h hS G1 hX hb
  go_enter Tryz.func56, Tryz.ntmps56
  go_wp2
  go_loopw [9, 10] (fun f n wr => ∃ i : Nat, i ≤ cs.length ∧ n = .int .i64 i ∧ f = .bool (least (cands bs nm (ptsOf (idx.take i)))).isSome ∧ Hid (BestK (w.heap.size + 1 + 1 + 1) wr tn nm (least (cands bs nm (ptsOf (idx.take i))))) ∧ Gr (((w.alloc (.cells #[.slice a cs.length cap] 48)).alloc (.cells #[.string tn, .slice ba bs.length bc] 40)).alloc (.cells #[.string ⟨#[]⟩, .string ⟨#[]⟩, .int .i64 0, .int .i64 0, .int .i64 0] 61)) wr) (fun _ n _ => cs.length - (intOf n).toNat)
  case atStart => exact ⟨0, Nat.zero_le _, rfl, rfl, HB0, HG5.out⟩
  case round =>
    obtain ⟨i, hic, rfl, rfl, HB, gr⟩ := hrel
    obtain ⟨b0, b1, b2⟩ := HBX.out _ gr
    clear HB0 HG5
    by_cases hil : i < cs.length
    · obtain ⟨g, sa, sc, rfl, hC⟩ := HCE.out i hil
      have HC := hidE hC
      obtain ⟨c0, c1, c2⟩ := (hC _ (HG1.out.trans gr)).1
      have hsl := HSL.out i hil
      have HUZ : Hid (least (cands bs nm (ptsOf (idx.take i))) = least (cands bs nm (upX idx i 0))) := by
        show _ = _
        rw [upX_zero]
      have HUP : Hid (least (cands bs nm (upX idx i (idx.getD i Cl.nil).2.length)) = least (cands bs nm (ptsOf (idx.take (i + 1))))) := by
        show _ = _
        rw [upX_all (by omega)]
      have HSU := hidE (fun k hk => upX_succ (idx := idx) (i := i) (k := k) hk)
      have hi0 : (0 : Int) ≤ (i : Int) := by omega
      have hi1 : (i : Int) < (cs.length : Int) := by omega
      have HBZ : Hid (BestK (w.heap.size + 1 + 1 + 1) wr tn nm (least (cands bs nm (upX idx i 0)))) := by
        show BestK _ _ _ _ _
        rw [← HUZ.out]
        exact HB.out
      rw [HUZ.out]
      generalize idx.getD i Cl.nil = cl at *
      obtain ⟨cp, ss⟩ := cl
      dsimp only at *
      clear hC HB HCE HSL
      go_wp2
      go_loopw [9, 11] (fun f kk wr => ∃ k : Nat, k ≤ ss.length ∧ kk = .int .i64 k ∧ f = .bool (least (cands bs nm (upX idx i k))).isSome ∧ Hid (BestK (w.heap.size + 1 + 1 + 1) wr tn nm (least (cands bs nm (upX idx i k)))) ∧ Gr (((w.alloc (.cells #[.slice (some ⟨g, 0, none⟩) cs.length cap] 48)).alloc (.cells #[.string tn, .slice ba bs.length bc] 40)).alloc (.cells #[.string ⟨#[]⟩, .string ⟨#[]⟩, .int .i64 0, .int .i64 0, .int .i64 0] 61)) wr) (fun _ kk _ => ss.length - (intOf kk).toNat)
      case atStart => exact ⟨0, Nat.zero_le _, rfl, rfl, HBZ, gr⟩
      case round =>
        clear HBZ gr b0 b1 b2 c0 c1 c2
        obtain ⟨k, hk, rfl, rfl, HB, gr⟩ := hrel
        obtain ⟨b0, b1, b2⟩ := HBX.out _ gr
        obtain ⟨c0, c1, c2⟩ := (HC.out _ (HG1.out.trans gr)).1
        by_cases hkl : k < ss.length
        · obtain ⟨gs, os, rfl, hgs, hx⟩ := (HC.out _ (HG1.out.trans gr)).2 k hkl
          obtain ⟨x0, x1, x2, x3, x4, x5⟩ := hx
          have hk0 : (0 : Int) ≤ (k : Int) := by omega
          have hk1 : (k : Int) < (ss.length : Int) := by omega
          have HSK : Hid (least (cands bs nm (upX idx i (k + 1))) = least (cands bs nm (upX idx i k) ++ candTo bs nm (cp, ss.getD k Sl.nil) bs.length)) := by
            show _ = _
            rw [HSU.out k hkl, cands_snoc]
          generalize ss.getD k Sl.nil = s at *
          obtain ⟨wM, hM⟩ : ∃ x, x = wr := ⟨_, rfl⟩
          subst hM
          have hpp : w.heap.size + 1 + 1 + 1 < wM.heap.size := by
            have h9 := HB.out
            generalize least (cands bs nm (upX idx i k)) = st at h9
            cases st <;> exact h9.2.2
          have HPA := hidE (slotAt_new wM s 84)
          have HBA : Hid (BestK (w.heap.size + 1 + 1 + 1) (wM.alloc (.cells #[.int .i64 s.i, .int .i64 s.o, .int .i64 s.l, .int .i64 s.h, .string s.s, .int .i64 s.p] 84)) tn nm (least (cands bs nm (upX idx i k) ++ candTo bs nm (cp, s) 0))) := by
            show BestK _ _ _ _ _
            rw [candTo_zero, List.append_nil]
            exact bestK_gr HB.out ((Gr.refl _).alloc _)
          have HFA : Hid ((least (cands bs nm (upX idx i k))).isSome = (least (cands bs nm (upX idx i k) ++ candTo bs nm (cp, s) 0)).isSome) := by
            show _ = _
            rw [candTo_zero, List.append_nil]
          have HGA := hidE (gr.alloc (.cells #[.int .i64 s.i, .int .i64 s.o, .int .i64 s.l, .int .i64 s.h, .string s.s, .int .i64 s.p] 84))
          clear HB gr
          go_wp2
          go_loopw [9, 13] (fun f jj wr => ∃ j : Nat, j ≤ bs.length ∧ jj = .int .i64 j ∧ f = .bool (least (cands bs nm (upX idx i k) ++ candTo bs nm (cp, s) j)).isSome ∧ Hid (BestK (w.heap.size + 1 + 1 + 1) wr tn nm (least (cands bs nm (upX idx i k) ++ candTo bs nm (cp, s) j))) ∧ Hid (SlotAt wr wM.heap.size s) ∧ Gr (((w.alloc (.cells #[.slice (some ⟨g, 0, none⟩) cs.length cap] 48)).alloc (.cells #[.string tn, .slice ba bs.length bc] 40)).alloc (.cells #[.string ⟨#[]⟩, .string ⟨#[]⟩, .int .i64 0, .int .i64 0, .int .i64 0] 61)) wr) (fun _ jj _ => bs.length - (intOf jj).toNat)
          case atStart => exact ⟨0, Nat.zero_le _, rfl, by rw [HFA.out], HBA, HPA, HGA.out⟩
          case round =>
            clear HBA HFA HGA HPA b0 b1 b2 c0 c1 c2 x0 x1 x2 x3 x4 x5
            obtain ⟨j, hj, rfl, rfl, HB, HP, gr⟩ := hrel
            obtain ⟨b0, b1, b2⟩ := HBX.out _ gr
            obtain ⟨c0, c1, c2⟩ := (HC.out _ (HG1.out.trans gr)).1
            obtain ⟨⟨p0, p1, p2, p3, p4, p5⟩, hpl⟩ := HP.out
            by_cases hjl : j < bs.length
            · cases hsn : s.s.toList == nm.toList
              · have HE : Hid ((least (cands bs nm (upX idx i k) ++ candTo bs nm (cp, s) j)) = least (cands bs nm (upX idx i (k + 1)))) := by
                  show _ = _
                  have h9 : ¬ s.s = nm := fun e => by rw [e] at hsn; simp at hsn
                  rw [HSK.out, candTo_ne h9, candTo_ne h9]
                have hj1 : (j : Int) < (bs.length : Int) := by omega
                have HB2 : Hid (BestK (w.heap.size + 1 + 1 + 1) wr tn nm (least (cands bs nm (upX idx i (k + 1))))) := by
                  show BestK _ _ _ _ _
                  rw [← HE.out]
                  exact HB.out
                clear HB HP
                go_wp2
                go_roundw
                case rel => exact ⟨k + 1, by omega, by go_num, by rw [HE.out], HB2, gr⟩
                case measure => simp [intOf]; omega
              · obtain ⟨g', o', rfl, hg', hx'⟩ := HBS.out j hjl
                have hj0 : (0 : Int) ≤ (j : Int) := by omega
                have hj1 : (j : Int) < (bs.length : Int) := by omega
                have hnm : s.s = nm := ba_ext (by simpa using hsn)
                have HST := hidE (least_succ (bs := bs) (p := (cp, s)) (cands bs nm (upX idx i k)) j hnm)
                have HCA : Hid (candAt bs (cp, s) j = (closeT (bs.getD j Bx.nil) (bxOf (cp, s)), (j : Int), s.p)) := rfl
                rw [HCA.out] at HST
                have HGW : Hid (Gr w wr) := HG1.out.trans gr
                have y := six_gr hx' HGW.out hg'
                have hsz := HGW.out.size
                generalize bs.getD j Bx.nil = b at *
                generalize (least (cands bs nm (upX idx i k) ++ candTo bs nm (cp, s) j)) = st at *
                have HGR := hidE gr
                obtain ⟨wR, hR⟩ : ∃ x, x = wr := ⟨_, rfl⟩
                subst hR
                have KK : Hid (∀ w', Gr wR w' → Gr wR w' ∧ (w'.cell? ⟨g', o' + j * 6, none⟩ = some (.int .i64 b.x) ∧ w'.cell? ⟨g', o' + j * 6 + 1, none⟩ = some (.int .i64 b.y) ∧ w'.cell? ⟨g', o' + j * 6 + 2, none⟩ = some (.int .i64 b.l) ∧ w'.cell? ⟨g', o' + j * 6 + 3, none⟩ = some (.int .i64 b.h) ∧ w'.cell? ⟨g', o' + j * 6 + 4, none⟩ = some (.int .i64 b.i) ∧ w'.cell? ⟨g', o' + j * 6 + 5, none⟩ = some (.int .i64 b.o)) ∧ (w'.cell? ⟨g, i * 3, none⟩ = some (.int .i64 cp.1) ∧ w'.cell? ⟨g, i * 3 + 1, none⟩ = some (.int .i64 cp.2) ∧ w'.cell? ⟨g, i * 3 + 2, none⟩ = some (.slice (some ⟨gs, os, none⟩) ss.length sc)) ∧ (w'.cell? ⟨wM.heap.size, 0, none⟩ = some (.int .i64 s.i) ∧ w'.cell? ⟨wM.heap.size, 1, none⟩ = some (.int .i64 s.o) ∧ w'.cell? ⟨wM.heap.size, 2, none⟩ = some (.int .i64 s.l) ∧ w'.cell? ⟨wM.heap.size, 3, none⟩ = some (.int .i64 s.h) ∧ w'.cell? ⟨wM.heap.size, 4, none⟩ = some (.string s.s) ∧ w'.cell? ⟨wM.heap.size, 5, none⟩ = some (.int .i64 s.p)) ∧ (w'.cell? ⟨w.heap.size, 0, none⟩ = some (.slice (some ⟨g, 0, none⟩) cs.length cap) ∧ w'.cell? ⟨w.heap.size + 1, 0, none⟩ = some (.string tn) ∧ w'.cell? ⟨w.heap.size + 1, 1, none⟩ = some (.slice (some ⟨g', o', none⟩) bs.length bc))) := fun w' q => by
                  obtain ⟨z0, z1, z2, z3, z4, z5⟩ := six_gr y q (Nat.lt_of_lt_of_le hg' hsz)
                  obtain ⟨d0, d1, d2⟩ := HBX.out _ (HGR.out.trans q)
                  exact ⟨q, ⟨z0, z1, z2, z3, z4, z5⟩, (HC.out _ (HGW.out.trans q)).1, (slotAt_gr HP.out q).1, d0, d1, d2⟩
                have r0 := Gr.refl wR
                clear y hx' gr hnm HCA
                go_upto_region 13 with fail
                clear hsn b0 b1 b2 c0 c1 c2 p0 p1 p2 p3 p4 p5
                go_region_held3 (fun w' => Gr wR w' ∧ (w'.cell? ⟨g', o' + j * 6, none⟩ = some (.int .i64 b.x) ∧ w'.cell? ⟨g', o' + j * 6 + 1, none⟩ = some (.int .i64 b.y) ∧ w'.cell? ⟨g', o' + j * 6 + 2, none⟩ = some (.int .i64 b.l) ∧ w'.cell? ⟨g', o' + j * 6 + 3, none⟩ = some (.int .i64 b.h) ∧ w'.cell? ⟨g', o' + j * 6 + 4, none⟩ = some (.int .i64 b.i) ∧ w'.cell? ⟨g', o' + j * 6 + 5, none⟩ = some (.int .i64 b.o)) ∧ (w'.cell? ⟨g, i * 3, none⟩ = some (.int .i64 cp.1) ∧ w'.cell? ⟨g, i * 3 + 1, none⟩ = some (.int .i64 cp.2) ∧ w'.cell? ⟨g, i * 3 + 2, none⟩ = some (.slice (some ⟨gs, os, none⟩) ss.length sc)) ∧ (w'.cell? ⟨wM.heap.size, 0, none⟩ = some (.int .i64 s.i) ∧ w'.cell? ⟨wM.heap.size, 1, none⟩ = some (.int .i64 s.o) ∧ w'.cell? ⟨wM.heap.size, 2, none⟩ = some (.int .i64 s.l) ∧ w'.cell? ⟨wM.heap.size, 3, none⟩ = some (.int .i64 s.h) ∧ w'.cell? ⟨wM.heap.size, 4, none⟩ = some (.string s.s) ∧ w'.cell? ⟨wM.heap.size, 5, none⟩ = some (.int .i64 s.p)) ∧ (w'.cell? ⟨w.heap.size, 0, none⟩ = some (.slice (some ⟨g, 0, none⟩) cs.length cap) ∧ w'.cell? ⟨w.heap.size + 1, 0, none⟩ = some (.string tn) ∧ w'.cell? ⟨w.heap.size + 1, 1, none⟩ = some (.slice (some ⟨g', o', none⟩) bs.length bc)))
                  ((refine KK.out _ ?_; repeat (first | with_reducible exact r0 | with_reducible assumption | with_reducible exact And.left (by assumption) | with_reducible refine Gr.drew ?_ | with_reducible refine Gr.alloc ?_ _)))
                  (first
                    | (go_at_call 94; (with_reducible refine Calls.mono (l5Box_any cp _ s _) ?_); rintro e w3 ⟨rfl, g3⟩; have g4 := Gr.trans (And.left (by assumption)) g3)
                    | (go_at_call 93; (with_reducible refine Calls.mono (specClose_any b (bxOf (cp, s)) _) ?_); rintro e w5 ⟨rfl, g5⟩; have g6 := Gr.trans (And.left (by assumption)) g5))
                all_goals
                  have HB5 := hidE (bestK_gr HB.out g6)
                  have HP5 := hidE (slotAt_gr HP.out g6)
                  have HG5 := hidE (HGR.out.trans g6)
                  obtain ⟨d0, d1, d2⟩ := HBX.out _ HG5.out
                  obtain ⟨⟨p0, p1, p2, p3, p4, p5⟩, hpl5⟩ := HP5.out
                  have n5 := g6.size
                  clear HB HP KK g6 HGW HGR
                  generalize bxOf (cp, s) = bq at *
                  generalize closeT b bq = tk at *
                  cases hcb : closeB b bq
                  · have HE : Hid (least (cands bs nm (upX idx i k) ++ candTo bs nm (cp, s) (j + 1)) = st) := by
                      show _ = _
                      rw [HST.out, hcb]
                      rfl
                    clear HST hcb
                    go_wp2
                    go_roundw
                    case rel => exact ⟨j + 1, by omega, by go_num, by rw [HE.out], by rw [HE.out]; exact bestK_gr HB5.out ((Gr.refl _).alloc _), slotAt_gr HP5.out ((Gr.refl _).alloc _), HG5.out.alloc _⟩
                    case measure => simp [intOf]; omega
                  · rcases st with _ | kb
                    · have HE : Hid (least (cands bs nm (upX idx i k) ++ candTo bs nm (cp, s) (j + 1)) = some (tk, (j : Int), s.p)) := by
                        show _ = _
                        rw [HST.out, hcb]
                        rfl
                      clear HST hcb
                      obtain ⟨⟨b0, b1, b2, b3, b4⟩, ⟨f0, f1, f2, f3, f4⟩, hp⟩ := HB5.out
                      go_wp2
                      go_roundw
                      case rel => exact ⟨j + 1, by omega, by go_num, by rw [HE.out]; rfl, by rw [HE.out]; exact bestK_gr (bestK_put HB5.out (tk, (j : Int), s.p)) ((Gr.refl _).alloc _), slotAt_gr (slotAt_put HP5.out (by omega) _ _ _ _ _) ((Gr.refl _).alloc _), (put5_gr HG5.out (by rw [eB]; exact Nat.le_refl _) _ _ _ _ _).alloc _⟩
                      case measure => simp [intOf]; omega
                    · cases hlt : k3Lt (tk, (j : Int), s.p) kb
                      · have HE : Hid (least (cands bs nm (upX idx i k) ++ candTo bs nm (cp, s) (j + 1)) = some kb) := by
                          show _ = _
                          rw [HST.out, hcb]
                          exact soonK_leaves (by simp [takesK, hlt])
                        have HLT := hidE hlt
                        clear HST hcb hlt
                        obtain ⟨⟨b0, b1, b2, b3, b4⟩, ⟨f0, f1, f2, f3, f4⟩, hp⟩ := HB5.out
                        go_wp2_with fail
                        (with_reducible refine Calls.mono (l5Sooner_any tn nm tn nm (tk, (j : Int), s.p) kb _) ?_)
                        rintro e w7 ⟨rfl, g7⟩
                        rw [HLT.out]
                        have HB7 := hidE (bestK_gr HB5.out (((Gr.refl _).alloc _).trans g7))
                        have HP7 := hidE (slotAt_gr HP5.out (((Gr.refl _).alloc _).trans g7))
                        have HG7 := hidE ((HG5.out.alloc _).trans g7)
                        clear g7 b0 b1 b2 b3 b4 f0 f1 f2 f3 f4 hp
                        go_wp2
                        go_roundw
                        case rel => exact ⟨j + 1, by omega, by go_num, by rw [HE.out]; rfl, by rw [HE.out]; exact HB7, HP7, HG7.out⟩
                        case measure => simp [intOf]; omega
                      · have HE : Hid (least (cands bs nm (upX idx i k) ++ candTo bs nm (cp, s) (j + 1)) = some (tk, (j : Int), s.p)) := by
                          show _ = _
                          rw [HST.out, hcb]
                          exact soonK_takes (by simp [takesK, hlt])
                        have HLT := hidE hlt
                        clear HST hcb hlt
                        obtain ⟨⟨b0, b1, b2, b3, b4⟩, ⟨f0, f1, f2, f3, f4⟩, hp⟩ := HB5.out
                        go_wp2_with fail
                        (with_reducible refine Calls.mono (l5Sooner_any tn nm tn nm (tk, (j : Int), s.p) kb _) ?_)
                        rintro e w7 ⟨rfl, g7⟩
                        rw [HLT.out]
                        have HB7 := hidE (bestK_gr HB5.out (((Gr.refl _).alloc _).trans g7))
                        have HP7 := hidE (slotAt_gr HP5.out (((Gr.refl _).alloc _).trans g7))
                        have HG7 := hidE ((HG5.out.alloc _).trans g7)
                        have h5n := five_new g7
                        obtain ⟨⟨e0, e1, e2, e3, e4⟩, -, -⟩ := h5n
                        clear g7 b0 b1 b2 b3 b4 f0 f1 f2 f3 f4 hp
                        obtain ⟨⟨b0, b1, b2, b3, b4⟩, ⟨f0, f1, f2, f3, f4⟩, hp⟩ := HB7.out
                        go_wp2
                        go_roundw
                        case rel => exact ⟨j + 1, by omega, by go_num, by rw [HE.out]; rfl, by rw [HE.out]; exact bestK_put HB7.out (tk, (j : Int), s.p), slotAt_put HP7.out (by omega) _ _ _ _ _, put5_gr HG7.out (by rw [eB]; exact Nat.le_refl _) _ _ _ _ _⟩
                        case measure => simp [intOf]; omega
            · have hjj : j = bs.length := by omega
              have hd : decide (j < bs.length) = false := by simpa using hjl
              have HE : Hid ((least (cands bs nm (upX idx i k) ++ candTo bs nm (cp, s) j)) = least (cands bs nm (upX idx i (k + 1)))) := by
                show _ = _
                rw [HSK.out, hjj]
              have HB2 : Hid (BestK (w.heap.size + 1 + 1 + 1) wr tn nm (least (cands bs nm (upX idx i (k + 1))))) := by
                show BestK _ _ _ _ _
                rw [← HE.out]
                exact HB.out
              clear HB HP hjj hjl
              go_wp2
              go_roundw
              case rel => exact ⟨k + 1, by omega, by go_num, by rw [HE.out], HB2, gr⟩
              case measure => simp [intOf]; omega
        · have hkk : k = ss.length := by omega
          have hd : decide (k < ss.length) = false := by simpa using hkl
          have HE : Hid (least (cands bs nm (upX idx i k)) = least (cands bs nm (ptsOf (idx.take (i + 1))))) := by
            show _ = _
            rw [← HUP.out, ← hkk]
          have HB2 : Hid (BestK (w.heap.size + 1 + 1 + 1) wr tn nm (least (cands bs nm (ptsOf (idx.take (i + 1)))))) := by
            show BestK _ _ _ _ _
            rw [← HE.out]
            exact HB.out
          clear hkk hkl HB
          go_wp2
          go_roundw
          case rel => exact ⟨i + 1, by omega, by go_num, by rw [HE.out], HB2, gr⟩
          case measure => simp [intOf]; omega
    · have ei : idx.take i = idx := List.take_of_length_le (by omega)
      rw [ei] at HB ⊢
      have hd : decide (i < cs.length) = false := by simpa using hil
      have HR := five_new gr
      have eR : ((w.alloc (.cells #[.slice a cs.length cap] 48)).alloc (.cells #[.string tn, .slice ba bs.length bc] 40)).heap.size = w.heap.size + 1 + 1 := by simp
      rw [eR] at HR
      have HR' := hidE HR.1
      have HG9 := hidE (HG1.out.trans gr)
      obtain ⟨⟨r0, r1, r2, r3, r4⟩, ⟨q0, q1, q2, q3, q4⟩, -⟩ := HR
      have hS := HB.out
      obtain ⟨st, hst⟩ : ∃ st, least (cands bs nm (ptsOf idx)) = st := ⟨_, rfl⟩
      rw [hst] at hS ⊢
      have HS := hidE hst
      clear hst HB gr hil ei
      rcases st with _ | ⟨k1, k2, k3⟩
      · obtain ⟨⟨v0, v1, v2, v3, v4⟩, -, hp⟩ := hS
        go_wp2
        have HV := five_put HR'.out (.string ⟨#[]⟩) (.string ⟨#[]⟩) (.int .i64 0) (.int .i64 0) (.int .i64 0)
        obtain ⟨v0, v1, v2, v3, v4⟩ := HV
        unfold put5 at v0 v1 v2 v3 v4
        refine bodyPost_ret (v := .tuple #[.agg #[.string ⟨#[]⟩, .string ⟨#[]⟩, .int .i64 0, .int .i64 0, .int .i64 0], .bool false]) (by simp [results, Tryz.results56, go_sem, v0, v1, v2, v3, v4]) rfl ⟨by rw [HS.out]; rfl, ?_⟩
        exact put5_gr HG9.out (by omega) _ _ _ _ _
      · obtain ⟨⟨v0, v1, v2, v3, v4⟩, -, hp⟩ := hS
        dsimp only at v2 v3 v4
        go_wp2
        have HV := five_put HR'.out (.string tn) (.string nm) (.int .i64 k1) (.int .i64 k2) (.int .i64 k3)
        obtain ⟨v0, v1, v2, v3, v4⟩ := HV
        unfold put5 at v0 v1 v2 v3 v4
        refine bodyPost_ret (v := .tuple #[.agg #[.string tn, .string nm, .int .i64 k1, .int .i64 k2, .int .i64 k3], .bool true]) (by simp [results, Tryz.results56, go_sem, v0, v1, v2, v3, v4]) rfl ⟨by rw [HS.out]; rfl, ?_⟩
        exact put5_gr HG9.out (by omega) _ _ _ _ _
end Go.Proofs.YtpdcgjkfilohcabGreat
