import Derived.Test.YtpdcgjkfilohcabGreatIdxIK
import Derived.Test.YtpdcgjkfilohcabGreatMeetAB
import Derived.Test.YtpdcgjkfilohcabGreatHapTV
namespace Go.Proofs.YtpdcgjkfilohcabGreat
open Go.RowKit Go.Sort Go.Maps
set_option linter.unusedSimpArgs false
set_option linter.unusedVariables false

theorem sky_parts {ts : List Tb} (h : skyB ts = true) : ts.length ≤ 24 ∧ (∀ k, k < ts.length → (ts.getD k Tb.nil).bs.length ≤ 40 ∧ ∀ j, j < (ts.getD k Tb.nil).bs.length → ((ts.getD k Tb.nil).bs.getD j Bx.nil).ok = true) ∧ ascTo ts ts.length = true := by
  unfold skyB at h
  simp only [Bool.and_eq_true, decide_eq_true_eq] at h
  obtain ⟨⟨h1, h2⟩, h3⟩ := h
  refine ⟨h1, fun k hk => ?_, h3⟩
  rw [okTo, List.all_eq_true] at h2
  exact tube_boxes (h2 k (List.mem_range.2 hk))
/-- A box that is ok is at a place that is a key. -/
theorem ok_key {b : Bx} (h : b.ok = true) : Wk (b.x, b.y) := by
  obtain ⟨a1, a2, a3, a4, -⟩ := ok_nums h
  constructor <;> simp [Lit.wf, IntKind.min, IntKind.max, IntKind.bits, IntKind.signed] <;> omega
/-- The map behind some slots. -/
abbrev MapOf (lo b : Nat) (w : World) (all : List Pt) (V : Int × Int → Value) : Prop := Grp lo b w (fun k => slotsAt k all) (all.map (·.1)).reverse V
theorem mapOf_snoc {lo b : Nat} {w : World} {all : List Pt} {k : Int × Int} {s : Sl} {V : Int × Int → Value} (h : Grp lo b w (fun j => if j = k then slotsAt k all ++ [s] else slotsAt j all) (k :: (all.map (·.1)).reverse) V) : MapOf lo b w (all ++ [(k, s)]) V := by
  have e1 : (fun j => if j = k then slotsAt k all ++ [s] else slotsAt j all) = fun j => slotsAt j (all ++ [(k, s)]) := by
    funext j
    rw [slotsAt_snoc]
    by_cases e : j = k
    · subst e; simp
    · rw [if_neg e, if_neg (fun e' => e e'.symm), List.append_nil]
  have e2 : k :: (all.map (·.1)).reverse = ((all ++ [(k, s)]).map (·.1)).reverse := by simp
  rw [e1, e2] at h
  exact h
theorem mem_keys {all : List Pt} {k : Int × Int} : k ∈ (all.map (·.1)).reverse ↔ slotsAt k all ≠ [] := by
  rw [List.mem_reverse, List.mem_map]
  constructor
  · rintro ⟨p, hp, rfl⟩ e
    have := mem_slotsAt.2 (show (p.1, p.2) ∈ all from hp)
    rw [e] at this
    cases this
  · intro h
    obtain ⟨s, l, e⟩ : ∃ s l, slotsAt k all = s :: l := by
      cases h' : slotsAt k all with
      | nil => exact absurd h' h
      | cons s l => exact ⟨s, l, rfl⟩
    exact ⟨(k, s), mem_slotsAt.1 (by rw [e]; exact List.mem_cons_self), rfl⟩
/-- All slots, up to a box of a tube. -/
def upTo (ts : List Tb) (i j : Nat) : List Pt := placed (ts.take i) ++ placedTo (ts.getD i Tb.nil) j
theorem upTo_zero (ts : List Tb) (i : Nat) : upTo ts i 0 = placed (ts.take i) := by simp [upTo, placedTo]
theorem upTo_succ (ts : List Tb) (i j : Nat) : upTo ts i (j + 1) = upTo ts i j ++ [slotOf (ts.getD i Tb.nil).s j ((ts.getD i Tb.nil).bs.getD j Bx.nil)] := by
  unfold upTo
  rw [placedTo_succ, List.append_assoc]
theorem upTo_all {ts : List Tb} {i : Nat} (h : i < ts.length) : upTo ts i (ts.getD i Tb.nil).bs.length = placed (ts.take (i + 1)) := (placed_take h).symm
theorem upTo_len {ts : List Tb} (h : skyB ts = true) {i j : Nat} (hi : i < ts.length) (hj : j ≤ (ts.getD i Tb.nil).bs.length) : (upTo ts i j).length ≤ 960 := by
  obtain ⟨h1, h2, -⟩ := sky_parts h
  have h3 : (placed (ts.take i)).length ≤ (ts.take i).length * 40 := placed_len (fun t ht => by
    obtain ⟨k, hk, rfl⟩ := List.getElem_of_mem ht
    have hk' : k < ts.length := by rw [List.length_take] at hk; omega
    have := (h2 k hk').1
    rw [List.getD_eq_getElem?_getD, List.getElem?_eq_getElem hk'] at this
    rw [List.getElem_take]
    exact this)
  have h4 := (h2 i hi).1
  unfold upTo
  rw [List.length_append, placedTo_len]
  rw [List.length_take] at h3
  omega
theorem placed_good {ts : List Tb} (h : skyB ts = true) : ∀ i, i ≤ ts.length → ((placed (ts.take i)).Pairwise fun p q => Differ p.2 q.2) ∧ (∀ p ∈ placed (ts.take i), Wk p.1) ∧ (placed (ts.take i)).length ≤ 960 := by
  obtain ⟨h1, h2, h3⟩ := sky_parts h
  intro i
  induction i with
  | zero => intro _; simp [placed]
  | succ i ih =>
    intro hi
    have hil : i < ts.length := by omega
    have key : ∀ j, j ≤ (ts.getD i Tb.nil).bs.length → ((upTo ts i j).Pairwise fun p q => Differ p.2 q.2) ∧ ∀ p ∈ upTo ts i j, Wk p.1 := by
      intro j
      induction j with
      | zero =>
        intro _
        rw [upTo_zero]
        exact ⟨(ih (by omega)).1, (ih (by omega)).2.1⟩
      | succ j ihj =>
        intro hj
        obtain ⟨a1, a2⟩ := ihj (by omega)
        rw [upTo_succ]
        refine ⟨List.pairwise_append.2 ⟨a1, by simp, fun p hp q hq => ?_⟩, fun p hp => ?_⟩
        · rw [List.mem_singleton] at hq
          subst hq
          exact placed_new h3 hil j _ p hp
        · rcases List.mem_append.1 hp with hp | hp
          · exact a2 p hp
          · rw [List.mem_singleton] at hp
            subst hp
            exact ok_key ((h2 i hil).2 j (by omega))
    have k2 := key _ (Nat.le_refl _)
    have k3 := upTo_len h hil (Nat.le_refl _)
    rw [upTo_all hil] at k2 k3
    exact ⟨k2.1, k2.2, k3⟩
end Go.Proofs.YtpdcgjkfilohcabGreat

namespace Go.Proofs.YtpdcgjkfilohcabGreat
open Go.RowKit Go.Sort Go.Maps
set_option linter.unusedSimpArgs false
set_option linter.unusedVariables false

/-- An index that the call owns: cells, each with its row of slots. -/
structure OwnX (lo : Nat) (w : World) (v : Value) (cs : List ((Int × Int) × Value × List Sl)) : Prop where
  row : w.ownsRow lo 96 3 v cs.length (cellRow (cs.map fun c => (c.1, c.2.1)))
  slots : ∀ c ∈ cs, w.ownsRow lo 84 6 c.2.1 c.2.2.length (c.2.2.flatMap encS)
  apart : cs.Pairwise fun c d => ∀ g, c.2.1.ownBlock = some g → d.2.1.ownBlock ≠ some g
/-- What it holds. -/
def idxOf (cs : List ((Int × Int) × Value × List Sl)) : List Cl := cs.map fun c => (c.1, c.2.2)
theorem ownX_nil (lo : Nat) (w : World) : OwnX lo w (.slice none 0 0) [] := ⟨World.ownsRow_nil _ _ _ _, fun c hc => absurd hc (by simp), List.Pairwise.nil⟩
theorem cells_six {w : World} {g o : Nat} {b : Bx} (h : Six w g o b) : w.cell? ⟨g, o, none⟩ = some (.int .i64 b.x) ∧ w.cell? ⟨g, o + 1, none⟩ = some (.int .i64 b.y) ∧ w.cell? ⟨g, o + 2, none⟩ = some (.int .i64 b.l) ∧ w.cell? ⟨g, o + 3, none⟩ = some (.int .i64 b.h) ∧ w.cell? ⟨g, o + 4, none⟩ = some (.int .i64 b.i) ∧ w.cell? ⟨g, o + 5, none⟩ = some (.int .i64 b.o) := h

set_option maxRecDepth 100000 in
set_option maxHeartbeats 4000000 in
theorem implIndexOf_ok (a : Option Addr) (cap : Nat) (ts : List Tb) (w : World) (ha : Tubes w a ts) (hS : Small ts) (hsky : skyB ts = true) :
    Calls Tryz.prog 26 #[.slice a ts.length cap] w fun e w' => (∃ v cs, e = .returned (.agg #[v]) ∧ OwnX w.heap.size w' v cs ∧ IsIdx (placed ts) (idxOf cs)) ∧ Gr w w' := by
  have GB : Gr w (w.alloc (.cells #[.slice none 0 0] 48)) := (Gr.refl w).alloc _
  have HSK := implSkyOk_any a cap ts _ (tubes_gr ha GB) hS
  rw [hsky] at HSK
  obtain ⟨hts, hbs, hasc⟩ := sky_parts hsky
  go_enter Tryz.func26, Tryz.ntmps26
  go_wp2_with fail
  refine HSK.mono ?_
  rintro e w1 ⟨rfl, g1⟩
  have hmm := @run_makeMap Tryz.prog
  go_wp2
  have G1 : Gr w w1 := GB.trans g1
  have M0 : MapOf w1.heap.size w1.heap.size (w1.alloc (.map #[] 0)) [] (fun _ => .slice none 0 0) := groups_made w1 _ _ _ _ _ _
  clear hmm HSK
  go_loopw [15] (fun n wr => ∃ (i : Nat) (V : Int × Int → Value), i ≤ ts.length ∧ n = .int .i64 i ∧ Hid (MapOf w1.heap.size w1.heap.size wr (placed (ts.take i)) V) ∧ Gr w1 wr ∧ w1.heap.size + 1 ≤ wr.heap.size) (fun n _ => ts.length - (intOf n).toNat)
  case atStart => exact ⟨0, _, Nat.zero_le _, rfl, M0, (Gr.refl _).alloc _, by simp⟩
  case round =>
    obtain ⟨i, V, hi, rfl, HM, gr, hz⟩ := hrel
    rename World => wo
    by_cases hil : i < ts.length
    · obtain ⟨g, o, rfl, hg, hx, hbx⟩ := tubes_gr ha G1 i hil
      have hbs1 := (hbs i hil).1
      have hok := (hbs i hil).2
      obtain ⟨c0, c1⟩ := two_gr hx gr hg
      have hi0 : (0 : Int) ≤ (i : Int) := by omega
      have hi1 : (i : Int) < (ts.length : Int) := by omega
      have HU : Hid (∀ j, upTo ts i (j + 1) = upTo ts i j ++ [slotOf (ts.getD i Tb.nil).s j ((ts.getD i Tb.nil).bs.getD j Bx.nil)]) := upTo_succ ts i
      have HZ : Hid (upTo ts i 0 = placed (ts.take i)) := upTo_zero ts i
      have HA : Hid (upTo ts i (ts.getD i Tb.nil).bs.length = placed (ts.take (i + 1))) := upTo_all hil
      have HL : Hid (∀ j, j ≤ (ts.getD i Tb.nil).bs.length → (upTo ts i j).length ≤ 960) := fun j hj => upTo_len hsky hil hj
      have HK : Hid (∀ j, j < (ts.getD i Tb.nil).bs.length → Wk (((ts.getD i Tb.nil).bs.getD j Bx.nil).x, ((ts.getD i Tb.nil).bs.getD j Bx.nil).y)) := fun j hj => ok_key (hok j hj)
      have HBX : Hid (∀ j, j < (ts.getD i Tb.nil).bs.length → ∀ gb ob, (ts.getD i Tb.nil).a = some ⟨gb, ob, none⟩ → gb < w1.heap.size ∧ Six w1 gb (ob + j * 6) ((ts.getD i Tb.nil).bs.getD j Bx.nil)) := fun j hj gb ob e => by
        obtain ⟨g', o', e', hg', hs'⟩ := hbx j hj
        rw [e] at e'
        cases e'
        exact ⟨hg', hs'⟩
      replace hbx := boxes_gr hbx gr
      clear hx hok
      generalize ts.getD i Tb.nil = t at *
      obtain ⟨s, ta, tc, bs⟩ := t
      simp only at c0 c1 hbx hbs1 HU HA HL HK HBX
      have hs0 : wo.heap.size + 1 ≤ (wo.alloc (.cells #[.string s, .slice ta bs.length tc] 40)).heap.size := by simp
      go_wp2
      go_loopw [22] (fun n wq => ∃ (j : Nat) (V : Int × Int → Value), j ≤ bs.length ∧ n = .int .i64 j ∧ Hid (MapOf w1.heap.size w1.heap.size wq (upTo ts i j) V) ∧ Gr w1 wq ∧ Hid (wq.heap[wo.heap.size]? = some (.cells #[.string s, .slice ta bs.length tc] 40 (0, 0))) ∧ wo.heap.size + 1 ≤ wq.heap.size) (fun n _ => bs.length - (intOf n).toNat)
      case atStart =>
        refine ⟨0, V, Nat.zero_le _, rfl, ?_, gr.alloc _, World.alloc_heap_new _ _, hs0⟩
        show MapOf _ _ _ _ _
        rw [HZ.out]
        exact HM.out.gr ((Gr.refl wo).alloc _)
      case round =>
        rename World => wq
        obtain ⟨j, V, hj, rfl, HQ, gq, HT, hzq⟩ := hrel
        by_cases hjl : j < bs.length
        · obtain ⟨gb, ob, rfl, hgb, hsix⟩ := hbx j hjl
          have hgb1 : gb < w1.heap.size := (HBX.out j hjl gb ob rfl).1
          obtain ⟨d0, d1, d2, d3, d4, d5⟩ := cells_six (six_gr (HBX.out j hjl gb ob rfl).2 gq hgb1)
          have hW := HK.out j hjl
          have hLn := HL.out j hj
          have hUs := HU.out j
          clear hsix
          generalize bs.getD j Bx.nil = b at *
          have hj0 : (0 : Int) ≤ (j : Int) := by omega
          have hj1 : (j : Int) < (bs.length : Int) := by omega
          have HG : Hid (∀ w', Gr (wq.alloc (.cells #[.int .i64 b.x, .int .i64 b.y, .int .i64 b.l, .int .i64 b.h, .int .i64 b.i, .int .i64 b.o] 77)) w' → MapOf w1.heap.size w1.heap.size w' (upTo ts i j) V) := fun w' g' => HQ.out.gr (((Gr.refl wq).alloc _).trans g')
          have hbm : w1.heap.size < wq.heap.size := HQ.out.lt
          have p7 : (wq.alloc (.cells #[.int .i64 b.x, .int .i64 b.y, .int .i64 b.l, .int .i64 b.h, .int .i64 b.i, .int .i64 b.o] 77)).heap[wq.heap.size]? = some (.cells #[.int .i64 b.x, .int .i64 b.y, .int .i64 b.l, .int .i64 b.h, .int .i64 b.i, .int .i64 b.o] 77 (0, 0)) := World.alloc_heap_new _ _
          have p5 : (wq.alloc (.cells #[.int .i64 b.x, .int .i64 b.y, .int .i64 b.l, .int .i64 b.h, .int .i64 b.i, .int .i64 b.o] 77)).heap[wo.heap.size]? = some (.cells #[.string s, .slice (some ⟨gb, ob, none⟩) bs.length tc] 40 (0, 0)) := (Below.heap_alloc _ _ _ (by omega)).trans HT.out
          have KK : Hid (∀ w', Stays 84 (wq.alloc (.cells #[.int .i64 b.x, .int .i64 b.y, .int .i64 b.l, .int .i64 b.h, .int .i64 b.i, .int .i64 b.o] 77)) w' → Stays 84 (wq.alloc (.cells #[.int .i64 b.x, .int .i64 b.y, .int .i64 b.l, .int .i64 b.h, .int .i64 b.i, .int .i64 b.o] 77)) w' ∧ w'.cell? ⟨wq.heap.size, 0, none⟩ = some (.int .i64 b.x) ∧ w'.cell? ⟨wq.heap.size, 1, none⟩ = some (.int .i64 b.y) ∧ w'.cell? ⟨wq.heap.size, 2, none⟩ = some (.int .i64 b.l) ∧ w'.cell? ⟨wq.heap.size, 3, none⟩ = some (.int .i64 b.h) ∧ w'.cell? ⟨wq.heap.size, 4, none⟩ = some (.int .i64 b.i) ∧ w'.cell? ⟨wq.heap.size, 5, none⟩ = some (.int .i64 b.o) ∧ w'.cell? ⟨wo.heap.size, 0, none⟩ = some (.string s)) := fun w' q => by
            refine ⟨q, ?_, ?_, ?_, ?_, ?_, ?_, ?_⟩
            · exact (q.cell (by decide) p7).trans (by simp)
            · exact (q.cell (by decide) p7).trans (by simp)
            · exact (q.cell (by decide) p7).trans (by simp)
            · exact (q.cell (by decide) p7).trans (by simp)
            · exact (q.cell (by decide) p7).trans (by simp)
            · exact (q.cell (by decide) p7).trans (by simp)
            · exact (q.cell (by decide) p5).trans (by unfold World.cell?; rw [p5]; rfl)
          have q0 := Stays.refl 84 (wq.alloc (.cells #[.int .i64 b.x, .int .i64 b.y, .int .i64 b.l, .int .i64 b.h, .int .i64 b.i, .int .i64 b.o] 77))
          have HP5 : Hid _ := p5
          have HGQ : Hid (Gr w1 (wq.alloc (.cells #[.int .i64 b.x, .int .i64 b.y, .int .i64 b.l, .int .i64 b.h, .int .i64 b.i, .int .i64 b.o] 77))) := gq.alloc _
          clear p5 p7
          go_upto_region 10 with fail
          go_region_held3 (fun w' => Stays 84 (wq.alloc (.cells #[.int .i64 b.x, .int .i64 b.y, .int .i64 b.l, .int .i64 b.h, .int .i64 b.i, .int .i64 b.o] 77)) w' ∧ w'.cell? ⟨wq.heap.size, 0, none⟩ = some (.int .i64 b.x) ∧ w'.cell? ⟨wq.heap.size, 1, none⟩ = some (.int .i64 b.y) ∧ w'.cell? ⟨wq.heap.size, 2, none⟩ = some (.int .i64 b.l) ∧ w'.cell? ⟨wq.heap.size, 3, none⟩ = some (.int .i64 b.h) ∧ w'.cell? ⟨wq.heap.size, 4, none⟩ = some (.int .i64 b.i) ∧ w'.cell? ⟨wq.heap.size, 5, none⟩ = some (.int .i64 b.o) ∧ w'.cell? ⟨wo.heap.size, 0, none⟩ = some (.string s))
            ((refine KK.out _ ?_; repeat (first | with_reducible exact q0 | with_reducible assumption | with_reducible exact And.left (by assumption) | with_reducible refine Stays.gr ?_ ((Gr.refl _).drew) | with_reducible refine Stays.gr ?_ ((Gr.refl _).alloc _))))
            (first
              | (go_at_call 49; (with_reducible refine Calls.mono (slotOf_any s j b _) ?_); rintro e w5 ⟨rfl, g5⟩; have st5 := Stays.gr (And.left (by assumption)) g5)
              | (go_at_call 48; (refine Calls.mono (add_any (b.x, b.y) hW [(slotOf s j b).2] ⟨w5.heap.size, 0, none⟩ 1 w1.heap.size w1.heap.size _ (fun k => slotsAt k (upTo ts i j)) _ V (HG.out _ (((Gr.refl (wq.alloc (.cells #[.int .i64 b.x, .int .i64 b.y, .int .i64 b.l, .int .i64 b.h, .int .i64 b.i, .int .i64 b.o] 77))).drew.trans g5).alloc _)) (by simp; omega) (by have := slotsAt_le (b.x, b.y) (upTo ts i j); simp; omega) (by have := g5.size; simp at this; simp; omega) (fun k u hu => news_cells w5 _ rfl [.int .i64 b.i, .int .i64 b.o, .int .i64 b.l, .int .i64 b.h, .string s, .int .i64 j] _ k u hu) (by simp) (by have := g5.size; simp at this; dsimp only; omega)) ?_); rintro e w6 ⟨rfl, ⟨v', hG6⟩, hfr6, hst6⟩; have st6 := (Stays.gr st5 ((Gr.refl w5).alloc (.cells #[.int .i64 b.i, .int .i64 b.o, .int .i64 b.l, .int .i64 b.h, .string s, .int .i64 j] 84))).trans hst6) | fail)
          all_goals
            obtain ⟨V6, R1⟩ : ∃ V6, Hid (MapOf w1.heap.size w1.heap.size w6 (upTo ts i (j + 1)) V6) := ⟨_, by
              show MapOf _ _ _ _ _
              rw [hUs]
              exact mapOf_snoc hG6⟩
            have R2 : Gr w1 w6 := hfr6 w1 ((HGQ.out.trans ((Gr.refl (wq.alloc (.cells #[.int .i64 b.x, .int .i64 b.y, .int .i64 b.l, .int .i64 b.h, .int .i64 b.i, .int .i64 b.o] 77))).drew.trans g5)).alloc (.cells #[.int .i64 b.i, .int .i64 b.o, .int .i64 b.l, .int .i64 b.h, .string s, .int .i64 j] 84)) (Nat.le_refl _) (Nat.le_refl _)
            have R3 := st6.same _ _ _ _ HP5.out (by decide)
            have R4 := st6.size
            simp only [World.size_alloc] at R4
            clear hG6 hfr6 hst6 st6 st5
            go_wp2
            go_roundw
            case rel => exact ⟨j + 1, V6, by omega, by go_num, R1, R2, R3, by omega⟩
            case measure => simp [intOf]; omega
        · have ej : j = bs.length := by omega
          subst ej
          have R1 : Hid (MapOf w1.heap.size w1.heap.size wq (placed (ts.take (i + 1))) V) := by
            show MapOf _ _ _ _ _
            rw [← HA.out]
            exact HQ.out
          go_wp2
          go_roundw
          case rel => exact ⟨i + 1, V, by omega, by go_num, R1, gq, by omega⟩
          case measure => simp [intOf]; omega
    · have ei : i = ts.length := by omega
      subst ei
      have HM2 : MapOf w1.heap.size w1.heap.size wo (placed ts) V := by
        have := HM.out
        rw [List.take_length] at this
        exact this
      obtain ⟨hd, hk, hl⟩ := placed_good hsky ts.length (Nat.le_refl _)
      rw [List.take_length] at hd hk hl
      have HI := index_any w1.heap.size w1.heap.size wo _ _ V HM2 (fun k _ => mem_keys) (fun k _ => slotsAt_apart hd k) (by simp; omega) (fun k => Nat.le_trans (slotsAt_le k _) (by omega)) (by omega)
      have HKW : Hid (∀ k, slotsAt k (placed ts) ≠ [] → Wk k) := fun k h => by
        obtain ⟨p, hp, e⟩ := List.mem_map.1 (List.mem_reverse.1 (mem_keys.2 h))
        exact e ▸ hk p hp
      clear hd hk hl HM HM2
      go_wp2_with (first
        | (go_at_call 50; refine HI.mono ?_; rintro e w7 ⟨⟨v, kk, S', rfl, h1, h2, h3, h4, h5⟩, hfr⟩; obtain ⟨av, cv, rfl⟩ := row_form h5
           have gR := hfr (w.alloc (.cells #[.slice none 0 0] 48)) (g1.trans gr) (by have := g1.size; exact this)
           have r0 : w7.cell? ⟨w.heap.size, 0, none⟩ = some (.slice none 0 0) := (gR.cells.1 _ _ (by simp)).trans (by simp)
           have r1 : w7.frozen? ⟨w.heap.size, 0, none⟩ = false := (gR.cells.2 _ _ (by simp)).trans (by simp)))
      have hz7 := gR.size
      have q7 : Quiet 48 48 w7 (w7.setCell ⟨w.heap.size, 0, none⟩ (.slice av kk.length cv)) := (Quiet.refl w7).set (((Below.block gR _ (by simp)).trans (World.alloc_heap_new _ _))) _
      refine bodyPost_ret (v := .agg #[.slice av kk.length cv]) (by simp [results, Tryz.results26, go_sem, r0]) rfl ⟨⟨_, kk.map fun k => (k, V k, S' k), rfl, ?_, ?_⟩, (GB.trans gR).setCell (Nat.le_refl _) _⟩
      · have h4' := quiet_groups h4 q7 (by decide) (by decide)
        have hle : w.heap.size ≤ w1.heap.size := G1.size
        have hle2 : w1.heap.size ≤ wo.heap.size := gr.size
        refine ⟨?_, fun c hc => ?_, ?_⟩
        · have := own_lo (q7.row (by decide) (by decide) h5) (Nat.le_trans hle hle2)
          simpa [List.map_map, Function.comp_def] using this
        · obtain ⟨k, hk, rfl⟩ := List.mem_map.1 hc
          exact own_lo (h4'.rows k ((h2 k).1 hk).1) hle
        · rw [List.pairwise_map]
          refine (List.Pairwise.and_mem.1 h1).imp ?_
          rintro a b ⟨ha, hb, hab⟩ g hg
          exact h4'.apart a b ((h2 a).1 ha).1 ((h2 b).1 hb).1 (fun e => by rw [e, keyLt_irrefl] at hab; cases hab) g hg
      · have : idxOf (kk.map fun k => (k, V k, S' k)) = kk.map fun k => (k, S' k) := by simp [idxOf, Function.comp_def]
        rw [this]
        exact idx_of h1 (fun k => ⟨fun hk => ((h2 k).1 hk).2, fun hk => (h2 k).2 ⟨HKW.out k hk, hk⟩⟩) h3
/-- What the index of tubes holds. -/
def IdxIs (ts : List Tb) (idx : List Cl) : Prop := if skyB ts then IsIdx (placed ts) idx else idx = []
theorem idxIs_one {ts : List Tb} {a b : List Cl} (ha : IdxIs ts a) (hb : IdxIs ts b) : a = b := by
  unfold IdxIs at *
  split at ha
  · rename_i h
    rw [if_pos h] at hb
    exact idx_one ha hb
  · rename_i h
    rw [if_neg h] at hb
    rw [ha, hb]
set_option maxHeartbeats 1000000 in
theorem implIndexOf_any (a : Option Addr) (cap : Nat) (ts : List Tb) (w : World) (ha : Tubes w a ts) (hS : Small ts) :
    Calls Tryz.prog 26 #[.slice a ts.length cap] w fun e w' => (∃ v cs, e = .returned (.agg #[v]) ∧ OwnX w.heap.size w' v cs ∧ IdxIs ts (idxOf cs)) ∧ Gr w w' := by
  cases hsky : skyB ts
  · have HSK := implSkyOk_any a cap ts _ (tubes_gr ha ((Gr.refl w).alloc (.cells #[.slice none 0 0] 48))) hS
    rw [hsky] at HSK
    have HI : Hid (IdxIs ts (idxOf [])) := by
      show IdxIs ts (idxOf [])
      unfold IdxIs
      rw [hsky]
      rfl
    go_enter Tryz.func26, Tryz.ntmps26
    go_wp2_with fail
    refine HSK.mono ?_
    rintro e w1 ⟨rfl, g1⟩
    have r0 : w1.cell? ⟨w.heap.size, 0, none⟩ = some (.slice none 0 0) := (g1.cells.1 _ _ (by simp)).trans (by simp)
    have r1 : w1.frozen? ⟨w.heap.size, 0, none⟩ = false := (g1.cells.2 _ _ (by simp)).trans (by simp)
    go_wp2
    exact bodyPost_ret (v := .agg #[.slice none 0 0]) (by simp [results, Tryz.results26, go_sem, r0]) rfl ⟨⟨_, [], rfl, ownX_nil _ _, HI.out⟩, (((Gr.refl w).alloc _).trans g1).setCell (Nat.le_refl _) _⟩
  · refine (implIndexOf_ok a cap ts w ha hS hsky).mono ?_
    rintro e w' ⟨⟨v, cs, rfl, h1, h2⟩, g⟩
    refine ⟨⟨v, cs, rfl, h1, ?_⟩, g⟩
    unfold IdxIs
    rw [hsky]
    exact h2
end Go.Proofs.YtpdcgjkfilohcabGreat

namespace Go.Proofs.YtpdcgjkfilohcabGreat
open Go.RowKit Go.Sort Go.Maps
set_option linter.unusedSimpArgs false
set_option linter.unusedVariables false

/-! Indexes held against each other. -/

/-- A slot lies in six cells. -/
def SixS (w : World) (g o : Nat) (s : Sl) : Prop :=
  w.cell? ⟨g, o, none⟩ = some (.int .i64 s.i) ∧ w.cell? ⟨g, o + 1, none⟩ = some (.int .i64 s.o) ∧ w.cell? ⟨g, o + 2, none⟩ = some (.int .i64 s.l) ∧ w.cell? ⟨g, o + 3, none⟩ = some (.int .i64 s.h) ∧ w.cell? ⟨g, o + 4, none⟩ = some (.string s.s) ∧ w.cell? ⟨g, o + 5, none⟩ = some (.int .i64 s.p)
def Slots (w : World) (a : Option Addr) (ss : List Sl) : Prop := ∀ k, k < ss.length → ∃ g o, a = some ⟨g, o, none⟩ ∧ g < w.heap.size ∧ SixS w g (o + k * 6) (ss.getD k Sl.nil)
theorem sixS_gr {w wr : World} {g o : Nat} {s : Sl} (h : SixS w g o s) (gr : Gr w wr) (hg : g < w.heap.size) : SixS wr g o s := by
  obtain ⟨hc, _⟩ := gr.cells
  unfold SixS at *
  simp only [hc g _ hg]
  exact h
theorem slots_gr {w wr : World} {a : Option Addr} {ss : List Sl} (h : Slots w a ss) (gr : Gr w wr) : Slots wr a ss := fun k hk => by
  obtain ⟨g, o, e, hg, hx⟩ := h k hk
  exact ⟨g, o, e, Nat.lt_of_lt_of_le hg gr.size, sixS_gr hx gr hg⟩
theorem at_six {l : List Sl} {k : Nat} (hk : k < l.length) : ∀ i, i < 6 → (l.flatMap encS)[k * 6 + i]? = (encS (l.getD k Sl.nil))[i]? := by
  induction l generalizing k with
  | nil => simp at hk
  | cons x l ih =>
    intro i hi
    rw [List.flatMap_cons]
    cases k with
    | zero =>
      rw [Nat.zero_mul, Nat.zero_add, List.getElem?_append_left (by simp [encS]; omega)]
      rfl
    | succ k =>
      have e : (k + 1) * 6 + i = 6 + (k * 6 + i) := by omega
      rw [e, List.getElem?_append_right (by simp [encS])]
      simp only [encS, List.length_cons, List.length_nil, Nat.add_sub_cancel_left, Nat.reduceAdd]
      exact ih (by simpa using hk) i hi
theorem own_slots {w : World} {lo n : Nat} {e : TypeId} {a : Option Addr} {m cap : Nat} {ss : List Sl} (hn : n = ss.length) (h : w.ownsRow lo e 6 (.slice a m cap) n (ss.flatMap encS)) : Slots w a ss := by
  intro k hk
  rcases id h.2 with ⟨_, h0⟩ | ⟨g, cap', cur, e1, hb, hg, _⟩
  · omega
  · simp only [Value.slice.injEq] at e1
    obtain ⟨rfl, rfl, rfl⟩ := e1
    refine ⟨g, 0, rfl, (Array.getElem?_eq_some_iff.1 hg).1, ?_⟩
    have key : ∀ i, i < 6 → w.cell? ⟨g, k * 6 + i, none⟩ = (encS (ss.getD k Sl.nil))[i]? := fun i hi => (h.cellAt _ (by omega)).trans (at_six hk i hi)
    rw [Nat.zero_add]
    exact ⟨key 0 (by omega), key 1 (by omega), key 2 (by omega), key 3 (by omega), key 4 (by omega), key 5 (by omega)⟩

set_option maxHeartbeats 1000000 in
theorem eqSlot_same (s : Sl) (w : World) : Calls Tryz.prog 164 #[.agg #[.int .i64 s.i, .int .i64 s.o, .int .i64 s.l, .int .i64 s.h, .string s.s, .int .i64 s.p], .agg #[.int .i64 s.i, .int .i64 s.o, .int .i64 s.l, .int .i64 s.h, .string s.s, .int .i64 s.p]] w fun e w' => e = .returned (.bool true) ∧ Gr w w' := by
  go_enter Tryz.func164, Tryz.ntmps164
  go_wp2
  go_ret
  exact ⟨rfl, ((Gr.refl _).alloc _).alloc _⟩

set_option maxHeartbeats 2000000 in
theorem eqSlotS_same (a a' : Option Addr) (cap cap' : Nat) (ss : List Sl) (w : World) (ha : Slots w a ss) (ha' : Slots w a' ss) (hn : ss.length ≤ 1048576) :
    Calls Tryz.prog 141 #[.slice a ss.length cap, .slice a' ss.length cap'] w fun e w' => e = .returned (.bool true) ∧ Gr w w' := by
  go_enter Tryz.func141, Tryz.ntmps141
  go_wp2
  go_loopw [5] (fun i wr => ∃ k : Nat, k ≤ ss.length ∧ i = .int .i64 k ∧ Gr w wr) (fun i _ => ss.length - (intOf i).toNat)
  case atStart => exact ⟨0, Nat.zero_le _, rfl, Gr.refl _⟩
  case round =>
    obtain ⟨k, hk, rfl, gr⟩ := hrel
    by_cases hkl : k < ss.length
    · obtain ⟨g, o, rfl, hg, hx⟩ := ha k hkl
      obtain ⟨g', o', rfl, hg', hx'⟩ := ha' k hkl
      obtain ⟨s, hb⟩ : ∃ s, s = ss.getD k Sl.nil := ⟨_, rfl⟩
      rw [← hb] at hx hx'
      clear hb
      have hi0 : (0 : Int) ≤ (k : Int) := by omega
      have hi1 : (k : Int) < (ss.length : Int) := by omega
      have y := sixS_gr hx gr hg
      have y' := sixS_gr hx' gr hg'
      have hgr := gr.size
      have HG : Hid (Gr w wr) := gr
      clear gr hx hx' ha ha'
      go_wp2_with fail
      go_region_held3 (fun w' => (Gr wr w' ∧ w'.cell? ⟨g, o + k * 6, none⟩ = some (.int .i64 s.i) ∧ w'.cell? ⟨g, o + k * 6 + 1, none⟩ = some (.int .i64 s.o) ∧ w'.cell? ⟨g, o + k * 6 + 2, none⟩ = some (.int .i64 s.l) ∧ w'.cell? ⟨g, o + k * 6 + 3, none⟩ = some (.int .i64 s.h) ∧ w'.cell? ⟨g, o + k * 6 + 4, none⟩ = some (.string s.s) ∧ w'.cell? ⟨g, o + k * 6 + 5, none⟩ = some (.int .i64 s.p)) ∧ w'.cell? ⟨g', o' + k * 6, none⟩ = some (.int .i64 s.i) ∧ w'.cell? ⟨g', o' + k * 6 + 1, none⟩ = some (.int .i64 s.o) ∧ w'.cell? ⟨g', o' + k * 6 + 2, none⟩ = some (.int .i64 s.l) ∧ w'.cell? ⟨g', o' + k * 6 + 3, none⟩ = some (.int .i64 s.h) ∧ w'.cell? ⟨g', o' + k * 6 + 4, none⟩ = some (.string s.s) ∧ w'.cell? ⟨g', o' + k * 6 + 5, none⟩ = some (.int .i64 s.p))
        (first
          | exact ⟨⟨(Gr.refl _).drew, y⟩, y'⟩
          | exact ⟨⟨(Gr.refl _).drew.trans g1, sixS_gr (w := wr.drew) y g1 (Nat.lt_of_lt_of_le hg hgr)⟩, sixS_gr (w := wr.drew) y' g1 (Nat.lt_of_lt_of_le hg' hgr)⟩)
        (first
          | (go_at_call 164; refine (eqSlot_same s _).mono ?_; rintro e w1 ⟨rfl, g1⟩))
      go_wp2
      go_roundw
      case rel => exact ⟨k + 1, by omega, by go_num, HG.out.trans (And.left (And.left (by assumption)))⟩
      case measure => simp [intOf]; omega
    · go_wp2
      go_ret
      exact ⟨rfl, gr⟩

/-- Cells lie one behind the other, each with its row. -/
def CellsR (w : World) (a : Option Addr) (cs : List ((Int × Int) × Value × List Sl)) : Prop :=
  ∀ k, k < cs.length → ∃ g o sa sc, a = some ⟨g, o, none⟩ ∧ g < w.heap.size ∧ w.cell? ⟨g, o + k * 3, none⟩ = some (.int .i64 (cs.getD k ((0, 0), .nilFunc, [])).1.1) ∧ w.cell? ⟨g, o + k * 3 + 1, none⟩ = some (.int .i64 (cs.getD k ((0, 0), .nilFunc, [])).1.2) ∧ w.cell? ⟨g, o + k * 3 + 2, none⟩ = some (.slice sa (cs.getD k ((0, 0), .nilFunc, [])).2.2.length sc) ∧ (cs.getD k ((0, 0), .nilFunc, [])).2.1 = .slice sa (cs.getD k ((0, 0), .nilFunc, [])).2.2.length sc ∧ Slots w sa (cs.getD k ((0, 0), .nilFunc, [])).2.2

set_option maxHeartbeats 1000000 in
theorem eqCell_same (x y : Int) (a a' : Option Addr) (cap cap' : Nat) (ss : List Sl) (w : World) (ha : Slots w a ss) (ha' : Slots w a' ss) (hn : ss.length ≤ 1048576) :
    Calls Tryz.prog 89 #[.agg #[.int .i64 x, .int .i64 y, .slice a ss.length cap], .agg #[.int .i64 x, .int .i64 y, .slice a' ss.length cap']] w fun e w' => e = .returned (.bool true) ∧ Gr w w' := by
  go_enter Tryz.func89, Tryz.ntmps89
  go_wp2_with (go_at_call 141; refine (eqSlotS_same _ _ _ _ ss _ (slots_gr ha (((Gr.refl _).alloc _).alloc _)) (slots_gr ha' (((Gr.refl _).alloc _).alloc _)) hn).mono ?_; rintro e w1 ⟨rfl, g1⟩)
  go_ret
  exact ⟨rfl, (((Gr.refl _).alloc _).alloc _).trans g1⟩
end Go.Proofs.YtpdcgjkfilohcabGreat

namespace Go.Proofs.YtpdcgjkfilohcabGreat
open Go.RowKit Go.Sort Go.Maps
set_option linter.unusedSimpArgs false
set_option linter.unusedVariables false

/-! An index of the call's own: cell by cell, held, turned. -/

abbrev Cx := (Int × Int) × Value × List Sl
def Cx.nil : Cx := ((0, 0), .nilFunc, [])
theorem hidE {p : Prop} (h : p) : Hid p := h
theorem cellRow_len (l : List ((Int × Int) × Value)) : (cellRow l).length = l.length * 3 := by
  induction l with
  | nil => rfl
  | cons x l ih => simp only [cellRow, List.flatMap_cons, List.length_append, List.length_cons, List.length_nil] at *; omega
theorem cellRow_app (l m : List ((Int × Int) × Value)) : cellRow (l ++ m) = cellRow l ++ cellRow m := by simp [cellRow]
theorem cellRow_cons (c : (Int × Int) × Value) (l : List ((Int × Int) × Value)) : cellRow (c :: l) = .int .i64 c.1.1 :: .int .i64 c.1.2 :: c.2 :: cellRow l := by simp [cellRow]
/-- The cells of a row, at a place. -/
theorem cellRow_at {l : List ((Int × Int) × Value)} {k : Nat} {c : (Int × Int) × Value} (h : l[k]? = some c) : (cellRow l)[k * 3]? = some (.int .i64 c.1.1) ∧ (cellRow l)[k * 3 + 1]? = some (.int .i64 c.1.2) ∧ (cellRow l)[k * 3 + 2]? = some c.2 := by
  induction l generalizing k with
  | nil => simp at h
  | cons x l ih =>
    rw [cellRow_cons]
    cases k with
    | zero =>
      simp at h
      subst h
      exact ⟨rfl, rfl, rfl⟩
    | succ k =>
      have := ih (k := k) (by simpa using h)
      have e0 : (k + 1) * 3 = k * 3 + 3 := by omega
      have e1 : (k + 1) * 3 + 1 = k * 3 + 1 + 3 := by omega
      have e2 : (k + 1) * 3 + 2 = k * 3 + 2 + 3 := by omega
      rw [e2, e1, e0]
      exact this
theorem cx_get {cs : List Cx} {k : Nat} (hk : k < cs.length) : cs[k]? = some (cs.getD k Cx.nil) := by
  rw [List.getD_eq_getElem?_getD, List.getElem?_eq_getElem hk]
  rfl
/-- A row of cells that the call owns, read. -/
theorem own_cells {lo n cap : Nat} {w : World} {a : Option Addr} {cs : List Cx} (h : OwnX lo w (.slice a n cap) cs) : n = cs.length ∧ ∀ k, k < cs.length → ∃ g sa sc, a = some ⟨g, 0, none⟩ ∧ g < w.heap.size ∧ lo ≤ g ∧ w.cell? ⟨g, k * 3, none⟩ = some (.int .i64 (cs.getD k Cx.nil).1.1) ∧ w.cell? ⟨g, k * 3 + 1, none⟩ = some (.int .i64 (cs.getD k Cx.nil).1.2) ∧ w.cell? ⟨g, k * 3 + 2, none⟩ = some (.slice sa (cs.getD k Cx.nil).2.2.length sc) ∧ (cs.getD k Cx.nil).2.1 = .slice sa (cs.getD k Cx.nil).2.2.length sc ∧ Slots w sa (cs.getD k Cx.nil).2.2 ∧ ∀ o, w.frozen? ⟨g, o, none⟩ = false := by
  have hr := h.row
  have hn : n = cs.length := by
    rcases hr.2 with ⟨e, h0⟩ | ⟨g, c, cur, e, _⟩
    · simp only [Value.slice.injEq] at e
      omega
    · simp only [Value.slice.injEq] at e
      exact e.2.1
  subst hn
  refine ⟨rfl, fun k hk => ?_⟩
  rcases id hr.2 with ⟨_, h0⟩ | ⟨g, c, cur, e, hb, hg, _⟩
  · omega
  · simp only [Value.slice.injEq] at e
    obtain ⟨rfl, -, rfl⟩ := e
    have hm : (cs.map fun c => (c.1, c.2.1))[k]? = some ((cs.getD k Cx.nil).1, (cs.getD k Cx.nil).2.1) := by
      rw [List.getElem?_map, cx_get hk]
      rfl
    obtain ⟨q0, q1, q2⟩ := cellRow_at hm
    have hsl := h.slots _ (List.mem_of_getElem? (cx_get hk))
    obtain ⟨sa, sc, ev⟩ := row_form hsl
    rw [ev] at hsl q2
    exact ⟨g, sa, sc, rfl, (Array.getElem?_eq_some_iff.1 hg).1, hb, (hr.cellAt _ (by omega)).trans q0, (hr.cellAt _ (by omega)).trans q1, (hr.cellAt _ (by omega)).trans q2, ev, own_slots rfl hsl, fun o => hr.frozenAt o⟩
theorem ownX_gr {lo : Nat} {w w' : World} {v : Value} {cs : List Cx} (h : OwnX lo w v cs) (g : Gr w w') : OwnX lo w' v cs := ⟨owns_gr h.row g, fun c hc => owns_gr (h.slots c hc) g, h.apart⟩
theorem row_rm {l lo hi : Nat} {w w' : World} {e : TypeId} {size n : Nat} {v : Value} {xs : List Value} (h : w.ownsRow l e size v n xs) (hm : RM lo hi w w') (ho : ∀ g, v.ownBlock = some g → g < lo ∨ hi ≤ g) : w'.ownsRow l e size v n xs := by
  refine ⟨h.1, h.2.imp id (fun ⟨g, cap, cur, e1, hb, hg, r⟩ => ⟨g, cap, cur, e1, hb, ?_, r⟩)⟩
  rw [hm.2.2.2.2 g (Array.getElem?_eq_some_iff.1 hg).1 (ho g (by rw [e1]; rfl))]
  exact hg
/-- What lies apart from what is written stays. -/
theorem ownX_rm {l lo hi : Nat} {w w' : World} {v : Value} {cs : List Cx} (h : OwnX l w v cs) (hm : RM lo hi w w') (ho : hi ≤ l ∨ w.heap.size ≤ lo) : OwnX l w' v cs := by
  have key : ∀ {e : TypeId} {size n : Nat} {u : Value} {xs : List Value}, w.ownsRow l e size u n xs → w'.ownsRow l e size u n xs := fun hr => row_rm hr hm (fun g hg => by
    obtain ⟨h1, h2, -⟩ := row_block hr hg
    omega)
  exact ⟨key h.row, fun c hc => key (h.slots c hc), h.apart⟩
/-- An index made earlier than what is written. -/
theorem ownX_old {l lo hi : Nat} {w w0 w' : World} {v : Value} {cs : List Cx} (h : OwnX l w0 v cs) (g : Gr w0 w) (hm : RM lo hi w w') (ho : w0.heap.size ≤ lo) : OwnX l w' v cs := ownX_gr h (gr_rm g hm ho)
/-- The cells' row and the slots' rows are not in one block. -/
theorem ownX_ne {lo : Nat} {w : World} {v : Value} {cs : List Cx} (h : OwnX lo w v cs) {c : Cx} (hc : c ∈ cs) {g q : Nat} (hv : v.ownBlock = some g) (hq : c.2.1.ownBlock = some q) : g ≠ q := by
  rintro rfl
  obtain ⟨-, -, cur, e1⟩ := row_block h.row hv
  obtain ⟨-, -, cur', e2⟩ := row_block (h.slots c hc) hq
  rw [e1] at e2
  simp only [Option.some.injEq, Obj.cells.injEq] at e2
  exact absurd e2.2.1 (by decide)
theorem map_cx (A C : List Cx) (c : Cx) : ((A ++ c :: C).map fun c => (c.1, c.2.1)) = (A.map fun c => (c.1, c.2.1)) ++ (c.1, c.2.1) :: C.map fun c => (c.1, c.2.1) := by simp
theorem set_cell (A C : List ((Int × Int) × Value)) (c : (Int × Int) × Value) (p : Nat) (hp : A.length = p) (x y : Int) : ((cellRow (A ++ c :: C)).set (p * 3) (.int .i64 x)).set (p * 3 + 1) (.int .i64 y) = cellRow (A ++ ((x, y), c.2) :: C) := by
  have hl : (cellRow A).length = p * 3 := by rw [cellRow_len, hp]
  rw [cellRow_app, cellRow_app, cellRow_cons, cellRow_cons, List.set_append_right _ _ (by omega), hl, Nat.sub_self, List.set_cons_zero, List.set_append_right _ _ (by omega), hl, show p * 3 + 1 - p * 3 = 1 by omega]
  rfl
theorem set_slots (A C : List ((Int × Int) × Value)) (c : (Int × Int) × Value) (p : Nat) (hp : A.length = p) (v : Value) : (cellRow (A ++ c :: C)).set (p * 3 + 2) v = cellRow (A ++ (c.1, v) :: C) := by
  have hl : (cellRow A).length = p * 3 := by rw [cellRow_len, hp]
  rw [cellRow_app, cellRow_app, cellRow_cons, cellRow_cons, List.set_append_right _ _ (by omega), hl, show p * 3 + 2 - p * 3 = 2 by omega]
  rfl
/-- All but one cell of an index, when that one's row is turned. -/
theorem ownX_rest {lo : Nat} {w : World} {v : Value} {A C : List Cx} {c : Cx} (h : OwnX lo w v (A ++ c :: C)) : (∀ d, d ∈ A ∨ d ∈ C → w.ownsRow lo 84 6 d.2.1 d.2.2.length (d.2.2.flatMap encS) ∧ (d.2.1.ownBlock = none ∨ d.2.1.ownBlock ≠ c.2.1.ownBlock)) := by
  intro d hd
  have hp := h.apart
  rw [List.pairwise_append, List.pairwise_cons] at hp
  refine ⟨h.slots d (by simp; rcases hd with h | h <;> simp [h]), ?_⟩
  cases hb : d.2.1.ownBlock with
  | none => exact Or.inl rfl
  | some q =>
    refine Or.inr (fun e => ?_)
    rcases hd with hd | hd
    · exact hp.2.2 d hd c (by simp) q hb e.symm
    · exact hp.2.1.1 d hd q e.symm hb
/-- One cell of an index is turned in its place, its slots in the same block. -/
theorem ownX_turn {lo p g n cap : Nat} {w w2 : World} {A C : List Cx} {c : Cx} {x y : Int} {ss : List Sl} (h : OwnX lo w (.slice (some ⟨g, 0, none⟩) n cap) (A ++ c :: C)) (hn : n = (A ++ c :: C).length) (hp : A.length = p)
    (hg : ((w.setCell ⟨g, p * 3, none⟩ (.int .i64 x)).setCell ⟨g, p * 3 + 1, none⟩ (.int .i64 y)).grownBy w2 c.2.1.ownBlock) (hs : w2.ownsRow lo 84 6 c.2.1 ss.length (ss.flatMap encS)) :
    OwnX lo w2 (.slice (some ⟨g, 0, none⟩) n cap) (A ++ ((x, y), c.2.1, ss) :: C) := by
  subst hn
  have s1 := h.row.stored (p * 3) (.int .i64 x)
  have s2 := s1.1.stored (p * 3 + 1) (.int .i64 y)
  have hcm : c ∈ A ++ c :: C := by simp
  have hne : ∀ d ∈ A ++ c :: C, d.2.1.ownBlock = none ∨ d.2.1.ownBlock ≠ some g := fun d hd => by
    cases hb : d.2.1.ownBlock with
    | none => exact Or.inl rfl
    | some q => exact Or.inr (fun e => ownX_ne h hd (g := g) rfl hb (by cases e; rfl))
  have hG : w.grownBy ((w.setCell ⟨g, p * 3, none⟩ (.int .i64 x)).setCell ⟨g, p * 3 + 1, none⟩ (.int .i64 y)) (some g) := grown_trans s1.2 s2.2
  refine ⟨?_, fun d hd => ?_, ?_⟩
  · have s3 := s2.1
    rw [map_cx, set_cell _ _ _ _ (by simpa using hp)] at s3
    rw [map_cx]
    have s4 := s3.kept hg (by
      cases hb : c.2.1.ownBlock with
      | none => exact Or.inr (by simp [Value.ownBlock])
      | some q => exact Or.inr (fun e => ownX_ne h hcm (g := g) rfl hb (by simpa [Value.ownBlock] using e)))
    simpa using s4
  · simp only [List.mem_append, List.mem_cons] at hd
    rcases hd with hd | rfl | hd
    · obtain ⟨r1, r2⟩ := ownX_rest h d (Or.inl hd)
      exact (r1.kept hG (hne d (by simp [hd]))).kept hg r2
    · exact hs
    · obtain ⟨r1, r2⟩ := ownX_rest h d (Or.inr hd)
      exact (r1.kept hG (hne d (by simp [hd]))).kept hg r2
  · have hp := h.apart
    rw [List.pairwise_append, List.pairwise_cons] at hp ⊢
    refine ⟨hp.1, ⟨fun d hd => hp.2.1.1 d hd, hp.2.1.2⟩, fun d hd e he => ?_⟩
    rcases List.mem_cons.1 he with rfl | he
    · exact hp.2.2 d hd c (by simp)
    · exact hp.2.2 d hd e (by simp [he])
/-- One cell of an index gets another row of slots, a new one. -/
theorem ownX_slots {lo p g n cap : Nat} {w w1 : World} {A C : List Cx} {c : Cx} {v : Value} {ss : List Sl} (h : OwnX lo w (.slice (some ⟨g, 0, none⟩) n cap) (A ++ c :: C)) (hn : n = (A ++ c :: C).length) (hp : A.length = p)
    (hg : Gr w w1) (hs : w1.ownsRow w.heap.size 84 6 v ss.length (ss.flatMap encS)) (hlo : lo ≤ w.heap.size) :
    OwnX lo (w1.setCell ⟨g, p * 3 + 2, none⟩ v) (.slice (some ⟨g, 0, none⟩) n cap) (A ++ (c.1, v, ss) :: C) := by
  subst hn
  have h1 := ownX_gr h hg
  have s1 := h1.row.stored (p * 3 + 2) v
  have hgl : g < w.heap.size := (row_block h.row rfl).2.1
  have hnew : ∀ q, v.ownBlock = some q → w.heap.size ≤ q := fun q e => (row_block hs e).1
  have hne : ∀ d ∈ A ++ c :: C, d.2.1.ownBlock = none ∨ d.2.1.ownBlock ≠ some g := fun d hd => by
    cases hb : d.2.1.ownBlock with
    | none => exact Or.inl rfl
    | some q => exact Or.inr (fun e => ownX_ne h hd (g := g) rfl hb (by cases e; rfl))
  have hold : ∀ d ∈ A ++ c :: C, ∀ q, d.2.1.ownBlock = some q → q < w.heap.size := fun d hd q e => (row_block (h.slots d hd) e).2.1
  refine ⟨?_, fun d hd => ?_, ?_⟩
  · have s3 := s1.1
    rw [map_cx, set_slots _ _ _ _ (by simpa using hp)] at s3
    rw [map_cx]
    simpa using s3
  · simp only [List.mem_append, List.mem_cons] at hd
    rcases hd with hd | rfl | hd
    · exact (h1.slots d (by simp [hd])).kept s1.2 (hne d (by simp [hd]))
    · refine (own_lo hs hlo).kept s1.2 ?_
      cases hb : v.ownBlock with
      | none => exact Or.inl rfl
      | some q => exact Or.inr (fun e => by have := hnew q hb; cases e; omega)
    · exact (h1.slots d (by simp [hd])).kept s1.2 (hne d (by simp [hd]))
  · have hp := h.apart
    rw [List.pairwise_append, List.pairwise_cons] at hp ⊢
    refine ⟨hp.1, ⟨fun d hd q e e' => ?_, hp.2.1.2⟩, fun d hd e he => ?_⟩
    · have := hnew q e
      have := hold d (by simp [hd]) q e'
      omega
    · rcases List.mem_cons.1 he with rfl | he
      · intro q e1 e2
        have := hnew q e2
        have := hold d (by simp [hd]) q e1
        omega
      · exact hp.2.2 d hd e (by simp [he])
theorem idx_turn (A C : List Cx) (c : Cx) (v : Value) (ss : List Sl) : idxOf (A ++ (c.1, v, ss) :: C) = (idxOf (A ++ c :: C)).set A.length (c.1, ss) := by
  simp [idxOf]
theorem idx_len (cs : List Cx) : (idxOf cs).length = cs.length := by simp [idxOf]
theorem idx_get {cs : List Cx} {k : Nat} (hk : k < cs.length) : (idxOf cs)[k]? = some ((cs.getD k Cx.nil).1, (cs.getD k Cx.nil).2.2) := by
  rw [idxOf, List.getElem?_map, cx_get hk]
  rfl
end Go.Proofs.YtpdcgjkfilohcabGreat

namespace Go.Proofs.YtpdcgjkfilohcabGreat
open Go.RowKit Go.Sort Go.Maps
set_option linter.unusedSimpArgs false
set_option linter.unusedVariables false

theorem idx_same {cs ds : List Cx} (he : idxOf cs = idxOf ds) : ds.length = cs.length ∧ ∀ k, k < cs.length → (ds.getD k Cx.nil).1 = (cs.getD k Cx.nil).1 ∧ (ds.getD k Cx.nil).2.2 = (cs.getD k Cx.nil).2.2 := by
  have hl : ds.length = cs.length := by rw [← idx_len, ← idx_len, he]
  refine ⟨hl, fun k hk => ?_⟩
  have h1 := idx_get hk
  have h2 := idx_get (cs := ds) (k := k) (by omega)
  rw [he, h2] at h1
  simp only [Option.some.injEq, Prod.mk.injEq] at h1
  exact h1
set_option maxRecDepth 100000 in
set_option maxHeartbeats 4000000 in
theorem eqCellS_same (lo lo' : Nat) (a a' : Option Addr) (n n' cap cap' : Nat) (cs ds : List Cx) (w : World) (ha : OwnX lo w (.slice a n cap) cs) (ha' : OwnX lo' w (.slice a' n' cap') ds) (he : idxOf cs = idxOf ds) (hn : cs.length ≤ 1048576) (hs : ∀ c ∈ cs, c.2.2.length ≤ 1048576) :
    Calls Tryz.prog 51 #[.slice a n cap, .slice a' n' cap'] w fun e w' => e = .returned (.bool true) ∧ Gr w w' := by
  obtain ⟨rfl, hA⟩ := own_cells ha
  obtain ⟨rfl, hB⟩ := own_cells ha'
  obtain ⟨hl, hE⟩ := idx_same he
  rw [hl] at hB ⊢
  have HA := hidE hA
  have HB := hidE hB
  have HE := hidE hE
  have HS := hidE hs
  clear ha ha' hA hB hE hs he hl
  go_enter Tryz.func51, Tryz.ntmps51
  go_wp2
  go_loopw [5] (fun i wr => ∃ k : Nat, k ≤ cs.length ∧ i = .int .i64 k ∧ Gr w wr) (fun i _ => cs.length - (intOf i).toNat)
  case atStart => exact ⟨0, Nat.zero_le _, rfl, Gr.refl _⟩
  case round =>
    obtain ⟨k, hk, rfl, gr⟩ := hrel
    by_cases hkl : k < cs.length
    · obtain ⟨g, sa, sc, rfl, hg, -, x0, x1, x2, -, hsl, -⟩ := HA.out k hkl
      obtain ⟨g', sa', sc', rfl, hg', -, y0, y1, y2, -, hsl', -⟩ := HB.out k hkl
      obtain ⟨e1, e2⟩ := HE.out k hkl
      have hsn := HS.out _ (List.mem_of_getElem? (cx_get hkl))
      rw [e1] at y0 y1
      rw [e2] at y2 hsl'
      generalize cs.getD k Cx.nil = c at *
      clear e1 e2
      obtain ⟨⟨cx, cy⟩, v, ss⟩ := c
      simp only at x0 x1 x2 y0 y1 y2 hsl hsl' hsn
      have hi0 : (0 : Int) ≤ (k : Int) := by omega
      have hi1 : (k : Int) < (cs.length : Int) := by omega
      have hgr := gr.size
      have HG := hidE gr
      have G0 := Gr.refl wr
      have K1 : Hid (∀ w', Gr wr w' → Gr wr w' ∧ w'.cell? ⟨g, k * 3, none⟩ = some (.int .i64 cx) ∧ w'.cell? ⟨g, k * 3 + 1, none⟩ = some (.int .i64 cy) ∧ w'.cell? ⟨g, k * 3 + 2, none⟩ = some (.slice sa ss.length sc) ∧ w'.cell? ⟨g', k * 3, none⟩ = some (.int .i64 cx) ∧ w'.cell? ⟨g', k * 3 + 1, none⟩ = some (.int .i64 cy) ∧ w'.cell? ⟨g', k * 3 + 2, none⟩ = some (.slice sa' ss.length sc')) := fun w' h => by
        have q := (gr.trans h).cells.1
        exact ⟨h, (q _ _ hg).trans x0, (q _ _ hg).trans x1, (q _ _ hg).trans x2, (q _ _ hg').trans y0, (q _ _ hg').trans y1, (q _ _ hg').trans y2⟩
      have HS1 : Hid (∀ w', Gr wr w' → Slots w' sa ss ∧ Slots w' sa' ss) := fun w' h => ⟨slots_gr hsl (gr.trans h), slots_gr hsl' (gr.trans h)⟩
      clear gr x0 x1 x2 y0 y1 y2 hsl hsl'
      go_wp2_with fail
      go_region_held3 (fun w' => Gr wr w' ∧ w'.cell? ⟨g, k * 3, none⟩ = some (.int .i64 cx) ∧ w'.cell? ⟨g, k * 3 + 1, none⟩ = some (.int .i64 cy) ∧ w'.cell? ⟨g, k * 3 + 2, none⟩ = some (.slice sa ss.length sc) ∧ w'.cell? ⟨g', k * 3, none⟩ = some (.int .i64 cx) ∧ w'.cell? ⟨g', k * 3 + 1, none⟩ = some (.int .i64 cy) ∧ w'.cell? ⟨g', k * 3 + 2, none⟩ = some (.slice sa' ss.length sc'))
        ((refine K1.out _ ?_; repeat (first | with_reducible exact G0 | with_reducible assumption | with_reducible exact And.left (by assumption) | with_reducible refine Gr.drew ?_ | with_reducible refine Gr.alloc ?_ _)))
        ((go_at_call 89; (with_reducible refine Calls.mono (eqCell_same cx cy _ _ _ _ ss _ (HS1.out _ (And.left (by assumption))).1 (HS1.out _ (And.left (by assumption))).2 hsn) ?_); rintro e w1 ⟨rfl, g1⟩; have g2 := Gr.trans (And.left (by assumption)) g1))
      all_goals
        go_wp2
        go_roundw
        case rel => exact ⟨k + 1, by omega, by go_num, HG.out.trans g2⟩
        case measure => simp [intOf]; omega
    · go_wp2
      go_ret
      exact ⟨rfl, gr⟩
set_option maxHeartbeats 1000000 in
theorem eqIndex_same (lo lo' : Nat) (v v' : Value) (cs ds : List Cx) (w : World) (ha : OwnX lo w v cs) (ha' : OwnX lo' w v' ds) (he : idxOf cs = idxOf ds) (hn : cs.length ≤ 1048576) (hs : ∀ c ∈ cs, c.2.2.length ≤ 1048576) :
    Calls Tryz.prog 27 #[.agg #[v], .agg #[v']] w fun e w' => e = .returned (.bool true) ∧ Gr w w' := by
  obtain ⟨a, c, rfl⟩ := row_form ha.row
  obtain ⟨a', c', rfl⟩ := row_form ha'.row
  have G := ((Gr.refl w).alloc (.cells #[.slice a cs.length c] 48)).alloc (.cells #[.slice a' ds.length c'] 48)
  have HE := hidE (eqCellS_same lo lo' a a' _ _ c c' cs ds _ (ownX_gr ha G) (ownX_gr ha' G) he hn hs)
  have HG := hidE G
  clear ha ha' hs he G
  go_enter Tryz.func27, Tryz.ntmps27
  go_wp2_with fail
  (with_reducible refine Calls.mono HE.out ?_)
  rintro e w1 ⟨rfl, g1⟩
  go_wp2
  go_ret
  exact ⟨rfl, HG.out.trans g1⟩
end Go.Proofs.YtpdcgjkfilohcabGreat
