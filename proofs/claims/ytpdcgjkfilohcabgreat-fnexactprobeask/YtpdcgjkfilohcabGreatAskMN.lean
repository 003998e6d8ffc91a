import Derived.Test.YtpdcgjkfilohcabGreatAskFL
import Derived.Test.YtpdcgjkfilohcabGreatIter
import Derived.Shelf.SlIter.Nil
import Derived.Shelf.SortM.Plain
import Derived.Shelf.SortM.SortNone
namespace Go.Proofs.YtpdcgjkfilohcabGreat
open Go.RowKit Go.Sort Go.Maps
set_option linter.unusedSimpArgs false
set_option linter.unusedVariables false
attribute [local go_sem] Oper.semAt_some

/-! The slots around a box, walked. -/

/-- What lay below N stays, one block aside. -/
structure KeepLow (N fb : Nat) (W W' : World) : Prop where
  size : W.heap.size ≤ W'.heap.size
  same : ∀ k, k < N → k ≠ fb → W'.heap[k]? = W.heap[k]?
theorem KeepLow.refl (N fb : Nat) (W : World) : KeepLow N fb W W := ⟨Nat.le_refl _, fun _ _ _ => rfl⟩
theorem KeepLow.trans {N fb : Nat} {X Y Z : World} (h : KeepLow N fb X Y) (k : KeepLow N fb Y Z) : KeepLow N fb X Z := ⟨Nat.le_trans h.size k.size, fun i hi hf => (k.same i hi hf).trans (h.same i hi hf)⟩
theorem KeepLow.grown {N fb : Nat} {W W' : World} (hN : N ≤ W.heap.size) (hg : W.grownBy W' (some fb)) : KeepLow N fb W W' := ⟨hg.size, fun k hk hf => hg.block k (Nat.lt_of_lt_of_le hk hN) (fun e => hf (by cases e; rfl))⟩
theorem KeepLow.gr {N fb : Nat} {W W' : World} (hN : N ≤ W.heap.size) (g : Gr W W') : KeepLow N fb W W' := ⟨g.size, fun k hk _ => g.block k (Nat.lt_of_lt_of_le hk hN)⟩
theorem KeepLow.putObj {N fb : Nat} (W : World) {l : Nat} (o' : Obj) (hl : N ≤ l) : KeepLow N fb W (W.putObj l o') := ⟨(grownBy_putObj' W l o').size, fun k hk _ => by
  by_cases h : k < W.heap.size
  · exact (grownBy_putObj' W l o').block k h (fun e => by cases e; omega)
  · rw [Array.getElem?_eq_none (by simp [World.putObj]; omega), Array.getElem?_eq_none (by omega)]⟩
theorem row_low {w w' : World} {lo e size n : Nat} {v : Value} {xs : List Value} (h : w.ownsRow lo e size v n xs) (hk : ∀ g, v.ownBlock = some g → w'.heap[g]? = w.heap[g]?) : w'.ownsRow lo e size v n xs := by
  refine ⟨h.1, ?_⟩
  rcases h.2 with ⟨rfl, h0⟩ | ⟨g, cap, cur, rfl, hb, hh, r⟩
  · exact Or.inl ⟨rfl, h0⟩
  · exact Or.inr ⟨g, cap, cur, rfl, hb, (hk g rfl).trans hh, r⟩
theorem groups_low {P : Program} {K e : TypeId} {size : Nat} {enc : Sl → List Value} {lo b : Nat} {w w' : World} {S : Int × Int → List Sl} {ks : List (Int × Int)} {V : Int × Int → Value} (h : Groups P K e size enc lo b w S ks V) (hb : w'.heap[b]? = w.heap[b]?) (hV : ∀ k, Wk k → ∀ g, (V k).ownBlock = some g → w'.heap[g]? = w.heap[g]?) : Groups P K e size enc lo b w' S ks V := by
  obtain ⟨D, ⟨es, clock, h1, r⟩, h2⟩ := h.own
  exact ⟨⟨D, ⟨es, clock, hb.trans h1, r⟩, h2⟩, fun k hk => row_low (h.rows k hk) (hV k hk), h.apart⟩
/-- What the walk reads. -/
structure ReadsAt (Bb Bm lo mb : Nat) (b : Bx) (S : Int × Int → List Sl) (ks : List (Int × Int)) (V : Int × Int → Value) (W : World) : Prop where
  bx : W.cell? ⟨Bb, 0, none⟩ = some (.int .i64 b.x)
  bY : W.cell? ⟨Bb, 1, none⟩ = some (.int .i64 b.y)
  mp : W.cell? ⟨Bm, 0, none⟩ = some (.map (some mb))
  grp : Grp lo mb W S ks V
/-- Where it lies. -/
structure LowAt (N fb Bb Bm mb : Nat) (V : Int × Int → Value) : Prop where
  bb : Bb < N ∧ Bb ≠ fb
  bm : Bm < N ∧ Bm ≠ fb
  mb : mb < N ∧ mb ≠ fb
  vs : ∀ k, Wk k → ∀ g, (V k).ownBlock = some g → g < N ∧ g ≠ fb
theorem ReadsAt.low {N fb Bb Bm lo mb : Nat} {b : Bx} {S : Int × Int → List Sl} {ks : List (Int × Int)} {V : Int × Int → Value} {W W' : World} (h : ReadsAt Bb Bm lo mb b S ks V W) (L : LowAt N fb Bb Bm mb V) (k : KeepLow N fb W W') : ReadsAt Bb Bm lo mb b S ks V W' :=
  ⟨(World.cell?_of_block (k.same _ L.bb.1 L.bb.2)).trans h.bx, (World.cell?_of_block (k.same _ L.bb.1 L.bb.2)).trans h.bY, (World.cell?_of_block (k.same _ L.bm.1 L.bm.2)).trans h.mp, groups_low h.grp (k.same _ L.mb.1 L.mb.2) (fun c hc g hg => k.same _ (L.vs c hc g hg).1 (L.vs c hc g hg).2)⟩
theorem encS_get : ∀ {ss : List Sl} {i : Nat} {s : Sl}, ss[i]? = some s → ∀ j, j < 6 → (ss.flatMap encS)[i * 6 + j]? = (encS s)[j]?
  | [], i, s, h, j, hj => by simp at h
  | a :: l, 0, s, h, j, hj => by
    simp at h
    subst h
    rw [List.flatMap_cons, Nat.zero_mul, Nat.zero_add, List.getElem?_append_left (by simp [encS]; omega)]
  | a :: l, i + 1, s, h, j, hj => by
    have h' : l[i]? = some s := by simpa using h
    rw [List.flatMap_cons, List.getElem?_append_right (by simp [encS]; omega), ← encS_get h' j hj]
    congr 1
    simp [encS]
    omega
/-- A slot of a row, cell by cell. -/
theorem slotRow_cells {w : World} {lo g cap : Nat} {e : TypeId} {ss : List Sl} (h : w.ownsRow lo e 6 (.slice (some ⟨g, 0, none⟩) ss.length cap) ss.length (ss.flatMap encS)) {i : Nat} {s : Sl} (hi : ss[i]? = some s) :
    w.cell? ⟨g, i * 6, none⟩ = some (.int .i64 s.i) ∧ w.cell? ⟨g, i * 6 + 1, none⟩ = some (.int .i64 s.o) ∧ w.cell? ⟨g, i * 6 + 2, none⟩ = some (.int .i64 s.l) ∧ w.cell? ⟨g, i * 6 + 3, none⟩ = some (.int .i64 s.h) ∧ w.cell? ⟨g, i * 6 + 4, none⟩ = some (.string s.s) ∧ w.cell? ⟨g, i * 6 + 5, none⟩ = some (.int .i64 s.p) := by
  have hk : ∀ j, j < 6 → w.cell? ⟨g, i * 6 + j, none⟩ = (encS s)[j]? := fun j hj => by
    have hlt : i < ss.length := (List.getElem?_eq_some_iff.1 hi).1
    rw [h.cellAt _ (by omega)]
    exact encS_get hi j hj
  exact ⟨hk 0 (by omega), hk 1 (by omega), hk 2 (by omega), hk 3 (by omega), hk 4 (by omega), hk 5 (by omega)⟩
/-- The slots around a box. -/
def aroundS (S : Int × Int → List Sl) (b : Bx) : List Pt := (cellsAround b.x b.y).flatMap fun c => (S c).map fun s => (c, s)
abbrev ArS (S : Int × Int → List Sl) (b : Bx) := { p : Pt // p ∈ aroundS S b }
abbrev encAr {S : Int × Int → List Sl} {b : Bx} (x : ArS S b) : Array Value := #[.agg #[.int .i64 x.1.1.1, .int .i64 x.1.1.2], .agg #[.int .i64 x.1.2.i, .int .i64 x.1.2.o, .int .i64 x.1.2.l, .int .i64 x.1.2.h, .string x.1.2.s, .int .i64 x.1.2.p]]
/-- Those of the first cells, and some of the next. -/
def partA (S : Int × Int → List Sl) (b : Bx) (c : Int × Int) (m i : Nat) : List Pt := ((cellsAround b.x b.y).take m).flatMap (fun c => (S c).map fun s => (c, s)) ++ ((S c).take i).map fun s => (c, s)
theorem cell_around (b : Bx) {p q : Nat} (hp : p < 3) (hq : q < 3) : (cellsAround b.x b.y)[p * 3 + q]? = some (b.x - 1 + p, b.y - 1 + q) := by
  have h1 : p = 0 ∨ p = 1 ∨ p = 2 := by omega
  have h2 : q = 0 ∨ q = 1 ∨ q = 2 := by omega
  rcases h1 with rfl | rfl | rfl <;> rcases h2 with rfl | rfl | rfl <;> simp [cellsAround] <;> omega
theorem partA_zero (S : Int × Int → List Sl) (b : Bx) (c : Int × Int) (m : Nat) : partA S b c m 0 = ((cellsAround b.x b.y).take m).flatMap (fun c => (S c).map fun s => (c, s)) := by simp [partA]
theorem partA_snoc {S : Int × Int → List Sl} {b : Bx} {c : Int × Int} {m i : Nat} {s : Sl} (hs : (S c)[i]? = some s) : partA S b c m (i + 1) = partA S b c m i ++ [(c, s)] := by
  unfold partA
  rw [List.take_add_one, hs]
  simp
theorem partA_next {S : Int × Int → List Sl} {b : Bx} {c : Int × Int} {m : Nat} (hc : (cellsAround b.x b.y)[m]? = some c) (c' : Int × Int) : partA S b c m (S c).length = partA S b c' (m + 1) 0 := by
  rw [partA_zero]
  unfold partA
  rw [List.take_length, List.take_add_one, hc]
  simp
theorem partA_all (S : Int × Int → List Sl) (b : Bx) (c : Int × Int) : partA S b c 9 0 = aroundS S b := by
  rw [partA_zero]
  rfl
theorem partA_lt {S : Int × Int → List Sl} {b : Bx} {c : Int × Int} {m i : Nat} (hc : (cellsAround b.x b.y)[m]? = some c) (hi : i < (S c).length) : (partA S b c m i).length < (aroundS S b).length := by
  have h1 : aroundS S b = ((cellsAround b.x b.y).take m).flatMap (fun c => (S c).map fun s => (c, s)) ++ ((S c).map (fun s => (c, s)) ++ ((cellsAround b.x b.y).drop (m + 1)).flatMap (fun c => (S c).map fun s => (c, s))) := by
    have h2 : cellsAround b.x b.y = (cellsAround b.x b.y).take m ++ c :: (cellsAround b.x b.y).drop (m + 1) := by
      obtain ⟨hlt, he⟩ := List.getElem?_eq_some_iff.1 hc
      rw [← he, List.getElem_cons_drop, List.take_append_drop]
    unfold aroundS
    conv => lhs; rw [h2]
    rw [List.flatMap_append, List.flatMap_cons]
  rw [h1]
  unfold partA
  simp only [List.length_append, List.length_map, List.length_take]
  omega
theorem mem_aroundS {S : Int × Int → List Sl} {b : Bx} {c : Int × Int} {m i : Nat} {s : Sl} (hc : (cellsAround b.x b.y)[m]? = some c) (hs : (S c)[i]? = some s) : (c, s) ∈ aroundS S b := by
  unfold aroundS
  exact List.mem_flatMap.2 ⟨c, List.mem_of_getElem? hc, List.mem_map.2 ⟨s, List.mem_of_getElem? hs, rfl⟩⟩

set_option maxRecDepth 100000 in
set_option maxHeartbeats 2000000 in
theorem around_in (F : Fence) (k : Nat) (hF : F.fn 97) (hro : F.round = none) (hk : 1 ≤ k) (b : Bx) (hx0 : -1000000 ≤ b.x) (hx1 : b.x ≤ 1000000) (hy0 : -1000000 ≤ b.y) (hy1 : b.y ≤ 1000000) (N fb l Bb Bm lo mb : Nat) (S : Int × Int → List Sl) (ks : List (Int × Int)) (V : Int × Int → Value)
    (hlen : ∀ c, (S c).length ≤ 1048576) (LA : LowAt N fb Bb Bm mb V) (J Jx : List (ArS S b) → World → Prop)
    (hY : ∀ pre x W, J pre W → pre.length < (aroundS S b).length → YieldAt F (k - 1) Tryz.prog l (encAr x) W fun e W' =>
      (e = .returned (.bool true) ∧ J (pre ++ [x]) W' ∧ KeepLow N fb W W') ∨ (e = .returned (.bool false) ∧ Jx (pre ++ [x]) W'))
    (W : World) (hJ : AbidesFrom W.heap.size J) (hR : ReadsAt Bb Bm lo mb b S ks V W) (hN : N ≤ W.heap.size) (h0 : J [] W) :
    CallsIn F k Tryz.prog 97 #[.func (.yield l) #[] #[], .pointer (some ⟨Bb, 0, none⟩), .pointer (some ⟨Bm, 0, none⟩)] W fun e W' => (∃ v, e = .returned v) ∧
      ((∃ xs, xs.map (·.1) = aroundS S b ∧ J xs W') ∨ (∃ pre, True ∧ Jx pre W')) := by
  refine callsIn_of_wp Tryz.func97 rfl hF ?_ hro
  simp only [Tryz.ntmps97, List.size_toArray, List.length_cons, List.length_nil, Nat.reduceAdd, Nat.reduceSub, Array.replicate_succ, Array.replicate_zero, List.push_toArray, List.append_toArray, List.nil_append, List.cons_append]
  have HR := hidE hR
  have bx := hR.bx
  clear hR
  gi_wp2
  gi_loopw [4] (fun i wr => ∃ (p : Nat) (x : Int) (pre : List (ArS S b)), p ≤ 3 ∧ Hid (x = b.x - 1 + p) ∧ i = .int .i64 x ∧ Hid (pre.map (·.1) = partA S b (0, 0) (p * 3) 0) ∧ J pre wr ∧ Hid (ReadsAt Bb Bm lo mb b S ks V wr) ∧ N ≤ wr.heap.size) (fun i _ => (b.x + 2 - intOf i).toNat)
  case atStart => exact ⟨0, _, [], Nat.zero_le _, by show _ = _; omega, rfl, rfl, h0, HR, hN⟩
  case round =>
    obtain ⟨p, x, pre, hp, HX, rfl, HP, hJs, HR, hN⟩ := hrel
    have hxa : -1000001 ≤ x := by have := HX.out; omega
    have hxb : x ≤ 1000002 := by have := HX.out; omega
    have bx := HR.out.bx
    have bY := HR.out.bY
    by_cases hpl : p < 3
    · have hlt : x < b.x + 2 := by have := HX.out; omega
      gi_wp2
      gi_loopw [5] (fun j wq => ∃ (q : Nat) (y : Int) (pre : List (ArS S b)), q ≤ 3 ∧ Hid (y = b.y - 1 + q) ∧ j = .int .i64 y ∧ Hid (pre.map (·.1) = partA S b (0, 0) (p * 3 + q) 0) ∧ J pre wq ∧ Hid (ReadsAt Bb Bm lo mb b S ks V wq) ∧ N ≤ wq.heap.size) (fun j _ => (b.y + 2 - intOf j).toNat)
      case atStart => exact ⟨0, _, pre, Nat.zero_le _, by show _ = _; omega, rfl, HP, hJs, HR, hN⟩
      case round =>
        clear bx bY HP hJs HR hN
        obtain ⟨q, y, pre, hq, HY, rfl, HP, hJs, HR, hN⟩ := hrel
        have hya : -1000001 ≤ y := by have := HY.out; omega
        have hyb : y ≤ 1000002 := by have := HY.out; omega
        rename World => wq
        have bx := HR.out.bx
        have bY := HR.out.bY
        have bm := HR.out.mp
        by_cases hql : q < 3
        · have hlt2 : y < b.y + 2 := by have := HY.out; omega
          have HC : Hid ((cellsAround b.x b.y)[p * 3 + q]? = some (x, y)) := by
            show _ = _
            rw [cell_around b hpl hql, HX.out, HY.out]
          have hW : Wk (x, y) := by constructor <;> simp [Lit.wf, IntKind.min, IntKind.max, IntKind.bits, IntKind.signed] <;> omega
          obtain ⟨a, cap, hv⟩ := row_form (HR.out.grp.rows (x, y) hW)
          have hL := HR.out.grp.look keyT Tryz.underlying79 (Tryz.zeroSlots _) hW
          rw [hv] at hL
          dsimp only [kv] at hL
          have hl2 := hlen (x, y)
          have HV := hidE hv
          have HWk := hidE hW
          clear hv hW
          gi_wp2
          gi_loopw [36] (fun j wz => ∃ (i : Nat) (pre : List (ArS S b)), i ≤ (S (x, y)).length ∧ j = .int .i64 i ∧ Hid (pre.map (·.1) = partA S b (x, y) (p * 3 + q) i) ∧ J pre wz ∧ Hid (ReadsAt Bb Bm lo mb b S ks V wz) ∧ N ≤ wz.heap.size) (fun j _ => (S (x, y)).length - (intOf j).toNat)
          case atStart => exact ⟨0, pre, Nat.zero_le _, rfl, by have := HP.out; rw [partA_zero] at this; show _ = _; rw [partA_zero]; exact this, hJs, HR, hN⟩
          case round =>
            clear bx bY bm HP hJs HR hN hL
            obtain ⟨i, pre, hi, rfl, HP, hJs, HR, hN⟩ := hrel
            rename World => wz
            by_cases hil : i < (S (x, y)).length
            · obtain ⟨s, hs⟩ : ∃ s, (S (x, y))[i]? = some s := ⟨_, List.getElem?_eq_getElem hil⟩
              have hrow := HR.out.grp.rows (x, y) HWk.out
              rw [HV.out] at hrow
              obtain ⟨g, cap', e⟩ := row_some hrow (by omega)
              simp only [Value.slice.injEq, true_and] at e
              obtain ⟨rfl, rfl⟩ := e
              obtain ⟨z0, z1, z2, z3, z4, z5⟩ := slotRow_cells hrow hs
              have hmem : ((x, y), s) ∈ aroundS S b := mem_aroundS HC.out hs
              have hJ2 : J pre (wz.alloc (.cells #[.int .i64 s.i, .int .i64 s.o, .int .i64 s.l, .int .i64 s.h, .string s.s, .int .i64 s.p] 84)) := hJ pre wz _ none hJs (World.grownBy_alloc _ _ _) (fun r e => by cases e)
              have hlt3 : pre.length < (aroundS S b).length := by
                have h9 := congrArg List.length HP.out
                rw [List.length_map] at h9
                rw [h9]
                exact partA_lt HC.out hil
              obtain ⟨fn, tmps, assign, body, hy, hR⟩ := hY pre ⟨((x, y), s), hmem⟩ _ hJ2 hlt3
              dsimp only [encAr] at hy
              have hi0 : (0 : Int) ≤ (i : Int) := by omega
              have hi1 : (i : Int) < ((S (x, y)).length : Int) := by omega
              have HS : Hid (partA S b (x, y) (p * 3 + q) (i + 1) = partA S b (x, y) (p * 3 + q) i ++ [((x, y), s)]) := partA_snoc hs
              have HRR := hidE hR
              clear hrow hs hJ2 hR hlt3
              gi_wp2
              refine HRR.out.mono ?_
              rintro e W3 (⟨rfl, hJ3, hk3⟩ | ⟨rfl, hJx3⟩)
              · have HK : Hid (KeepLow N fb wz W3) := (KeepLow.gr hN ((Gr.refl wz).alloc _)).trans hk3
                have HR3 : Hid (ReadsAt Bb Bm lo mb b S ks V W3) := HR.out.low LA HK.out
                have hN3 : N ≤ W3.heap.size := Nat.le_trans hN HK.out.size
                clear hk3
                gi_wp2
                go_roundw
                case rel => exact ⟨i + 1, pre ++ [⟨((x, y), s), hmem⟩], by omega, by go_num, by show _ = _; rw [HS.out, ← HP.out, List.map_append]; rfl, hJ3, HR3, hN3⟩
                case measure => simp [intOf]; omega
              · gi_wp2
                refine bodyPost_ret (results_none rfl _ _ _) rfl ?_
                exact ⟨⟨_, rfl⟩, .inr ⟨_, trivial, hJx3⟩⟩
            · have e : i = (S (x, y)).length := by omega
              have HP2 : Hid (pre.map (·.1) = partA S b (0, 0) (p * 3 + (q + 1)) 0) := by
                show _ = _
                rw [HP.out, e, partA_next HC.out (0, 0), Nat.add_assoc]
              have hni : ¬ ((i : Int) < ((S (x, y)).length : Int)) := by omega
              have HR9 := HR
              clear e HP
              gi_wp2
              go_roundw
              case rel => exact ⟨q + 1, y + 1, pre, by omega, by have := HY.out; show _ = _; omega, by go_num, HP2, hJs, HR9, hN⟩
              case measure => simp [intOf]; omega
        · have eq3 : q = 3 := by omega
          have hlt2 : ¬ y < b.y + 2 := by have := HY.out; omega
          have HP2 : Hid (pre.map (·.1) = partA S b (0, 0) ((p + 1) * 3) 0) := by
            show _ = _
            rw [HP.out, eq3, Nat.add_mul, Nat.one_mul]
          clear HP
          gi_wp2
          go_roundw
          case rel => exact ⟨p + 1, x + 1, pre, by omega, by have := HX.out; show _ = _; omega, by go_num, HP2, hJs, HR, hN⟩
          case measure => simp [intOf]; omega
    · have ep : p = 3 := by omega
      have hlt : ¬ x < b.x + 2 := by have := HX.out; omega
      have HF : Hid (pre.map (·.1) = aroundS S b) := by
        show _ = _
        rw [HP.out, ep]
        exact partA_all S b (0, 0)
      clear HP
      gi_wp2
      go_end0
      exact ⟨⟨_, rfl⟩, .inl ⟨pre, HF.out, hJs⟩⟩

theorem around_stops (F : Fence) (k : Nat) (hF : F.fn 97) (hro : F.round = none) (hk : 1 ≤ k) (b : Bx) (hx0 : -1000000 ≤ b.x) (hx1 : b.x ≤ 1000000) (hy0 : -1000000 ≤ b.y) (hy1 : b.y ≤ 1000000) (fb Bb Bm lo mb : Nat) (S : Int × Int → List Sl) (ks : List (Int × Int)) (V : Int × Int → Value)
    (hlen : ∀ c, (S c).length ≤ 1048576) (w : World) (LA : LowAt w.heap.size fb Bb Bm mb V) (hR : ReadsAt Bb Bm lo mb b S ks V w) :
    SeqStopsK F k Tryz.prog 97 #[.pointer (some ⟨Bb, 0, none⟩), .pointer (some ⟨Bm, 0, none⟩)] (encAr (S := S) (b := b)) (KeepLow w.heap.size fb) (fun xs => xs.map (·.1) = aroundS S b) (fun _ => True) (aroundS S b).length w :=
  fun l J Jx W hW hJ _ hY h0 => around_in F k hF hro hk b hx0 hx1 hy0 hy1 w.heap.size fb l Bb Bm lo mb S ks V hlen LA J Jx hY W hJ (hR.low LA (KeepLow.gr (Nat.le_refl _) hW)) hW.size h0
end Go.Proofs.YtpdcgjkfilohcabGreat

namespace Go.Proofs.YtpdcgjkfilohcabGreat
open Go.RowKit Go.Sort Go.Maps Go.Shelf
set_option linter.unusedSimpArgs false
set_option linter.unusedVariables false

/-! The keys of the first clashes, ascending. -/

theorem strKeys_nodup {P : Program} {K : TypeId} {w : World} {b n : Nat} {D : DataW Value} (h : w.ownsMap P K tok b n D) (hK : P.underlying K = some .string) : (strKeys D).Nodup ∧ ∀ x, x ∈ strKeys D ↔ has D (.string x) = true := by
  obtain ⟨es, hD, hpw, -⟩ := h.entries (string_keyed hK)
  obtain ⟨es', hD', hko⟩ := h.keysOf
  obtain rfl : es = es' := by rw [hD] at hD'; simpa using hD'
  subst hD
  have hs : ∀ p ∈ es, ∃ x, p.1 = .string x := fun p hp => by
    obtain ⟨v, hv⟩ := hko p hp
    obtain ⟨x, -, hx, -⟩ := Maps.keyOf_str hK hv
    exact ⟨x, hx⟩
  constructor
  · refine List.pairwise_map.2 (hpw.imp_of_mem fun {p q} hp hq hne e => hne ?_)
    obtain ⟨x, hx⟩ := hs p hp
    obtain ⟨y, hy⟩ := hs q hq
    rw [hx, hy] at e ⊢
    exact congrArg _ e
  · intro x
    rw [has_eq, List.any_eq_true]
    show x ∈ es.map (fun p => strOf p.1) ↔ _
    rw [List.mem_map]
    constructor
    · rintro ⟨p, hp, rfl⟩
      obtain ⟨y, hy⟩ := hs p hp
      exact ⟨p, hp, by rw [hy]; simp [Lit.sameKey, strOf]⟩
    · rintro ⟨p, hp, e⟩
      obtain ⟨y, hy⟩ := hs p hp
      rw [hy] at e
      exact ⟨p, hp, by rw [hy]; simpa [Lit.sameKey, strOf] using e⟩
def baOf (l : List UInt8) : ByteArray := ⟨l.toArray⟩
theorem baOf_list (s : ByteArray) : baOf s.data.toList = s := by simp [baOf]
theorem list_baOf (l : List UInt8) : (baOf l).toList = l := by rw [ByteArray.toList_eq]; simp [baOf]
def namesIn (D : DataW Value) : List ByteArray := ((strKeys D).mergeSort leB).map baOf
theorem namesIn_asc {P : Program} {K : TypeId} {w : World} {b n : Nat} {D : DataW Value} (h : w.ownsMap P K tok b n D) (hK : P.underlying K = some .string) : (namesIn D).Pairwise fun a b => nmLt a b = true := by
  have tr : ∀ a b c : List UInt8, leB a b = true → leB b c = true → leB a c = true := fun a b c h1 h2 => by simp only [leB, decide_eq_true_eq] at *; exact List.le_trans h1 h2
  have tot : ∀ a b : List UInt8, (leB a b || leB b a) = true := fun a b => by simp only [leB, Bool.or_eq_true, decide_eq_true_eq]; exact List.le_total a b
  have hs := List.pairwise_mergeSort tr tot (strKeys D)
  have hn : ((strKeys D).mergeSort leB).Nodup := ((List.mergeSort_perm _ leB).nodup_iff).2 (strKeys_nodup h hK).1
  refine List.pairwise_map.2 ((hs.and hn).imp fun {x y} hxy => ?_)
  obtain ⟨h1, h2⟩ := hxy
  unfold nmLt
  rw [list_baOf, list_baOf, bytesLess_eq]
  simp only [leB, decide_eq_true_eq] at h1 ⊢
  exact List.not_le.1 (fun h3 => h2 (List.le_antisymm h1 h3))
theorem mem_namesIn {P : Program} {K : TypeId} {w : World} {b n : Nat} {D : DataW Value} (h : w.ownsMap P K tok b n D) (hK : P.underlying K = some .string) {tn : ByteArray} {f : ByteArray → Option K3} (hf : ∀ s, (f s).isSome = true → s.size ≤ maxLen) (hD : ∀ s : ByteArray, s.size ≤ maxLen → ∀ z, D.atKey (skl s) z = match f s with | some k => .held (clV tn s k) | none => z) (s : ByteArray) : s ∈ namesIn D ↔ (f s).isSome = true := by
  have h1 : s ∈ namesIn D ↔ s.data.toList ∈ strKeys D := by
    unfold namesIn
    rw [List.mem_map]
    constructor
    · rintro ⟨l, hl, rfl⟩
      simpa [baOf] using (List.mergeSort_perm _ leB).mem_iff.1 hl
    · intro hl
      exact ⟨_, (List.mergeSort_perm _ leB).mem_iff.2 hl, baOf_list s⟩
  rw [h1, (strKeys_nodup h hK).2]
  constructor
  · intro hh
    have hsz : s.size ≤ maxLen := by
      have := strKeys_le h hK _ (((strKeys_nodup h hK).2 _).2 hh)
      simpa using this
    cases e : f s with
    | some k => rfl
    | none =>
      have h9 : has D (.string s.data.toList) = false := has_false_of_atKey (fun z => by have := hD s hsz z; rw [e] at this; exact this)
      rw [hh] at h9
      cases h9
  · intro hh
    obtain ⟨k, hk⟩ := Option.isSome_iff_exists.1 hh
    exact has_true_of_atKey (y := .held (clV tn s k)) (fun z => by have := hD s (hf s hh) z; rw [hk] at this; exact this)
theorem strs_namesIn (D : DataW Value) : strs (namesIn D) = ((strKeys D).mergeSort leB).map encStr := by
  unfold strs namesIn
  rw [List.map_map]
  rfl

theorem keysF_any (b : Option Nat) (w : World) : Calls Tryz.prog 107 #[.map b] w fun e w' => e = .returned (.func (.func 150) #[] #[.pointer (some ⟨w.heap.size, 0, none⟩)]) ∧ w' = w.alloc (.cells #[.map b] 98) :=
  callsIn_wide.1 (AnyZ.keys_in Tryz.itKeys Fence.wide 5 trivial rfl b w)
theorem sortsF (m : Nat) : AnyZ.SortsIn Tryz.prog Tryz.itSorted_ren Fence.wide m :=
  ⟨fun blk off cap ss W hH hblk hsz => callsIn_wide.2 (AnyM.slices_Sort_string Tryz.itSort blk off cap ss W hH hblk hsz), fun p cap W => callsIn_wide.2 (AnyM.slices_Sort_string_none Tryz.itSort p cap W)⟩
set_option maxHeartbeats 1000000 in
theorem sortedF_any (b n : Nat) (D : DataW Value) (w : World) (hown : w.ownsMap Tryz.prog 9 tok b n D) (hn : n ≤ 1000000000) : Calls Tryz.prog 106 #[.func (.func 150) #[] #[.pointer (some ⟨w.heap.size, 0, none⟩)]] (w.alloc (.cells #[.map (some b)] 98)) fun e w' => (∃ v, e = .returned v ∧ w'.ownsRow (w.heap.size + 1) 9 1 v (namesIn D).length (strs (namesIn D))) ∧ Gr (w.alloc (.cells #[.map (some b)] 98)) w' := by
  have hbl := hown.lt
  have hsz := hown.size_le
  have hseq : SeqGives Fence.wide 2 Tryz.prog 150 #[.pointer (some ⟨w.heap.size, 0, none⟩)] encStr (fun ss => ss.Perm (strKeys D)) (Maps.size D) (w.alloc (.cells #[.map (some b)] 98)) :=
    AnyZ.keys_gives (ρ := Tryz.itKeys_ren) { Tryz.itKeys with } Fence.wide _ trivial rfl (by omega) w.heap.size b n D _ (by simp) (by simp) (hown.alloc _)
  have h := callsIn_wide.1 (AnyZ.sorted_in Tryz.itSorted Fence.wide 5 trivial trivial trivial trivial rfl (by omega) (sortsF _) (enters_of Tryz.func149 (by kernel_rfl) rfl) 150 #[.pointer (some ⟨w.heap.size, 0, none⟩)] trivial (enters_of Tryz.func150 (by kernel_rfl) rfl) _ (Maps.size D) (by unfold maxLen; omega) (by omega) _ hseq)
  refine Calls.mono h ?_
  rintro e w' ⟨v, ss, rfl, hp, hrow, -, hb⟩
  refine ⟨⟨v, rfl, ?_⟩, hb⟩
  rw [strs_namesIn]
  have e1 : ss.mergeSort (fun x y => decide (x ≤ y)) = (strKeys D).mergeSort leB := mergeSort_of_perm hp
  rw [e1] at hrow
  have e2 : (namesIn D).length = ss.length := by
    unfold namesIn
    rw [List.length_map, List.length_mergeSort, hp.length_eq]
  rw [e2]
  rw [World.size_alloc] at hrow
  exact hrow
/-- The first clashes, told by names. -/
theorem clashes_any (tn : ByteArray) (b n : Nat) (w : World) (f : ByteArray → Option K3) (h : Firsts Tryz.prog 9 b n w tn f) (hf : ∀ s, (f s).isSome = true → s.size ≤ maxLen) (hn : n ≤ 1000000000) (hns : ∀ ns : List ByteArray, ns.Nodup → (∀ s ∈ ns, (f s).isSome = true) → ns.length ≤ 1048576) :
    Calls Tryz.prog 62 #[.map (some b)] w fun e w' => (∃ rv, ∃ ns : List ByteArray, e = .returned rv ∧ w'.ownsRow w.heap.size 61 5 rv ns.length ((ns.map (toldF f)).flatMap (encA tn)) ∧ (ns.Pairwise fun a b => nmLt a b = true) ∧ ∀ s, s ∈ ns ↔ (f s).isSome = true) ∧ Gr w w' := by
  obtain ⟨D, h1, h2⟩ := id h
  have hm := mem_namesIn h1 Tryz.underlying9 hf h2
  have ha := namesIn_asc h1 Tryz.underlying9
  have hd : (namesIn D).Nodup := ha.imp fun {x y} hxy => nm_ne hxy
  refine Calls.mono (clashes_of tn b n w f (namesIn D) h (fun s hs => ⟨hf s ((hm s).1 hs), (hm s).1 hs⟩) (hns _ hd fun s hs => (hm s).1 hs) (keysF_any (some b) w) (sortedF_any b n D w h1 hn)) ?_
  rintro e w' ⟨⟨rv, rfl, hr⟩, g⟩
  exact ⟨⟨rv, namesIn D, rfl, hr, ha, hm⟩, g⟩
end Go.Proofs.YtpdcgjkfilohcabGreat
