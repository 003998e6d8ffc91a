import Derived.Test.YtpdcgjkfilohcaaDrawK
import Derived.Maps.AppendAt
namespace Go.Proofs.Ytpdcgjkfilohcaa
open Go.RowKit
attribute [local go_sem ↓] Go.wp_at_zero Go.wp_at_succ

theorem step_append_at {P : Program} {ops : Array Oper} {o : Oper} {a : Act} {w : World} {K : Act → World → Prop} {Q : Exit → Act → World → Prop} {E : Prop}
    (hg : o.guard = none) (s x : Operand) (t : TypeId) (hop : o.op = Op.call { callee := Callee.builtin Builtin.append, args := #[s, x], argTypes := #[t, t] })
    (base : Nat) (e : TypeId) (i : TypeInfo) (z : Value) (size bytes : Nat) (h1 : P.underlying t = some (.slice e)) (h2 : P.info? e = some i) (h3 : i.zero = some z) (h4 : i.size = size) (h5 : i.bytes = bytes) (h6 : z.cells.size = size) (h7 : 0 < size)
    (v : Value) (n : Nat) (xs : List Value) (hs : a.eval s = v) (hown : w.ownsRow base e size v n xs)
    (ad : Addr) (m c : Nat) (news : List Value) (hx : a.eval x = .slice (some ad) m c) (hn : news.length = m * size) (hc : ∀ j u, news[j]? = some u → w.cell? (ad.add j) = some u) (h1c : ∀ u ∈ news, u.oneCell' = true)
    (b1 : n + m ≤ maxLen) (b2 : (n + m) * bytes ≤ 140737488355328) (hb : base ≤ w.heap.size)
    (hK : ∀ v' w', w'.ownsRow base e size v' (n + m) (xs ++ news) → w.grownBy w' v.ownBlock → (v'.ownBlock = v.ownBlock ∨ v'.ownBlock = some w.heap.size) → K (a.put o.dst v') w') :
    if Region.wanted o (yielded ops a.tmps) = true then Oper.wp P o a w K Q else E := by
  have hw : Region.wanted o (yielded ops a.tmps) = true := by simp [Region.wanted, hg]
  rw [if_pos hw]
  obtain ⟨v', w', hrun, r1, r2, _, r4⟩ := run_append_own_at (P := P) w base t o.type e i z size bytes h1 h2 h3 h4 h5 h6 h7 v n xs hown ad m c news hn hc h1c b1 b2 hb
  unfold Oper.wp
  simp [execOp, hop, resolve, invoke, builtin, hs, hx, hrun, Result.andThen]
  exact hK v' w' r1 r2 r4
theorem rd_below {d : Rdr} {p base : Nat} {wx w1 : World} (hR : Rd d wx p) (hb : Below base wx w1) (hr : d.r < base) : Rd d w1 p := by
  have hc : ∀ x o, x < base → w1.cell? ⟨x, o, none⟩ = wx.cell? ⟨x, o, none⟩ := fun x o hx => hb.cell (p := ⟨x, o, none⟩) hx
  have hf : ∀ x o, x < base → w1.frozen? ⟨x, o, none⟩ = wx.frozen? ⟨x, o, none⟩ := fun x o hx => hb.frozen (p := ⟨x, o, none⟩) hx
  have hsz := hb.size
  obtain ⟨h1, h2, h3, h4, h5, h6, h7⟩ := hR
  refine ⟨fun k hk => ?_, h2, (hc _ _ (by omega)).trans h3, (hc _ _ (by omega)).trans h4, (hf _ _ (by omega)).trans h5, by omega, h7⟩
  obtain ⟨g, o, e, hgl, hcc, r0, r1⟩ := h1 k hk
  have h8 := h7 (fun e0 => by rw [e0] at hk; simp at hk) _ _ _ e
  exact ⟨g, o, e, by omega, (hc _ _ (by omega)).trans hcc, r0, r1⟩
theorem but_self {r c : Nat} {w : World} (v : Value) : But r w (w.setCell ⟨r, c, none⟩ v) :=
  ⟨rfl, rfl, rfl, by rw [World.size_setCell]; exact Nat.le_refl _, fun k _ hne => Below.heap_setCell w ⟨r, c, none⟩ v k (fun e => hne (by rw [e]))⟩
theorem owns_set {w : World} {base e size n q c : Nat} {v : Value} {xs : List Value} (h : w.ownsRow base e size v n xs) (hne : v.ownBlock ≠ some q) (u : Value) : (w.setCell ⟨q, c, none⟩ u).ownsRow base e size v n xs := h.kept (but_self u) (Or.inr hne)
theorem owns_mono {w : World} {base b' e size n : Nat} {v : Value} {xs : List Value} (h : w.ownsRow base e size v n xs) (hb : b' ≤ base) : w.ownsRow b' e size v n xs := ⟨h.1, h.2.imp id (fun ⟨g, cap, cur, e, hb0, r⟩ => ⟨g, cap, cur, e, Nat.le_trans hb hb0, r⟩)⟩
theorem owns_lt {w : World} {base e size n : Nat} {v : Value} {xs : List Value} (h : w.ownsRow base e size v n xs) : ∀ k, v.ownBlock = some k → k < w.heap.size := by
  rcases h.2 with ⟨rfl, h0⟩ | ⟨g, cap, cur, rfl, hb, hg, _⟩
  · intro k hk; simp [Value.ownBlock] at hk
  · intro k hk
    simp [Value.ownBlock] at hk
    subst hk
    exact (Array.getElem?_eq_some_iff.1 hg).1
theorem pair_below {q base : Nat} {w w' : World} (h : PairAt w q) (hb : Below base w w') (hq : q < base) : PairAt w' q := by
  obtain ⟨h1, ⟨u, hu⟩, ⟨v, hv⟩, f0, f1⟩ := h
  have hsz := hb.size
  exact ⟨by omega, ⟨u, (hb.cell (p := ⟨q, 0, none⟩) hq).trans hu⟩, ⟨v, (hb.cell (p := ⟨q, 1, none⟩) hq).trans hv⟩, (hb.frozen (p := ⟨q, 0, none⟩) hq).trans f0, (hb.frozen (p := ⟨q, 1, none⟩) hq).trans f1⟩

/-- Where the spoiling of a tube stands: the tube x lies at q, its boxes in a row of the call's own that may lie ahead of q. -/
def SA (d : Rdr) (w : World) (q base P N : Nat) (wx : World) : Prop :=
  (∃ p, p ≤ P ∧ Rd d wx p) ∧ But d.r w wx ∧ PairAt wx (w.heap.size + 1) ∧ (∃ s v L, TubV wx q base s v L ∧ L.length = N ∧ v.ownBlock ≠ some q ∧ s.size ≤ 64) ∧ w.heap.size + 1 < base ∧ base ≤ q ∧ d.r < w.heap.size
theorem sa_but {d : Rdr} {w : World} {q base P N p P' : Nat} {wx w' : World} (h : SA d w q base P N wx) (hR : Rd d w' p) (hM : But d.r wx w') (hp : p ≤ P') : SA d w q base P' N w' := by
  obtain ⟨-, hM0, hQ, ⟨s, v, L, hT, hN, hne, hs⟩, hb, hq, hr⟩ := h
  exact ⟨⟨p, hp, hR⟩, hM0.trans hM, pair_but hQ hM (by omega), ⟨s, v, L, tubV_but hT hM (by omega) (by omega), hN, hne, hs⟩, hb, hq, hr⟩
theorem sa_gr {d : Rdr} {w : World} {q base P N : Nat} {wx w' : World} (h : SA d w q base P N wx) (g : Gr wx w') : SA d w q base P N w' := by
  obtain ⟨p, hp, hR⟩ := h.1
  exact sa_but h (rd_gr hR g) (But.of_gr g) hp
theorem sa_le {d : Rdr} {w : World} {q base P N P' : Nat} {wx : World} (h : SA d w q base P N wx) (hP : P ≤ P') : SA d w q base P' N wx := by
  obtain ⟨⟨p, hp, hR⟩, hM0, hQ, hT, hb, hq, hr⟩ := h
  exact ⟨⟨p, by omega, hR⟩, hM0, hQ, hT, hb, hq, hr⟩
theorem sa_name {d : Rdr} {w : World} {q base P N : Nat} {wx : World} (s' : ByteArray) (h : SA d w q base P N wx) (hs' : s'.size ≤ 64) : SA d w q base P N (wx.setCell ⟨q, 0, none⟩ (.string s')) := by
  obtain ⟨⟨p, hp, hR⟩, hM0, hQ, ⟨s, v, L, ⟨h0, h1, f0, f1, hl, ho⟩, hN, hne, hs⟩, hb, hq, hr⟩ := h
  exact ⟨⟨p, hp, rd_set hR _ _ (by dsimp only; omega)⟩, but_set _ hM0 (by omega), pair_set hQ (by omega) _, ⟨s', v, L, ⟨World.cell?_setCell_same _ _ _ h0, (cell_off _ _ _ _ _ _ (by simp)).trans h1, by rw [World.frozen?_setCell]; exact f0, by rw [World.frozen?_setCell]; exact f1, by rw [World.size_setCell]; exact hl, owns_set ho hne _⟩, hN, hne, hs'⟩, hb, hq, hr⟩
/-- A box is put behind. -/
theorem sa_next {d : Rdr} {w : World} {q base P N : Nat} {wx w1 : World} {s : ByteArray} {v v' : Value} {L : List Bx} {c : Bx} (h : SA d w q base P N wx) (hT : TubV wx q base s v L) (hL : L.length = N) (hne : v.ownBlock ≠ some q) (hs : s.size ≤ 64)
    (hown : w1.ownsRow base 36 6 v' (L.length + 1) (flat L ++ c.vals)) (hg : wx.grownBy w1 v.ownBlock) (hat : v'.ownBlock = v.ownBlock ∨ v'.ownBlock = some wx.heap.size) : SA d w q base P (N + 1) (w1.setCell ⟨q, 1, none⟩ v') := by
  obtain ⟨⟨p, hp, hR⟩, hM0, hQ, -, hb, hq, hr⟩ := h
  obtain ⟨h0, h1, f0, f1, hl, ho⟩ := hT
  have hbl := Below.grown (Below.refl base wx) hg (by omega) (owns_block ho)
  have hne' : v'.ownBlock ≠ some q := by
    rcases hat with e | e
    · rw [e]; exact hne
    · rw [e]; intro e'; cases e'; omega
  have blk : w1.heap[q]? = wx.heap[q]? := hg.block q hl (fun e => hne e.symm)
  have hc : ∀ o, w1.cell? ⟨q, o, none⟩ = wx.cell? ⟨q, o, none⟩ := fun o => World.cell?_of_block (w := wx) blk
  have hf : ∀ o, w1.frozen? ⟨q, o, none⟩ = wx.frozen? ⟨q, o, none⟩ := fun o => World.frozen?_of_block (w := wx) blk
  have hsz := hg.size
  refine ⟨⟨p, hp, rd_set (rd_below hR hbl (by omega)) _ _ (by dsimp only; omega)⟩, but_set _ (but_grow hM0 hg (fun k hk => by have := owns_block ho k hk; omega)) (by omega), pair_set (pair_below hQ hbl (by omega)) (by omega) _, ⟨s, v', L ++ [c], ⟨(cell_off _ _ _ _ _ _ (by simp)).trans ((hc 0).trans h0), World.cell?_setCell_same _ _ _ ((hc 1).trans h1), by rw [World.frozen?_setCell]; exact (hf 0).trans f0, by rw [World.frozen?_setCell]; exact (hf 1).trans f1, by rw [World.size_setCell]; omega, ?_⟩, by simp; omega, hne', hs⟩, hb, hq, hr⟩
  rw [flat_snoc, List.length_append]
  exact owns_set hown hne' _
/-- The spoilt tube, as it is handed out. -/
def SF (d : Rdr) (w : World) (q P : Nat) (wx : World) : Prop :=
  (∃ p, p ≤ P ∧ Rd d wx p) ∧ But d.r w wx ∧ PairAt wx (w.heap.size + 1) ∧ (∃ s v L, q < wx.heap.size ∧ wx.cell? ⟨q, 0, none⟩ = some (.string s) ∧ wx.cell? ⟨q, 1, none⟩ = some v ∧ s.size ≤ 64 ∧ L.length ≤ 48 ∧ (∀ B : World, B.heap.size ≤ w.heap.size + 2 → OwnL B wx v L) ∧ (v = .slice none 0 0 ∨ ∃ g c, v = .slice (some ⟨g, 0, none⟩) L.length c)) ∧ w.heap.size + 1 < q ∧ d.r < w.heap.size
theorem owns_ownL {wx B : World} {base : Nat} {v : Value} {L : List Bx} (h : wx.ownsRow base 36 6 v L.length (flat L)) (hB : B.heap.size ≤ base) : OwnL B wx v L := by
  obtain ⟨a1, c1, hv, hr1, hb1⟩ := owns_boxes rfl h
  exact ⟨a1, c1, hv, fun g o sp e => by obtain ⟨h0, h1, h2, h3, h4⟩ := hr1 g o sp e; exact ⟨h0, h1, by omega, h3, h4⟩, hb1⟩
theorem sf_of_sa {d : Rdr} {w : World} {q base P N P' : Nat} {wx : World} (h : SA d w q base P N wx) (hN : N ≤ 48) (hP : P ≤ P') : SF d w q P' wx := by
  obtain ⟨⟨p, hp, hR⟩, hM0, hQ, ⟨s, v, L, ⟨h0, h1, f0, f1, hl, ho⟩, hN', hne, hs⟩, hb, hq, hr⟩ := h
  refine ⟨⟨p, by omega, hR⟩, hM0, hQ, ⟨s, v, L, hl, h0, h1, hs, by omega, fun B hB => owns_ownL ho (by omega), ?_⟩, by omega, hr⟩
  rcases ho.2 with ⟨e, -⟩ | ⟨g, cap, cur, e, -⟩
  · exact Or.inl e
  · exact Or.inr ⟨g, cap, e⟩
theorem boxes_put {wx : World} {g k : Nat} {L : List Bx} (b : Bx) (hro : ∀ j, j < L.length → Room wx g (j * 6)) (hbx : Boxes wx (some ⟨g, 0, none⟩) L) (hg : g < wx.heap.size) (hk : k < L.length) : Boxes (put6 wx g (k * 6) b) (some ⟨g, 0, none⟩) (L.set k b) := by
  intro j hj
  rw [List.length_set] at hj
  obtain ⟨g', o', e, -, hx⟩ := hbx j hj
  cases e
  refine ⟨g, 0, rfl, by rw [put6_size]; exact hg, ?_⟩
  by_cases e : j = k
  · subst e
    have e1 : (L.set j b).getD j Bx.nil = b := by simp [List.getD_eq_getElem?_getD, hj]
    rw [e1]
    have := put6_six b (hro j hj)
    simpa using this
  · have e1 : (L.set k b).getD j Bx.nil = L.getD j Bx.nil := by
      simp only [List.getD_eq_getElem?_getD]
      rw [List.getElem?_set_ne (fun e' => e e'.symm)]
    rw [e1]
    exact put6_other _ _ hx (by omega)
/-- One box of the row is written anew. -/
theorem sf_put {d : Rdr} {w : World} {q base P P' g c k : Nat} {wx : World} {s : ByteArray} {L : List Bx} (b : Bx) (h : SA d w q base P L.length wx) (hT : TubV wx q base s (.slice (some ⟨g, 0, none⟩) L.length c) L) (hne : q ≠ g) (hs : s.size ≤ 64) (hk : k < L.length) (hL : L.length ≤ 48) (hP : P ≤ P') : SF d w q P' (put6 wx g (k * 6) b) := by
  obtain ⟨⟨p, hp, hR⟩, hM0, hQ, -, hb, hq, hr⟩ := h
  obtain ⟨h0, h1, f0, f1, hl, ho⟩ := hT
  obtain ⟨a1, c1, hv, hr1, hb1⟩ := owns_boxes rfl ho
  cases hv
  obtain ⟨-, -, hbg, hgl, hro⟩ := hr1 g 0 none rfl
  refine ⟨⟨p, by omega, ?_⟩, ?_, ?_, ⟨s, _, L.set k b, by rw [put6_size]; exact hl, (put6_out _ _ _ _ _ _ (Or.inl hne)).trans h0, (put6_out _ _ _ _ _ _ (Or.inl hne)).trans h1, hs, by rw [List.length_set]; exact hL, fun B hB => ?_, Or.inr ⟨g, c, by rw [List.length_set]⟩⟩, by omega, hr⟩
  · exact rd_set (rd_set (rd_set (rd_set (rd_set (rd_set hR _ _ (by dsimp only; omega)) _ _ (by dsimp only; omega)) _ _ (by dsimp only; omega)) _ _ (by dsimp only; omega)) _ _ (by dsimp only; omega)) _ _ (by dsimp only; omega)
  · exact but_set _ (but_set _ (but_set _ (but_set _ (but_set _ (but_set _ hM0 (by omega)) (by omega)) (by omega)) (by omega)) (by omega)) (by omega)
  · exact pair_set (pair_set (pair_set (pair_set (pair_set (pair_set hQ (by omega) _) (by omega) _) (by omega) _) (by omega) _) (by omega) _) (by omega) _
  · refine ⟨some ⟨g, 0, none⟩, c, by rw [List.length_set], fun g' o' sp e => ?_, boxes_put b hro hb1 hgl hk⟩
    cases e
    exact ⟨rfl, rfl, by omega, by rw [put6_size]; exact hgl, fun j hj => put6_room b (hro j (by rw [List.length_set] at hj; exact hj))⟩
end Go.Proofs.Ytpdcgjkfilohcaa
