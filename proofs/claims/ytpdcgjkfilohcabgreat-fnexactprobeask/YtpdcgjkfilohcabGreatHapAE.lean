import Derived.Test.YtpdcgjkfilohcabGreatSkyAD
import Derived.Test.YtpdcgjkfilohcabGreatCutAC
import Derived.Test.YtpdcgjkfilohcabGreatDrawEI
import Derived.Maps.AppendAt
import Derived.Sort.Walk0
namespace Go.Proofs.YtpdcgjkfilohcabGreat
open Go.RowKit

/-- A tube's two cells. -/
def Tb.vals (t : Tb) : List Value := [.string t.s, .slice t.a t.bs.length t.cap]
def flatT (ts : List Tb) : List Value := ts.flatMap Tb.vals
theorem flatT_snoc (ts : List Tb) (t : Tb) : flatT (ts ++ [t]) = flatT ts ++ t.vals := by simp [flatT]
theorem flatT_app (ts us : List Tb) : flatT (ts ++ us) = flatT ts ++ flatT us := by simp [flatT]
theorem flatT_len (ts : List Tb) : (flatT ts).length = ts.length * 2 := by
  induction ts with
  | nil => rfl
  | cons b bs ih => simp only [flatT, List.flatMap_cons, List.length_append] at *; rw [ih]; simp [Tb.vals]; omega
theorem flatT_get (ts : List Tb) (k c : Nat) (hk : k < ts.length) (hc : c < 2) : (flatT ts)[k * 2 + c]? = (ts.getD k Tb.nil).vals[c]? := by
  induction ts generalizing k with
  | nil => simp at hk
  | cons b r ih =>
    cases k with
    | zero =>
      simp only [flatT, List.flatMap_cons, Nat.zero_mul, Nat.zero_add]
      rw [List.getElem?_append_left (by simp [Tb.vals]; omega)]
      simp
    | succ k =>
      have := ih k (by simpa using hk)
      simp only [flatT, List.flatMap_cons] at this ⊢
      rw [List.getElem?_append_right (by simp [Tb.vals]; omega)]
      have e : (k + 1) * 2 + c - b.vals.length = k * 2 + c := by simp [Tb.vals]; omega
      rw [e, this]
      simp
theorem tvals_one (t : Tb) : ∀ u ∈ t.vals, u.oneCell' = true := by
  intro u hu
  simp [Tb.vals] at hu
  rcases hu with rfl | rfl <;> rfl
theorem flatT_one (ts : List Tb) : ∀ u ∈ flatT ts, u.oneCell' = true := fun u hu => by
  simp only [flatT, List.mem_flatMap] at hu
  obtain ⟨b, -, hb⟩ := hu
  exact tvals_one b u hb
theorem newsT (W : World) (H : Nat) (hH : H = W.heap.size) (s : ByteArray) (v : Value) (t : TypeId) (j : Nat) (u : Value) (h : [Value.string s, v][j]? = some u) : (W.alloc (.cells #[.string s, v] t)).cell? ((⟨H, 0, none⟩ : Addr).add j) = some u := by
  subst hH
  have e : (⟨W.heap.size, 0, none⟩ : Addr).add j = ⟨W.heap.size, j, none⟩ := by unfold Addr.add; split <;> simp_all
  rw [e]
  have hj : j < 2 := by
    rcases Nat.lt_or_ge j 2 with q | q
    · exact q
    · rw [List.getElem?_eq_none (by simpa using q)] at h; simp at h
  rcases (by omega : j = 0 ∨ j = 1) with rfl | rfl <;> simp at h ⊢ <;> exact h
/-- What a row of tubes owns: where they lie, and that they may be written. -/
theorem owns_tubes {w : World} {base n : Nat} {v : Value} {ts : List Tb} (hn : n = ts.length) (h : w.ownsRow base 40 2 v n (flatT ts)) :
    ∃ a cap, v = .slice a ts.length cap ∧ (∀ g o sp, a = some ⟨g, o, sp⟩ → o = 0 ∧ sp = none ∧ base ≤ g ∧ g < w.heap.size ∧ ∀ k, k < ts.length → Room2 w g (k * 2)) ∧ (∀ k, k < ts.length → ∃ g, a = some ⟨g, 0, none⟩ ∧ g < w.heap.size ∧ Two w g (k * 2) (ts.getD k Tb.nil)) := by
  subst hn
  rcases h.2 with ⟨rfl, h0⟩ | ⟨g, cap, cur, rfl, hb, hg, h1, h2, h3, h4⟩
  · have e : ts = [] := List.length_eq_zero_iff.1 h0
    subst e
    exact ⟨none, 0, rfl, fun g o sp e => by simp at e, fun k hk => by simp at hk⟩
  · obtain ⟨hl, hr⟩ := room2_made h
    refine ⟨_, cap, rfl, fun g' o sp e => ?_, fun k hk => ⟨g, rfl, hl, ?_⟩⟩
    · simp only [Option.some.injEq, Addr.mk.injEq] at e
      obtain ⟨rfl, rfl, rfl⟩ := e
      exact ⟨rfl, rfl, hb, hl, hr⟩
    · have cell : ∀ c, c < 2 → w.cell? ⟨g, k * 2 + c, none⟩ = (ts.getD k Tb.nil).vals[c]? := fun c hc => by
        rw [h.cellAt _ (by omega), flatT_get ts k c hk hc]
      exact ⟨cell 0 (by omega), cell 1 (by omega)⟩
theorem grown_of {w w' : World} (g : Gr w w') : w.grownBy w' none := ⟨Below.os g, Below.tape g, Below.output g, Below.size g, fun k hk _ => Below.block g k hk⟩
theorem owns_gr {w w' : World} {base e size n : Nat} {v : Value} {xs : List Value} (h : w.ownsRow base e size v n xs) (g : Gr w w') : w'.ownsRow base e size v n xs := h.kept (grown_of g) (by cases v.ownBlock <;> simp)
/-- The boxes of a tube lie in memory from block lo on that may be written. -/
def InT (lo : Nat) (w : World) (t : Tb) : Prop :=
  (∀ q o sp, t.a = some ⟨q, o, sp⟩ → o = 0 ∧ sp = none ∧ lo ≤ q ∧ q < w.heap.size ∧ ∀ j, j < t.bs.length → Room w q (j * 6)) ∧ Boxes w t.a t.bs
def Tb.blk (t : Tb) : Option Nat := t.a.map (·.block)
/-- A list of tubes of the call's own: the row, the boxes, and no two lists share any. -/
def OwnT (lo : Nat) (w : World) (v : Value) (us : List Tb) : Prop :=
  w.ownsRow lo 40 2 v us.length (flatT us) ∧ (∀ t ∈ us, InT lo w t) ∧ us.Pairwise (fun t u => ∀ q, t.blk = some q → u.blk ≠ some q) ∧ (∀ t ∈ us, ∀ q, t.blk = some q → v.ownBlock ≠ some q)
theorem inT_gr {lo : Nat} {w w' : World} {t : Tb} (h : InT lo w t) (g : Gr w w') : InT lo w' t :=
  ⟨fun q o sp e => by obtain ⟨h0, h1, h2, h3, h4⟩ := h.1 q o sp e; exact ⟨h0, h1, h2, Nat.lt_of_lt_of_le h3 g.size, fun j hj => room_gr (h4 j hj) g h3⟩, boxes_gr h.2 g⟩
theorem ownT_gr {lo : Nat} {w w' : World} {v : Value} {us : List Tb} (h : OwnT lo w v us) (g : Gr w w') : OwnT lo w' v us :=
  ⟨owns_gr h.1 g, fun t ht => inT_gr (h.2.1 t ht) g, h.2.2⟩
theorem inT_lo {lo lo' : Nat} {w : World} {t : Tb} (h : InT lo w t) (hl : lo' ≤ lo) : InT lo' w t :=
  ⟨fun q o sp e => by obtain ⟨h0, h1, h2, h3, h4⟩ := h.1 q o sp e; exact ⟨h0, h1, by omega, h3, h4⟩, h.2⟩
theorem ownT_tubes {lo : Nat} {w : World} {v : Value} {us : List Tb} (h : OwnT lo w v us) : ∃ a cap, v = .slice a us.length cap ∧ Tubes w a us := by
  obtain ⟨a, cap, e, -, h2⟩ := owns_tubes rfl h.1
  refine ⟨a, cap, e, fun k hk => ?_⟩
  obtain ⟨g, e1, hg, hx⟩ := h2 k hk
  have hm : us.getD k Tb.nil ∈ us := by rw [List.getD_eq_getElem?_getD, List.getElem?_eq_getElem hk]; exact List.getElem_mem hk
  exact ⟨g, 0, e1, hg, by rw [Nat.zero_add]; exact hx, (h.2.1 _ hm).2⟩
end Go.Proofs.YtpdcgjkfilohcabGreat

namespace Go.Proofs.YtpdcgjkfilohcabGreat
open Go.RowKit
attribute [local go_sem ↓] Go.wp_at_zero Go.wp_at_succ

theorem ownT_lt {w : World} {base e size n : Nat} {v : Value} {xs : List Value} (h : w.ownsRow base e size v n xs) : ∀ k, v.ownBlock = some k → k < w.heap.size := by
  rcases h.2 with ⟨rfl, h0⟩ | ⟨g, cap, cur, rfl, hb, hg, _⟩
  · intro k hk; simp [Value.ownBlock] at hk
  · intro k hk
    simp [Value.ownBlock] at hk
    subst hk
    exact (Array.getElem?_eq_some_iff.1 hg).1
theorem blk_lt {lo : Nat} {w : World} {t : Tb} (h : InT lo w t) {q : Nat} (e : t.blk = some q) : lo ≤ q ∧ q < w.heap.size := by
  unfold Tb.blk at e
  rcases ha : t.a with _ | ⟨q', o, sp⟩
  · rw [ha] at e; cases e
  · rw [ha] at e
    simp at e
    subst e
    obtain ⟨-, -, h2, h3, -⟩ := h.1 _ _ _ ha
    exact ⟨h2, h3⟩
theorem inT_grown {lo : Nat} {w w' : World} {t : Tb} {row : Option Nat} (h : InT lo w t) (hg : w.grownBy w' row) (hne : ∀ q, t.blk = some q → row ≠ some q) : InT lo w' t := by
  have hb : ∀ q o sp, t.a = some ⟨q, o, sp⟩ → w'.heap[q]? = w.heap[q]? ∧ q < w'.heap.size := fun q o sp e => by
    obtain ⟨-, -, -, h3, -⟩ := h.1 q o sp e
    exact ⟨hg.block q h3 (fun e' => hne q (by simp [Tb.blk, e]) e'.symm), Nat.lt_of_lt_of_le h3 hg.size⟩
  have hc : ∀ q o sp, t.a = some ⟨q, o, sp⟩ → ∀ x, w'.cell? ⟨q, x, none⟩ = w.cell? ⟨q, x, none⟩ := fun q o sp e x => World.cell?_of_block (w := w) (hb q o sp e).1
  have hf : ∀ q o sp, t.a = some ⟨q, o, sp⟩ → ∀ x, w'.frozen? ⟨q, x, none⟩ = w.frozen? ⟨q, x, none⟩ := fun q o sp e x => World.frozen?_of_block (w := w) (hb q o sp e).1
  refine ⟨fun q o sp e => ?_, fun k hk => ?_⟩
  · obtain ⟨h0, h1, h2, h3, h4⟩ := h.1 q o sp e
    refine ⟨h0, h1, h2, (hb q o sp e).2, fun j hj => ?_⟩
    have hr := h4 j hj
    unfold Room at *
    simp only [hc q o sp e, hf q o sp e]
    exact hr
  · obtain ⟨g, o, e, hg', hx⟩ := h.2 k hk
    refine ⟨g, o, e, (hb g o none e).2, ?_⟩
    unfold Six at *
    simp only [hc g o none e]
    exact hx
/-- A tube of new memory is put behind. -/
theorem ownT_next {lo : Nat} {w w2 w3 : World} {v v' : Value} {us : List Tb} {t : Tb} (h : OwnT lo w v us) (g : Gr w w2) (ht : InT w.heap.size w2 t) (hlo : lo ≤ w.heap.size)
    (hown : w3.ownsRow lo 40 2 v' (us.length + 1) (flatT us ++ t.vals)) (hg : w2.grownBy w3 v.ownBlock) (hat : v'.ownBlock = v.ownBlock ∨ v'.ownBlock = some w2.heap.size) : OwnT lo w3 v' (us ++ [t]) := by
  obtain ⟨h1, h2, h3, h4⟩ := h
  have hv := ownT_lt h1
  have hsz := g.size
  have hin : ∀ u ∈ us ++ [t], InT lo w2 u := fun u hu => by
    rw [List.mem_append, List.mem_singleton] at hu
    rcases hu with hu | rfl
    · exact inT_gr (h2 u hu) g
    · exact inT_lo ht hlo
  have hne : ∀ u ∈ us ++ [t], ∀ q, u.blk = some q → v.ownBlock ≠ some q := fun u hu q e => by
    rw [List.mem_append, List.mem_singleton] at hu
    rcases hu with hu | rfl
    · exact h4 u hu q e
    · intro e'
      have := hv q e'
      have := (blk_lt ht e).1
      omega
  refine ⟨by rw [flatT_snoc, List.length_append]; exact hown, fun u hu => inT_grown (hin u hu) hg (hne u hu), ?_, fun u hu q e => ?_⟩
  · rw [List.pairwise_append]
    refine ⟨h3, List.pairwise_singleton _ _, fun u hu x hx q e e' => ?_⟩
    rw [List.mem_singleton] at hx
    subst hx
    have := (blk_lt (h2 u hu) e).2
    have := (blk_lt ht e').1
    omega
  · rcases hat with e' | e'
    · rw [e']; exact hne u hu q e
    · rw [e']
      intro e2
      have := (blk_lt (hin u hu) e).2
      cases e2
      omega
theorem ownT_nil (lo : Nat) (w : World) : OwnT lo w (.slice none 0 0) [] := ⟨World.ownsRow_nil _ _ _ _, (fun t ht => by simp at ht), List.Pairwise.nil, (fun t ht => by simp at ht)⟩
theorem ownT_empty (w : World) : OwnT w.heap.size (w.alloc (.cells #[] 40)) (.slice (some ⟨w.heap.size, 0, none⟩) 0 0) [] :=
  ⟨⟨rfl, .inr ⟨w.heap.size, 0, #[], rfl, Nat.le_refl _, Array.getElem?_push_size, Nat.le_refl _, by unfold maxLen; omega, rfl, rfl⟩⟩, (fun t ht => by simp at ht), List.Pairwise.nil, (fun t ht => by simp at ht)⟩
/-- The boxes lie in plain memory. -/
def Made (ts : List Tb) : Prop := ∀ t ∈ ts, ∃ q o, t.a = some ⟨q, o, none⟩
theorem ownL_inT {w w' : World} {s : ByteArray} {a : Option Addr} {cap : Nat} {bs : List Bx} (h : OwnL w w' (.slice a bs.length cap) bs) : InT w.heap.size w' ⟨s, a, cap, bs⟩ := by
  obtain ⟨a', cap', e, h1, h2⟩ := h
  cases e
  exact ⟨h1, h2⟩
/-- Two lists are alike as far as the one goes. -/
def LikeTo (us ts : List Tb) : Prop := ∀ k, k < us.length → nm us k = nm ts k ∧ bx us k = bx ts k
theorem likeTo_next {us ts : List Tb} {u : Tb} (h : LikeTo us ts) (hs : u.s = nm ts us.length) (hb : u.bs = bx ts us.length) : LikeTo (us ++ [u]) ts := fun k hk => by
  rw [List.length_append] at hk
  simp only [List.length_cons, List.length_nil] at hk
  by_cases e : k = us.length
  · subst e
    have e1 : (us ++ [u]).getD us.length Tb.nil = u := by simp [List.getD]
    exact ⟨by unfold nm at hs ⊢; rw [e1]; exact hs, by unfold bx at hb ⊢; rw [e1]; exact hb⟩
  · have e1 : (us ++ [u]).getD k Tb.nil = us.getD k Tb.nil := by simp [List.getD, List.getElem?_append_left (show k < us.length by omega)]
    have := h k (by omega)
    exact ⟨by unfold nm at *; rw [e1]; exact this.1, by unfold bx at *; rw [e1]; exact this.2⟩
theorem getD_mem {ts : List Tb} {k : Nat} (hk : k < ts.length) : ts.getD k Tb.nil ∈ ts := by rw [List.getD_eq_getElem?_getD, List.getElem?_eq_getElem hk]; exact List.getElem_mem hk

end Go.Proofs.YtpdcgjkfilohcabGreat

namespace Go.Proofs.YtpdcgjkfilohcabGreat
open Go.RowKit
attribute [local go_sem ↓] Go.wp_at_zero Go.wp_at_succ

theorem append_types {P : Program} (t t' ty : TypeId) (e e' : TypeId) (h : P.underlying t = some (.slice e)) (h' : P.underlying t' = some (.slice e')) (v x : Value) (w : World) : (Builtin.append_ #[t, t'] ty #[v, x]).run P w = (Builtin.append_ #[t, t] ty #[v, x]).run P w := by
  have u := run_underlying h
  have u' := run_underlying h'
  cases v with
  | slice b n c =>
    simp only [Builtin.append_, Sem.run_bind, List.getElem?_toArray, List.getElem?_cons_zero, List.getElem?_cons_succ]
    simp only [u, u', Sem.run_bind, Result.andThen]
  | _ => simp [Builtin.append_, u, Sem.run_bind, Result.andThen]
theorem step_append_two {P : Program} {ops : Array Oper} {o : Oper} {a : Act} {w : World} {K : Act → World → Prop} {Q : Exit → Act → World → Prop} {E : Prop}
    (hg : o.guard = none) (s x : Operand) (t t' : TypeId) (e' : TypeId) (hop : o.op = Op.call { callee := Callee.builtin Builtin.append, args := #[s, x], argTypes := #[t, t'] })
    (base : Nat) (e : TypeId) (i : TypeInfo) (z : Value) (size bytes : Nat) (h1 : P.underlying t = some (.slice e)) (h1' : P.underlying t' = some (.slice e')) (h2 : P.info? e = some i) (h3 : i.zero = some z) (h4 : i.size = size) (h5 : i.bytes = bytes) (h6 : z.cells.size = size) (h7 : 0 < size)
    (v : Value) (n : Nat) (xs : List Value) (hs : a.eval s = v) (hown : w.ownsRow base e size v n xs)
    (ad : Addr) (m c : Nat) (news : List Value) (hx : a.eval x = .slice (some ad) m c) (hn : news.length = m * size) (hc : ∀ j u, news[j]? = some u → w.cell? (ad.add j) = some u) (h1c : ∀ u ∈ news, u.oneCell' = true)
    (b1 : n + m ≤ maxLen) (b2 : (n + m) * bytes ≤ 140737488355328) (hb : base ≤ w.heap.size)
    (hK : ∀ v' w', w'.ownsRow base e size v' (n + m) (xs ++ news) → w.grownBy w' v.ownBlock → K (a.put o.dst v') w') :
    if Region.wanted o (yielded ops a.tmps) = true then Oper.wp P o a w K Q else E := by
  have hw : Region.wanted o (yielded ops a.tmps) = true := by simp [Region.wanted, hg]
  rw [if_pos hw]
  obtain ⟨v', w', hrun, r1, r2, _⟩ := run_append_own (P := P) w base t o.type e i z size bytes h1 h2 h3 h4 h5 h6 h7 v n xs hown ad m c news hn hc h1c b1 b2 hb
  rw [← append_types t t' o.type e e' h1 h1'] at hrun
  unfold Oper.wp
  simp [execOp, hop, resolve, invoke, builtin, hs, hx, hrun, Result.andThen]
  exact hK v' w' r1 r2

end Go.Proofs.YtpdcgjkfilohcabGreat

namespace Go.Proofs.YtpdcgjkfilohcabGreat
open Go.RowKit
attribute [local go_sem ↓] Go.wp_at_zero Go.wp_at_succ

/-- A tube at a place has a name. -/
def hasN (ts : List Tb) (s : ByteArray) (k : Nat) : Bool := (nm ts k).toList == s.toList
def lessN (ts : List Tb) (s : ByteArray) (k : Nat) : Bool := Op.bytesLess (nm ts k).toList s.toList
/-- The place of a name in ascending tubes, or where it would come. -/
def PlaceIs (ts : List Tb) (s : ByteArray) (p : Nat) : Prop := p ≤ ts.length ∧ (∀ k, k < p → lessN ts s k = true) ∧ (∀ k, p ≤ k → k < ts.length → lessN ts s k = false)
/-- Whether it is there. -/
def there (ts : List Tb) (s : ByteArray) (p : Nat) : Bool := decide (p < ts.length) && hasN ts s p

end Go.Proofs.YtpdcgjkfilohcabGreat

namespace Go.Proofs.YtpdcgjkfilohcabGreat
open Go.RowKit

theorem ownT_lo {lo lo' : Nat} {w : World} {v : Value} {us : List Tb} (h : OwnT lo w v us) (hl : lo' ≤ lo) : OwnT lo' w v us :=
  ⟨⟨h.1.1, h.1.2.imp id (fun ⟨g, cap, cur, e, hb0, r⟩ => ⟨g, cap, cur, e, Nat.le_trans hl hb0, r⟩)⟩, fun t ht => inT_lo (h.2.1 t ht) hl, h.2.2⟩
theorem less_irrefl (l : List UInt8) : Op.bytesLess l l = false := by
  rw [bytesLess_eq]
  simp [List.lt_irrefl]
theorem less_trans {a b c : List UInt8} (h : Op.bytesLess a b = true) (h' : Op.bytesLess b c = true) : Op.bytesLess a c = true := by
  rw [bytesLess_eq, decide_eq_true_eq] at *
  exact List.lt_trans h h'
theorem asc_less {ts : List Tb} (h : ascTo ts ts.length = true) : ∀ (d i : Nat), i + d + 1 < ts.length → Op.bytesLess (nm ts i).toList (nm ts (i + d + 1)).toList = true := by
  have one : ∀ k, k + 1 < ts.length → Op.bytesLess (nm ts k).toList (nm ts (k + 1)).toList = true := fun k hk => by
    rw [ascTo, List.all_eq_true] at h
    have := h (k + 1) (List.mem_range.2 hk)
    simpa [lessAt] using this
  intro d
  induction d with
  | zero => intro i hi; exact one i hi
  | succ d ih => intro i hi; exact less_trans (ih i (by omega)) (one (i + d + 1) hi)
theorem asc_lt {ts : List Tb} (h : ascTo ts ts.length = true) {i j : Nat} (hij : i < j) (hj : j < ts.length) : Op.bytesLess (nm ts i).toList (nm ts j).toList = true := by
  have := asc_less h (j - i - 1) i (by omega)
  rw [show i + (j - i - 1) + 1 = j by omega] at this
  exact this
theorem place_ex {ts : List Tb} (h : ascTo ts ts.length = true) (s : ByteArray) : ∃ p, PlaceIs ts s p := by
  have hP : ∃ p, p ≤ ts.length ∧ (∀ k, k < p → lessN ts s k = true) ∧ (p < ts.length → lessN ts s p = false) := by
    have : ∀ n, n ≤ ts.length → (∃ p, p ≤ ts.length ∧ (∀ k, k < p → lessN ts s k = true) ∧ (p < ts.length → lessN ts s p = false)) ∨ ∀ k, k < n → lessN ts s k = true := by
      intro n
      induction n with
      | zero => intro _; exact Or.inr (fun k hk => by omega)
      | succ n ih =>
        intro hn
        rcases ih (by omega) with h' | h'
        · exact Or.inl h'
        · cases hl : lessN ts s n
          · exact Or.inl ⟨n, by omega, h', fun _ => hl⟩
          · exact Or.inr (fun k hk => by
              by_cases e : k = n
              · subst e; exact hl
              · exact h' k (by omega))
    rcases this ts.length (Nat.le_refl _) with h' | h'
    · exact h'
    · exact ⟨ts.length, Nat.le_refl _, h', fun hh => by omega⟩
  obtain ⟨p, h1, h2, h3⟩ := hP
  refine ⟨p, h1, h2, fun k hk hkl => ?_⟩
  by_cases e : k = p
  · subst e; exact h3 hkl
  · cases hl : lessN ts s k
    · rfl
    · have := less_trans (asc_lt h (show p < k by omega) hkl) hl
      have h4 := h3 (by omega)
      unfold lessN at h4
      rw [this] at h4
      cases h4
theorem has_place {ts : List Tb} {s : ByteArray} {p : Nat} (ha : ascTo ts ts.length = true) (h : PlaceIs ts s p) {k : Nat} (hk : k < ts.length) (hh : hasN ts s k = true) : k = p := by
  have e : (nm ts k).toList = s.toList := by simpa [hasN] using hh
  rcases Nat.lt_trichotomy k p with hlt | rfl | hgt
  · have := h.2.1 k hlt
    unfold lessN at this
    rw [e, less_irrefl] at this
    cases this
  · rfl
  · have h1 := asc_lt ha hgt hk
    rw [e] at h1
    have h2 := h.2.2 p (Nat.le_refl _) (by omega)
    unfold lessN at h2
    rw [h1] at h2
    cases h2
theorem place_one {ts : List Tb} {s : ByteArray} {p q : Nat} (h : PlaceIs ts s p) (h' : PlaceIs ts s q) : p = q := by
  rcases Nat.lt_trichotomy p q with hlt | rfl | hgt
  · have h1 := h'.2.1 p hlt
    rw [h.2.2 p (Nat.le_refl _) (by have := h'.1; omega)] at h1
    cases h1
  · rfl
  · have h1 := h.2.1 q hgt
    rw [h'.2.2 q (Nat.le_refl _) (by have := h.1; omega)] at h1
    cases h1
/-- Tubes with some in the place of c of them. -/
def edit (ts : List Tb) (p c : Nat) (mid : List Tb) : List Tb := ts.take p ++ mid ++ ts.drop (p + c)
/-- The tubes behind an event, and the code. -/
def happenR (ts : List Tb) (drop : Bool) (t : Tb) (p : Nat) : List Tb × Int :=
  if skyB ts = false then ([], 1) else if drop = false ∧ tubeB t.s t.bs = false then (ts, 2) else if drop = true ∧ there ts t.s p = false then (ts, 3)
  else if drop = false ∧ there ts t.s p = false ∧ 24 ≤ ts.length then (ts, 4) else (edit ts p (if there ts t.s p then 1 else 0) (if drop then [] else [t]), 0)
/-- What lies there behind k rounds. -/
def outAt (ts : List Tb) (p c : Nat) (mid : List Tb) (k : Nat) : List Tb := ts.take (min k p) ++ (if p < k then mid else []) ++ (ts.drop (p + c)).take (k - p - c)
theorem take_one {ts : List Tb} {k : Nat} (hk : k < ts.length) : ts.take (k + 1) = ts.take k ++ [ts.getD k Tb.nil] := by
  rw [List.take_add_one, List.getD_eq_getElem?_getD, List.getElem?_eq_getElem hk]
  rfl
theorem out_ahead {ts : List Tb} {p c k : Nat} {mid : List Tb} (hk : k < p) (hp : p ≤ ts.length) : outAt ts p c mid (k + 1) = outAt ts p c mid k ++ [ts.getD k Tb.nil] := by
  unfold outAt
  rw [if_neg (by omega), if_neg (by omega), show k + 1 - p - c = 0 by omega, show k - p - c = 0 by omega, Nat.min_eq_left (by omega), Nat.min_eq_left (by omega), take_one (by omega)]
  simp
theorem out_at0 {ts : List Tb} {p c : Nat} {mid : List Tb} : outAt ts p c mid p = ts.take p := by
  unfold outAt
  rw [if_neg (by omega), show p - p - c = 0 by omega, Nat.min_self]
  simp
theorem out_skip {ts : List Tb} {p : Nat} {mid : List Tb} : outAt ts p 1 mid (p + 1) = outAt ts p 1 mid p ++ mid := by
  rw [out_at0]
  unfold outAt
  rw [if_pos (by omega), show p + 1 - p - 1 = 0 by omega, Nat.min_eq_right (by omega)]
  simp
theorem out_in {ts : List Tb} {p : Nat} {mid : List Tb} (hp : p < ts.length) : outAt ts p 0 mid (p + 1) = outAt ts p 0 mid p ++ mid ++ [ts.getD p Tb.nil] := by
  rw [out_at0]
  unfold outAt
  rw [if_pos (by omega), show p + 1 - p - 0 = 0 + 1 by omega, Nat.min_eq_right (by omega), take_one (by simp; omega)]
  simp [List.getD_eq_getElem?_getD]
theorem out_behind {ts : List Tb} {p c k : Nat} {mid : List Tb} (hk : p < k) (hc : c ≤ 1) (hkl : k < ts.length) : outAt ts p c mid (k + 1) = outAt ts p c mid k ++ [ts.getD k Tb.nil] := by
  unfold outAt
  rw [if_pos (by omega), if_pos hk, show k + 1 - p - c = (k - p - c) + 1 by omega, Nat.min_eq_right (by omega), Nat.min_eq_right (by omega), take_one (by simp; omega)]
  simp only [List.append_assoc]
  congr 3
  simp only [List.getD_eq_getElem?_getD, List.getElem?_drop]
  rw [show p + c + (k - p - c) = k by omega]
theorem out_all {ts : List Tb} {p c : Nat} {mid : List Tb} (hp : p < ts.length) : outAt ts p c mid ts.length = edit ts p c mid := by
  unfold outAt edit
  rw [if_pos hp, Nat.min_eq_right (by omega), List.take_of_length_le (l := List.drop (p + c) ts) (by rw [List.length_drop]; omega)]
theorem out_end {ts : List Tb} {mid : List Tb} : outAt ts ts.length 0 mid ts.length ++ mid = edit ts ts.length 0 mid := by
  rw [out_at0]
  unfold edit
  simp
theorem out_len {ts : List Tb} {p c k : Nat} {mid : List Tb} : (outAt ts p c mid k).length ≤ ts.length * 2 + mid.length := by
  unfold outAt
  simp only [List.length_append, List.length_take, List.length_drop]
  split <;> simp <;> omega
theorem out_mem {ts : List Tb} {p c k : Nat} {mid : List Tb} {t : Tb} (h : t ∈ outAt ts p c mid k) : t ∈ ts ∨ t ∈ mid := by
  unfold outAt at h
  simp only [List.mem_append] at h
  rcases h with (h | h) | h
  · exact Or.inl (List.mem_of_mem_take h)
  · split at h
    · exact Or.inr h
    · cases h
  · exact Or.inl (List.mem_of_mem_drop (List.mem_of_mem_take h))
theorem edit_mem {ts : List Tb} {p c : Nat} {mid : List Tb} {t : Tb} (h : t ∈ edit ts p c mid) : t ∈ ts ∨ t ∈ mid := by
  unfold edit at h
  simp only [List.mem_append] at h
  rcases h with (h | h) | h
  · exact Or.inl (List.mem_of_mem_take h)
  · exact Or.inr h
  · exact Or.inl (List.mem_of_mem_drop h)
end Go.Proofs.YtpdcgjkfilohcabGreat
