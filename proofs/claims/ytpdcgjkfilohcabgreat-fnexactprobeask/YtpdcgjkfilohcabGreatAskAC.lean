import Derived.Test.YtpdcgjkfilohcabGreatIdxU
namespace Go.Proofs.YtpdcgjkfilohcabGreat
open Go.RowKit Go.Sort Go.Maps
set_option linter.unusedSimpArgs false
set_option linter.unusedVariables false

/-! Who is near by an index, as lists. -/

/-- The box of a slot. -/
def bxOf (p : Pt) : Bx := ⟨p.1.1, p.1.2, p.2.l, p.2.h, p.2.i, p.2.o⟩
/-- The tick and the two places of a clash. -/
abbrev K3 := Int × Int × Int
def k3Lt (a b : K3) : Bool := if a.1 = b.1 then (if a.2.1 = b.2.1 then decide (a.2.2 < b.2.2) else decide (a.2.1 < b.2.1)) else decide (a.1 < b.1)
theorem k3_irrefl (a : K3) : k3Lt a a = false := by simp [k3Lt]
theorem k3_iff {a b : K3} : k3Lt a b = true ↔ a.1 < b.1 ∨ (a.1 = b.1 ∧ (a.2.1 < b.2.1 ∨ (a.2.1 = b.2.1 ∧ a.2.2 < b.2.2))) := by
  unfold k3Lt
  by_cases e1 : a.1 = b.1
  · rw [if_pos e1]
    by_cases e2 : a.2.1 = b.2.1
    · rw [if_pos e2]
      simp
      omega
    · rw [if_neg e2]
      simp
      omega
  · rw [if_neg e1]
    simp
    omega
theorem k3_trans {a b c : K3} (h : k3Lt a b = true) (h' : k3Lt b c = true) : k3Lt a c = true := by
  rw [k3_iff] at *
  omega
theorem k3_antisymm {a b : K3} (h : k3Lt a b = false) (h' : k3Lt b a = false) : a = b := by
  obtain ⟨a1, a2, a3⟩ := a
  obtain ⟨b1, b2, b3⟩ := b
  unfold k3Lt at *
  simp only at *
  by_cases e1 : a1 = b1
  · subst e1
    simp only [if_true] at h h'
    by_cases e2 : a2 = b2
    · subst e2
      simp only [if_true, decide_eq_false_iff_not] at h h'
      have : a3 = b3 := by omega
      rw [this]
    · rw [if_neg e2] at h
      rw [if_neg (fun e => e2 e.symm)] at h'
      simp at h h'
      omega
  · rw [if_neg e1] at h
    rw [if_neg (fun e => e1 e.symm)] at h'
    simp at h h'
    omega
/-- The sooner of those that came. -/
def pick (o : Option K3) (k : K3) : Option K3 := match o with
  | none => some k
  | some b => if k3Lt k b then some k else some b
def least (l : List K3) : Option K3 := l.foldl pick none
/-- What is the least of some. -/
def First (P : K3 → Prop) (o : Option K3) : Prop := match o with
  | none => ∀ k, ¬ P k
  | some k => P k ∧ ∀ k', P k' → k3Lt k' k = false
theorem first_one {P : K3 → Prop} {a b : Option K3} (ha : First P a) (hb : First P b) : a = b := by
  cases a with
  | none =>
    cases b with
    | none => rfl
    | some k => exact absurd hb.1 (ha k)
  | some k =>
    cases b with
    | none => exact absurd ha.1 (hb k)
    | some k' => rw [k3_antisymm (hb.2 k ha.1) (ha.2 k' hb.1)]
theorem first_congr {P Q : K3 → Prop} {o : Option K3} (h : ∀ k, P k ↔ Q k) (hP : First P o) : First Q o := by
  cases o with
  | none => exact fun k hk => hP k ((h k).2 hk)
  | some k => exact ⟨(h k).1 hP.1, fun k' hk => hP.2 k' ((h k').2 hk)⟩
theorem least_snoc (l : List K3) (k : K3) : least (l ++ [k]) = pick (least l) k := by simp [least, List.foldl_append]
theorem k3_total {a b : K3} (h : k3Lt a b = false) (h' : a ≠ b) : k3Lt b a = true := by
  cases h2 : k3Lt b a
  · exact absurd (k3_antisymm h h2) h'
  · rfl
theorem first_step {P : K3 → Prop} {o : Option K3} (h : First P o) (k : K3) : First (fun x => P x ∨ x = k) (pick o k) := by
  cases o with
  | none =>
    refine ⟨Or.inr rfl, fun k' hk => ?_⟩
    rcases hk with hk | rfl
    · exact absurd hk (h k')
    · exact k3_irrefl _
  | some b =>
    show First _ (if k3Lt k b then some k else some b)
    cases hlt : k3Lt k b
    · rw [if_neg (by simp)]
      refine ⟨Or.inl h.1, fun k' hk => ?_⟩
      rcases hk with hk | rfl
      · exact h.2 k' hk
      · exact hlt
    · rw [if_pos rfl]
      refine ⟨Or.inr rfl, fun k' hk => ?_⟩
      rcases hk with hk | rfl
      · cases h3 : k3Lt k' k
        · rfl
        · have := k3_trans h3 hlt
          rw [h.2 k' hk] at this
          cases this
      · exact k3_irrefl _
theorem least_first : ∀ l : List K3, First (· ∈ l) (least l) := by
  intro l
  have key : ∀ (l : List K3) (o : Option K3) (P : K3 → Prop), First P o → First (fun x => P x ∨ x ∈ l) (l.foldl pick o) := by
    intro l
    induction l with
    | nil => intro o P h; simpa using h
    | cons k l ih =>
      intro o P h
      refine first_congr (fun x => ?_) (ih (pick o k) _ (first_step h k))
      simp only [List.mem_cons]
      constructor
      · rintro ((h1 | h1) | h1)
        · exact Or.inl h1
        · exact Or.inr (Or.inl h1)
        · exact Or.inr (Or.inr h1)
      · rintro (h1 | h1 | h1)
        · exact Or.inl (Or.inl h1)
        · exact Or.inl (Or.inr h1)
        · exact Or.inr h1
  refine first_congr (fun x => ?_) (key l none (fun _ => False) (fun _ h => h))
  simp
/-- All slots of an index. -/
def ptsC (c : Cl) : List Pt := c.2.map fun s => (c.1, s)
def ptsOf (idx : List Cl) : List Pt := idx.flatMap ptsC
/-- A clash of one box and one slot. -/
def candAt (bs : List Bx) (p : Pt) (j : Nat) : K3 := (closeT (bs.getD j Bx.nil) (bxOf p), (j : Int), p.2.p)
def candTo (bs : List Bx) (n : ByteArray) (p : Pt) (m : Nat) : List K3 := if p.2.s = n then (List.range m).filterMap fun j => if closeB (bs.getD j Bx.nil) (bxOf p) then some (candAt bs p j) else none else []
theorem candTo_zero (bs : List Bx) (n : ByteArray) (p : Pt) : candTo bs n p 0 = [] := by unfold candTo; split <;> rfl
theorem candTo_succ {bs : List Bx} {n : ByteArray} {p : Pt} (m : Nat) (h : p.2.s = n) : candTo bs n p (m + 1) = candTo bs n p m ++ (if closeB (bs.getD m Bx.nil) (bxOf p) then [candAt bs p m] else []) := by
  unfold candTo
  rw [if_pos h, if_pos h, List.range_succ, List.filterMap_append]
  congr 1
  simp only [List.filterMap_cons, List.filterMap_nil]
  split <;> simp_all
def cands (bs : List Bx) (n : ByteArray) (pts : List Pt) : List K3 := pts.flatMap fun p => candTo bs n p bs.length
/-- A clash with a name. -/
def Cand (bs : List Bx) (pts : List Pt) (n : ByteArray) (k : K3) : Prop := ∃ j, j < bs.length ∧ ∃ p ∈ pts, p.2.s = n ∧ closeB (bs.getD j Bx.nil) (bxOf p) = true ∧ k = candAt bs p j
theorem mem_cands {bs : List Bx} {n : ByteArray} {pts : List Pt} {k : K3} : k ∈ cands bs n pts ↔ Cand bs pts n k := by
  unfold cands
  rw [List.mem_flatMap]
  constructor
  · rintro ⟨p, hp, hk⟩
    unfold candTo at hk
    split at hk
    · rename_i hn
      obtain ⟨j, hj, he⟩ := List.mem_filterMap.1 hk
      split at he
      · rename_i hc
        cases he
        exact ⟨j, List.mem_range.1 hj, p, hp, hn, hc, rfl⟩
      · cases he
    · cases hk
  · rintro ⟨j, hj, p, hp, hn, hc, rfl⟩
    refine ⟨p, hp, ?_⟩
    unfold candTo
    rw [if_pos hn]
    exact List.mem_filterMap.2 ⟨j, List.mem_range.2 hj, by rw [if_pos hc]⟩
theorem first_cands (bs : List Bx) (n : ByteArray) (pts : List Pt) : First (Cand bs pts n) (least (cands bs n pts)) := first_congr (fun _ => mem_cands) (least_first _)
/-- Names that ascend. -/
def nmLt (a b : ByteArray) : Bool := Op.bytesLess a.toList b.toList
theorem nm_ne {a b : ByteArray} (h : nmLt a b = true) : a ≠ b := by
  rintro rfl
  unfold nmLt at h
  rw [bl_irrefl] at h
  cases h
theorem nm_trans {a b c : ByteArray} (h : nmLt a b = true) (h' : nmLt b c = true) : nmLt a c = true := bl_trans h h'
theorem ba_ext {a b : ByteArray} (h : a.toList = b.toList) : a = b := by
  have h1 : a.data.toList = b.data.toList := by
    rw [ByteArray.toList_eq, ByteArray.toList_eq] at h
    exact h
  exact ByteArray.ext (Array.toList_inj.mp h1)
theorem nm_total {a b : ByteArray} (h : nmLt a b = false) (h' : a ≠ b) : nmLt b a = true := bl_total (fun e => h' (ba_ext e)) h
/-- The names of slots, ascending. -/
structure NamesAre (pts : List Pt) (ns : List ByteArray) : Prop where
  asc : ns.Pairwise fun a b => nmLt a b = true
  mem : ∀ n, n ∈ ns ↔ ∃ p ∈ pts, p.2.s = n
/-- What is told: names, ascending, each with its first clash. -/
structure AnsIs (bs : List Bx) (pts : List Pt) (tn : ByteArray) (l : List (ByteArray × K3)) : Prop where
  asc : l.Pairwise fun a b => nmLt a.1 b.1 = true
  mem : ∀ n k, (n, k) ∈ l ↔ n ≠ tn ∧ First (Cand bs pts n) (some k)
theorem ans_one {bs : List Bx} {pts : List Pt} {tn : ByteArray} {a b : List (ByteArray × K3)} (ha : AnsIs bs pts tn a) (hb : AnsIs bs pts tn b) : a = b := by
  have nd : ∀ {l : List (ByteArray × K3)}, (l.Pairwise fun a b => nmLt a.1 b.1 = true) → l.Nodup := fun {l} h => by
    refine List.Pairwise.imp (R := fun a b => nmLt a.1 b.1 = true) ?_ h
    rintro x y hxy rfl
    exact nm_ne hxy rfl
  refine sorted_one (r := fun x y : ByteArray × K3 => nmLt x.1 y.1) (fun x => by unfold nmLt; exact bl_irrefl _) (fun h h' => nm_trans h h') ?_ ha.asc hb.asc
  exact (List.perm_ext_iff_of_nodup (nd ha.asc) (nd hb.asc)).2 (fun ⟨n, k⟩ => (ha.mem n k).trans (hb.mem n k).symm)
theorem ans_of {bs : List Bx} {pts : List Pt} {tn : ByteArray} {ns : List ByteArray} (h : NamesAre pts ns) : AnsIs bs pts tn (ns.filterMap fun n => if n = tn then none else (least (cands bs n pts)).map fun k => (n, k)) := by
  refine ⟨?_, fun n k => ?_⟩
  · refine List.Pairwise.filterMap _ (fun a b hab x hx y hy => ?_) h.asc
    split at hx
    · cases hx
    · split at hy
      · cases hy
      · obtain ⟨k, -, rfl⟩ := Option.map_eq_some_iff.1 hx
        obtain ⟨k', -, rfl⟩ := Option.map_eq_some_iff.1 hy
        exact hab
  · rw [List.mem_filterMap]
    constructor
    · rintro ⟨m, hm, he⟩
      split at he
      · cases he
      · rename_i hne
        obtain ⟨k', hk', e⟩ := Option.map_eq_some_iff.1 he
        cases e
        exact ⟨hne, hk' ▸ first_cands bs n pts⟩
    · rintro ⟨hne, hF⟩
      obtain ⟨j, hj, p, hp, hn, -⟩ := hF.1
      refine ⟨n, (h.mem n).2 ⟨p, hp, hn⟩, ?_⟩
      rw [if_neg hne, first_one (first_cands bs n pts) hF]
      rfl
end Go.Proofs.YtpdcgjkfilohcabGreat

namespace Go.Proofs.YtpdcgjkfilohcabGreat
open Go.RowKit Go.Sort Go.Maps
attribute [local go_sem ↓] Go.wp_at_zero Go.wp_at_succ
set_option linter.unusedSimpArgs false
set_option linter.unusedVariables false

/-! The names in an index. -/

def strs (ns : List ByteArray) : List Value := ns.map Value.string
theorem strs_one {ns : List ByteArray} {u : Value} (h : u ∈ strs ns) : u.oneCell' = true := by
  obtain ⟨n, -, rfl⟩ := List.mem_map.1 h
  rfl
theorem strs_take (ns : List ByteArray) (m : Nat) (hm : m ≤ ns.length) : (strs (ns.take m)).length = m * 1 := by simp [strs]; omega
theorem strs_drop (ns : List ByteArray) (m : Nat) : (strs (ns.drop m)).length = (ns.length - m) * 1 := by simp [strs]
theorem strs_cell {w : World} {base g n cap : Nat} {e : TypeId} {ns : List ByteArray} (h : w.ownsRow base e 1 (.slice (some ⟨g, 0, none⟩) n cap) n (strs ns)) (hn : n = ns.length) {j : Nat} {s : ByteArray} (hj : ns[j]? = some s) : w.cell? ⟨g, j, none⟩ = some (.string s) := by
  have hjl := (List.getElem?_eq_some_iff.1 hj).1
  rw [h.cellAt j (by omega)]
  simp [strs, hj]
/-- The slots up to one. -/
def upX (idx : List Cl) (i k : Nat) : List Pt := ptsOf (idx.take i) ++ (ptsC (idx.getD i Cl.nil)).take k
theorem upX_zero (idx : List Cl) (i : Nat) : upX idx i 0 = ptsOf (idx.take i) := by simp [upX]
theorem upX_succ {idx : List Cl} {i k : Nat} (hk : k < (idx.getD i Cl.nil).2.length) : upX idx i (k + 1) = upX idx i k ++ [((idx.getD i Cl.nil).1, (idx.getD i Cl.nil).2.getD k Sl.nil)] := by
  unfold upX ptsC
  rw [List.append_assoc]
  congr 1
  generalize idx.getD i Cl.nil = c at *
  rw [List.take_add_one, List.getElem?_map, List.getD_eq_getElem?_getD, List.getElem?_eq_getElem hk]
  rfl
theorem upX_all {idx : List Cl} {i : Nat} (hi : i < idx.length) : upX idx i (idx.getD i Cl.nil).2.length = ptsOf (idx.take (i + 1)) := by
  have e : idx.take (i + 1) = idx.take i ++ [idx.getD i Cl.nil] := by
    rw [List.take_add_one, List.getD_eq_getElem?_getD, List.getElem?_eq_getElem hi]
    rfl
  unfold upX ptsOf
  rw [e, List.flatMap_append]
  generalize idx.getD i Cl.nil = c
  simp [ptsC, List.take_of_length_le]
theorem names_nil : NamesAre [] [] := ⟨List.Pairwise.nil, fun n => by simp⟩
theorem names_hit {P : List Pt} {ns : List ByteArray} {p : Pt} (h : NamesAre P ns) (hm : p.2.s ∈ ns) : NamesAre (P ++ [p]) ns := by
  refine ⟨h.asc, fun n => ?_⟩
  rw [h.mem n]
  constructor
  · rintro ⟨q, hq, e⟩
    exact ⟨q, List.mem_append_left _ hq, e⟩
  · rintro ⟨q, hq, e⟩
    rcases List.mem_append.1 hq with hq | hq
    · exact ⟨q, hq, e⟩
    · rw [List.mem_singleton] at hq
      subst hq
      exact (h.mem n).1 (e ▸ hm)
theorem names_ins {P : List Pt} {ns : List ByteArray} {p : Pt} {m : Nat} (h : NamesAre P ns) (hm : ahead (fun a => nmLt a p.2.s) ns m) (hn : ns[m]? ≠ some p.2.s) : NamesAre (P ++ [p]) (ns.take m ++ p.2.s :: ns.drop m) := by
  have hnot : ∀ a ∈ ns, a ≠ p.2.s := by
    have hs' : (ns.take m ++ ns.drop m).Pairwise fun a b => nmLt a b = true := by rw [List.take_append_drop]; exact h.asc
    obtain ⟨h1, h2, h3⟩ := List.pairwise_append.1 hs'
    intro a ha e
    rw [← List.take_append_drop m ns] at ha
    rcases List.mem_append.1 ha with ha | ha
    · exact nm_ne (hm.2.1 a ha) e
    · cases e2 : ns[m]? with
      | none =>
        rw [List.drop_of_length_le (List.getElem?_eq_none_iff.1 e2)] at ha
        cases ha
      | some x =>
        rw [drop_cons e2] at ha h2
        rcases List.mem_cons.1 ha with rfl | ha
        · exact hn (by rw [e2, e])
        · have h4 := (List.pairwise_cons.1 h2).1 a ha
          have h5 : nmLt x p.2.s = false := hm.2.2 x e2
          rw [e] at h4
          rw [h4] at h5
          cases h5
  refine ⟨ins_sorted (r := nmLt) (fun h h' => nm_trans h h') h.asc hm (fun a ha h' => nm_total h' (hnot a ha)), fun n => ?_⟩
  rw [(ins_perm ns m p.2.s).mem_iff, List.mem_append, List.mem_singleton, h.mem n]
  constructor
  · rintro (⟨q, hq, e⟩ | rfl)
    · exact ⟨q, List.mem_append_left _ hq, e⟩
    · exact ⟨p, by simp, rfl⟩
  · rintro ⟨q, hq, e⟩
    rcases List.mem_append.1 hq with hq | hq
    · exact Or.inl ⟨q, hq, e⟩
    · rw [List.mem_singleton] at hq
      subst hq
      exact Or.inr e.symm
/-- How many names there are. -/
theorem names_len {P : List Pt} {ns : List ByteArray} (h : NamesAre P ns) : ns.length ≤ P.length := by
  have nd : ns.Nodup := by
    refine List.Pairwise.imp (R := fun a b => nmLt a b = true) ?_ h.asc
    rintro x y hxy rfl
    exact nm_ne hxy rfl
  have key : ∀ (ns : List ByteArray) (P : List Pt), ns.Nodup → (∀ n ∈ ns, ∃ p ∈ P, p.2.s = n) → ns.length ≤ P.length := by
    intro ns
    induction ns with
    | nil => intro P _ _; exact Nat.zero_le _
    | cons n ns ih =>
      intro P hnd hm
      obtain ⟨h1, h2⟩ := List.nodup_cons.1 hnd
      obtain ⟨p, hp, e⟩ := hm n List.mem_cons_self
      have hlt : (P.filter fun q => !(decide (q.2.s = n))).length < P.length := List.length_filter_lt_length_iff_exists.2 ⟨p, hp, by simp [e]⟩
      have := ih (P.filter fun q => !(decide (q.2.s = n))) h2 (fun m hm' => by
        obtain ⟨q, hq, e'⟩ := hm m (List.mem_cons_of_mem _ hm')
        refine ⟨q, List.mem_filter.2 ⟨hq, ?_⟩, e'⟩
        have : q.2.s ≠ n := fun e2 => h1 (by rw [← e2, e']; exact hm')
        simp [this])
      rw [List.length_cons]
      omega
  exact key ns P nd (fun n hn => (h.mem n).1 hn)
theorem upX_le (idx : List Cl) (i k : Nat) (hi : i < idx.length) : (upX idx i k).length ≤ (ptsOf idx).length := by
  have e : ptsOf idx = ptsOf (idx.take i) ++ (ptsC (idx.getD i Cl.nil) ++ ptsOf (idx.drop (i + 1))) := by
    unfold ptsOf
    conv => lhs; rw [← List.take_append_drop i idx, List.drop_eq_getElem_cons hi]
    rw [List.flatMap_append, List.flatMap_cons, List.getD_eq_getElem?_getD, List.getElem?_eq_getElem hi]
    rfl
  rw [e]
  unfold upX
  simp only [List.length_append, List.length_take]
  omega
/-- Whether the name at a place comes ahead. -/
def nmAt (ns : List ByteArray) (m : Nat) (nm : ByteArray) : Bool := match ns[m]? with | some x => nmLt x nm | none => false
theorem nmAt_some {ns : List ByteArray} {m : Nat} {nm x : ByteArray} (hm : ns[m]? = some x) : nmAt ns m nm = Op.bytesLess x.toList nm.toList := by
  unfold nmAt
  rw [hm]
  rfl
theorem nmAt_none {ns : List ByteArray} {m : Nat} {nm : ByteArray} (hm : ¬ m < ns.length) : nmAt ns m nm = false := by
  unfold nmAt
  rw [List.getElem?_eq_none (by omega)]
theorem nmAt_true {ns : List ByteArray} {m : Nat} {nm : ByteArray} (h : nmAt ns m nm = true) (hT : ∀ x ∈ ns.take m, nmLt x nm = true) : m < ns.length ∧ ∀ x ∈ ns.take (m + 1), nmLt x nm = true := by
  unfold nmAt at h
  split at h
  · rename_i x hx
    refine ⟨(List.getElem?_eq_some_iff.1 hx).1, fun y hy => ?_⟩
    rw [List.take_add_one, hx] at hy
    rcases List.mem_append.1 hy with hy | hy
    · exact hT y hy
    · simp at hy
      rw [hy]
      exact h
  · cases h
theorem nmAt_false {ns : List ByteArray} {m : Nat} {nm : ByteArray} (h : nmAt ns m nm = false) (hm : m ≤ ns.length) (hT : ∀ x ∈ ns.take m, nmLt x nm = true) : ahead (fun a => nmLt a nm) ns m := by
  refine ⟨hm, hT, fun x hx => ?_⟩
  unfold nmAt at h
  rw [hx] at h
  exact h
/-- Whether the name at a place is another. -/
def nmNe (ns : List ByteArray) (m : Nat) (nm : ByteArray) : Bool := decide (ns[m]? ≠ some nm)
theorem strs_news {w : World} {base g n cap : Nat} {e : TypeId} {ns : List ByteArray} (h : w.ownsRow base e 1 (.slice (some ⟨g, 0, none⟩) n cap) n (strs ns)) (hn : n = ns.length) (m : Nat) : ∀ j u, (strs (ns.drop m))[j]? = some u → w.cell? ((⟨g, m, none⟩ : Addr).add j) = some u := by
  intro j u hu
  have e : (⟨g, m, none⟩ : Addr).add j = ⟨g, m + j, none⟩ := by unfold Addr.add; split <;> simp_all
  rw [e]
  unfold strs at hu
  rw [List.getElem?_map] at hu
  obtain ⟨x, hx, rfl⟩ := Option.map_eq_some_iff.1 hu
  rw [List.getElem?_drop] at hx
  exact strs_cell h hn hx
theorem strs_news0 {w : World} {base g n cap : Nat} {e : TypeId} {ns : List ByteArray} (h : w.ownsRow base e 1 (.slice (some ⟨g, 0, none⟩) n cap) n (strs ns)) (hn : n = ns.length) (m : Nat) : ∀ j u, (strs (ns.take m))[j]? = some u → w.cell? ((⟨g, 0, none⟩ : Addr).add j) = some u := by
  intro j u hu
  have e : (⟨g, 0, none⟩ : Addr).add j = ⟨g, j, none⟩ := by unfold Addr.add; split <;> simp_all
  rw [e]
  unfold strs at hu
  rw [List.getElem?_map] at hu
  obtain ⟨x, hx, rfl⟩ := Option.map_eq_some_iff.1 hu
  rw [List.getElem?_take] at hx
  split at hx
  · exact strs_cell h hn hx
  · cases hx
theorem Tryz.info9 : (Tryz.prog.info? 9).map (fun i => (i.zero, i.size, i.bytes)) = some (some (.string ⟨#[]⟩), 1, 16) := by kernel_rfl

set_option maxRecDepth 100000 in
set_option maxHeartbeats 8000000 in
theorem l5Names_any (lo : Nat) (v : Value) (cs : List Cx) (w : World) (h : OwnX lo w v cs) (hS : SmallX cs) (hP : (ptsOf (idxOf cs)).length ≤ 1048576) :
    Calls Tryz.prog 55 #[.agg #[v]] w fun e w' => (∃ rv ns, e = .returned rv ∧ w'.ownsRow w.heap.size 9 1 rv ns.length (strs ns) ∧ NamesAre (ptsOf (idxOf cs)) ns) ∧ Gr w w' := by
  obtain ⟨i0, hi, hz0, hz1, hz2⟩ := info_parts Tryz.info9
  obtain ⟨a, cap, rfl⟩ := row_form h.row
  have G1 : Gr w ((w.alloc (.cells #[.slice a cs.length cap] 48)).alloc (.cells #[] 9)) := ((Gr.refl w).alloc _).alloc _
  have hxl : (idxOf cs).length = cs.length := idx_len cs
  have HCE : Hid (∀ i, i < cs.length → ∃ g sa sc, a = some ⟨g, 0, none⟩ ∧ ∀ w', Gr w w' → w'.cell? ⟨g, i * 3 + 2, none⟩ = some (.slice sa (((idxOf cs).getD i Cl.nil).2.length) sc) ∧ Slots w' sa ((idxOf cs).getD i Cl.nil).2) := fun i hi => by
    obtain ⟨-, hc⟩ := own_cells h
    obtain ⟨g, sa, sc, e, hg, -, -, -, c2, -, hsl, -⟩ := hc i hi
    have e2 : (idxOf cs).getD i Cl.nil = ((cs.getD i Cx.nil).1, (cs.getD i Cx.nil).2.2) := by rw [List.getD_eq_getElem?_getD, idx_get hi]; rfl
    rw [e2]
    exact ⟨g, sa, sc, e, fun w' g' => ⟨(g'.cells.1 _ _ hg).trans c2, slots_gr hsl g'⟩⟩
  have HSL : Hid (∀ i, i < cs.length → ((idxOf cs).getD i Cl.nil).2.length ≤ 1048576) := fun i hi => by
    have e2 : (idxOf cs).getD i Cl.nil = ((cs.getD i Cx.nil).1, (cs.getD i Cx.nil).2.2) := by rw [List.getD_eq_getElem?_getD, idx_get hi]; rfl
    rw [e2]
    exact hS.2 _ (List.mem_of_getElem? (cx_get hi))
  have hn := hS.1
  have HBX : Hid (∀ w', Gr ((w.alloc (.cells #[.slice a cs.length cap] 48)).alloc (.cells #[] 9)) w' → w'.cell? ⟨w.heap.size, 0, none⟩ = some (.slice a cs.length cap)) := fun w' g' => (g'.cells.1 _ _ (by simp; omega)).trans ((cell_old (by simp)).trans ((cell_new (by simp)).trans rfl))
  have HO0 : Hid (((w.alloc (.cells #[.slice a cs.length cap] 48)).alloc (.cells #[] 9)).ownsRow w.heap.size 9 1 (.slice (some ⟨w.heap.size + 1, 0, none⟩) ([] : List ByteArray).length 0) ([] : List ByteArray).length (strs [])) := own_empty 1 (by omega) (alloc_at _ _ _)
  have HG1 := hidE G1
  have HGN := hidE hP
  generalize hX : idxOf cs = idx at *
  clear h hS G1 hX hP
  go_enter Tryz.func55, Tryz.ntmps55
  go_wp2
  go_loopw [3, 4] (fun vo n wr => ∃ (i : Nat) (c : Nat) (q : Nat) (ns : List ByteArray), i ≤ cs.length ∧ n = .int .i64 i ∧ vo = .slice (some ⟨q, 0, none⟩) ns.length c ∧ Hid (wr.ownsRow w.heap.size 9 1 (.slice (some ⟨q, 0, none⟩) ns.length c) ns.length (strs ns)) ∧ Hid (NamesAre (ptsOf (idx.take i)) ns) ∧ Gr ((w.alloc (.cells #[.slice a cs.length cap] 48)).alloc (.cells #[] 9)) wr) (fun _ n _ => cs.length - (intOf n).toNat)
  case atStart => exact ⟨0, 0, _, [], Nat.zero_le _, rfl, rfl, HO0, names_nil, Gr.refl _⟩
  case round =>
    obtain ⟨i, c, q, ns, hic, rfl, rfl, HO, HN, gr⟩ := hrel
    have b0 := HBX.out _ gr
    by_cases hil : i < cs.length
    · obtain ⟨g, sa, sc, rfl, hC⟩ := HCE.out i hil
      have HC := hidE hC
      have b2 := (hC _ (HG1.out.trans gr)).1
      have hsl := HSL.out i hil
      have HNZ : Hid (NamesAre (upX idx i 0) ns) := by
        show NamesAre _ _
        rw [upX_zero]
        exact HN.out
      have HUP := hidE (upX_all (idx := idx) (i := i) (by omega))
      have HLE := hidE (fun k => upX_le idx i k (by omega))
      have HSU := hidE (fun k hk => upX_succ (idx := idx) (i := i) (k := k) hk)
      have hi0 : (0 : Int) ≤ (i : Int) := by omega
      have hi1 : (i : Int) < (cs.length : Int) := by omega
      generalize idx.getD i Cl.nil = cl at *
      obtain ⟨cp, ss⟩ := cl
      dsimp only at *
      clear hC HN HCE HSL HO0
      go_wp2
      go_loopw [3, 5] (fun vo kk wr => ∃ (k c q : Nat) (ns : List ByteArray), k ≤ ss.length ∧ kk = .int .i64 k ∧ vo = .slice (some ⟨q, 0, none⟩) ns.length c ∧ Hid (wr.ownsRow w.heap.size 9 1 (.slice (some ⟨q, 0, none⟩) ns.length c) ns.length (strs ns)) ∧ Hid (NamesAre (upX idx i k) ns) ∧ Gr ((w.alloc (.cells #[.slice (some ⟨g, 0, none⟩) cs.length cap] 48)).alloc (.cells #[] 9)) wr) (fun _ kk _ => ss.length - (intOf kk).toNat)
      case atStart => exact ⟨0, c, q, ns, Nat.zero_le _, rfl, rfl, HO, HNZ, gr⟩
      case round =>
        clear HO HNZ gr b0 b2
        obtain ⟨k, c1, q1, ns1, hk, rfl, rfl, HO, HN, gr⟩ := hrel
        obtain ⟨wA, hA⟩ : ∃ x, x = wr := ⟨_, rfl⟩
        subst hA
        have b0 := HBX.out _ gr
        have b2 := (HC.out _ (HG1.out.trans gr)).1
        by_cases hkl : k < ss.length
        · obtain ⟨gs, os, rfl, hgs, hx⟩ := (HC.out _ (HG1.out.trans gr)).2 k hkl
          have x4 := hx.2.2.2.2.1
          have HSK := hidE (HSU.out k hkl)
          have hk0 : (0 : Int) ≤ (k : Int) := by omega
          have hk1 : (k : Int) < (ss.length : Int) := by omega
          have hlN := Nat.le_trans (names_len HN.out) (Nat.le_trans (HLE.out k) HGN.out)
          generalize ss.getD k Sl.nil = s at *
          clear hx
          go_wp2
          go_loopw [7] (fun nn wr => ∃ m : Nat, m ≤ ns1.length ∧ nn = .int .i64 m ∧ wr = wA ∧ Hid (∀ x ∈ ns1.take m, nmLt x s.s = true)) (fun nn _ => ns1.length - (intOf nn).toNat)
          case atStart => exact ⟨0, Nat.zero_le _, rfl, rfl, fun x hx => by simp at hx⟩
          case round =>
            obtain ⟨m, hm, rfl, hw, HT⟩ := hrel
            subst hw
            have hm0 : (0 : Int) ≤ (m : Int) := by omega
            go_upto_region 10 with fail
            go_cut [48] from 37 to 50 (fun s48 wx => s48 = .bool (nmAt ns1 m s.s) ∧ wx = wr)
            case first =>
              by_cases hml : m < ns1.length
              · obtain ⟨x, hx⟩ : ∃ x, ns1[m]? = some x := ⟨_, List.getElem?_eq_getElem hml⟩
                have ES := hidE (nmAt_some (nm := s.s) hx)
                have hm1 : (m : Int) < (ns1.length : Int) := by omega
                have c0 := strs_cell HO.out rfl hx
                clear hx
                go_wp2
                go_meet
                exact ⟨by rw [ES.out], rfl⟩
              · have hd : decide (m < ns1.length) = false := by simpa using hml
                have ES := hidE (nmAt_none (nm := s.s) hml)
                clear hml
                go_wp2
                go_meet
                exact ⟨by rw [ES.out], rfl⟩
            obtain ⟨rfl, rfl⟩ := hcut
            cases hB : nmAt ns1 m s.s
            · have HAH := hidE (nmAt_false hB hm HT.out)
              clear HT
              go_upto_region 12 with fail
              go_cut [62] from 51 to 74 (fun s62 wx => s62 = .bool (nmNe ns1 m s.s) ∧ wx = wc)
              case first =>
                by_cases hml : m < ns1.length
                · obtain ⟨x, hx⟩ : ∃ x, ns1[m]? = some x := ⟨_, List.getElem?_eq_getElem hml⟩
                  have hm1 : (m : Int) < (ns1.length : Int) := by omega
                  have c0 := strs_cell HO.out rfl hx
                  have ES : Hid (nmNe ns1 m s.s = ((m : Int) == (ns1.length : Int) || !(x.toList == s.s.toList))) := by
                    show _ = _
                    have e1 : ((m : Int) == (ns1.length : Int)) = false := by rw [beq_eq_false_iff_ne]; omega
                    rw [e1, Bool.false_or]
                    unfold nmNe
                    rw [hx]
                    cases e2 : x.toList == s.s.toList
                    · have h9 : x ≠ s.s := fun e => by rw [e] at e2; simp at e2
                      simp [h9]
                    · have h9 : x = s.s := ba_ext (by simpa using e2)
                      simp [h9]
                  clear hx hml
                  go_wp2
                  go_meet
                  exact ⟨by rw [ES.out], rfl⟩
                · have hd : m = ns1.length := by omega
                  have ES : Hid (nmNe ns1 m s.s = true) := by
                    show _ = _
                    unfold nmNe
                    rw [List.getElem?_eq_none (by omega)]
                    simp
                  clear hml
                  go_wp2
                  go_meet
                  exact ⟨by rw [ES.out], rfl⟩
              obtain ⟨rfl, hw⟩ := hcut
              subst hw
              cases hE : nmNe ns1 m s.s
              · have HNI : Hid (NamesAre (upX idx i (k + 1)) ns1) := by
                  show NamesAre _ _
                  rw [HSK.out]
                  have hx : ns1[m]? = some s.s := by simpa [nmNe] using hE
                  exact names_hit (p := (cp, s)) HN.out (List.mem_of_getElem? hx)
                go_wp2
                go_roundw
                case rel => exact ⟨k + 1, c1, q1, ns1, by omega, by go_num, rfl, HO, HNI, gr⟩
                case measure => simp [intOf]; omega
              · have HNI : Hid (NamesAre (upX idx i (k + 1)) (ns1.take m ++ s.s :: ns1.drop m)) := by
                  show NamesAre _ _
                  rw [HSK.out]
                  have hx : ns1[m]? ≠ some s.s := by simpa [nmNe] using hE
                  exact names_ins (p := (cp, s)) HN.out HAH.out hx
                have hcc : ns1.length ≤ c1 := by
                  rcases HO.out.2 with ⟨e, -⟩ | ⟨_, _, _, e, _, _, h9, _⟩
                  · cases e
                  · simp only [Value.slice.injEq] at e
                    rw [e.2.2]
                    exact h9
                obtain ⟨wA, hA⟩ : ∃ x, x = wc := ⟨_, rfl⟩
                subst hA
                have HG0 := hidE gr
                have hN : w.heap.size ≤ wA.heap.size := (HG1.out.trans gr).size
                have HTK : Hid (∀ w', Gr wA w' → ∀ j u, (strs (ns1.take m))[j]? = some u → w'.cell? ((⟨q1, 0, none⟩ : Addr).add j) = some u) := fun w' g' => strs_news0 (owns_gr HO.out g') rfl m
                have hm1 : (m : Int) ≤ (ns1.length : Int) := by omega
                have hm2 : (ns1.length : Int) ≤ (c1 : Int) := by omega
                have hm3 : (m : Int) ≤ (c1 : Int) := by omega
                have q0 := Gr.refl wA
                have HOa : Hid ((wA.alloc (.cells #[] 9)).drew.ownsRow wA.heap.size 9 1 (.slice (some ⟨wA.heap.size, 0, none⟩) 0 0) 0 []) := own_empty 1 (Nat.le_refl _) (World.alloc_heap_new _ _)
                have HOb : Hid (((wA.alloc (.cells #[] 9)).alloc (.cells #[.string s.s] 9)).drew.ownsRow wA.heap.size 9 1 (.slice (some ⟨wA.heap.size, 0, none⟩) 0 0) 0 []) := own_empty 1 (Nat.le_refl _) ((Below.heap_alloc _ _ _ (by simp)).trans (World.alloc_heap_new _ _))
                have HOc : Hid (((wA.alloc (.cells #[.string s.s] 9)).alloc (.cells #[] 9)).drew.ownsRow wA.heap.size 9 1 (.slice (some ⟨wA.heap.size + 1, 0, none⟩) 0 0) 0 []) := own_empty 1 (by omega) (alloc_at _ _ _)
                have HBb : Hid (((wA.alloc (.cells #[] 9)).alloc (.cells #[.string s.s] 9)).heap[wA.heap.size + 1]? = some (.cells #[.string s.s] 9 (0, 0))) := alloc_at _ _ _
                have HBc : Hid (((wA.alloc (.cells #[.string s.s] 9)).alloc (.cells #[] 9)).heap[wA.heap.size]? = some (.cells #[.string s.s] 9 (0, 0))) := (Below.heap_alloc _ _ _ (by simp)).trans (World.alloc_heap_new _ _)
                obtain ⟨A, hnews, hck⟩ : ∃ A : Addr, (∀ w', Gr wA w' → ∀ j u, (strs (ns1.drop m))[j]? = some u → w'.cell? (A.add j) = some u) ∧ ((c1 = m ∧ A = ⟨q1, 0, none⟩) ∨ (¬ c1 = m ∧ A = ⟨q1, m, none⟩)) := by
                  by_cases hck : c1 = m
                  · refine ⟨_, fun w' _ j u hu => ?_, Or.inl ⟨hck, rfl⟩⟩
                    rw [List.drop_of_length_le (by omega)] at hu
                    simp [strs] at hu
                  · exact ⟨_, fun w' g' => strs_news (owns_gr HO.out g') rfl m, Or.inr ⟨hck, rfl⟩⟩
                have HNW := hidE hnews
                clear hnews HN HAH gr hB hE b0 b2 x4
                go_upto_region 13 with fail
                rcases hck with ⟨hck, rfl⟩ | ⟨hck, rfl⟩
                · have hck' : m = c1 := hck.symm
                  clear hck
                  subst hck'
                  go_region_held3 (fun w' => Gr wA w' ∧ True)
                    ((refine ⟨?_, trivial⟩; repeat (first | with_reducible exact q0 | with_reducible assumption | with_reducible exact And.left (by assumption) | with_reducible refine Gr.drew ?_ | with_reducible refine Gr.alloc ?_ _)))
                    (first
                      | (refine step_append_own rfl (.tmp 63) (.tmp 66) 90 rfl wA.heap.size 9 i0 _ 1 16 Tryz.underlying90 hi hz0 hz1 hz2 rfl (by decide) _ _ _ (by simp [Act.eval]) HOa.out ⟨q1, 0, none⟩ m m (strs (ns1.take m)) (by simp [Act.eval]) (strs_take ns1 m hm) (HTK.out _ (And.left (by assumption))) (fun u hu => strs_one hu) (by unfold maxLen; omega) (by omega) (Gr.size (And.left (by assumption))) ?_; intro v24 w24 hown24 hgr24; have G24 : Gr wA w24 := Below.grown (And.left (by assumption)) hgr24 (Gr.size (And.left (by assumption))) (fun z hz => (row_block HOa.out hz).1); obtain ⟨a24, c24, e24⟩ := row_form hown24; subst e24)
                      | (refine step_append_own rfl (.tmp 63) (.tmp 66) 90 rfl wA.heap.size 9 i0 _ 1 16 Tryz.underlying90 hi hz0 hz1 hz2 rfl (by decide) _ _ _ (by simp [Act.eval]) HOb.out ⟨q1, 0, none⟩ m m (strs (ns1.take m)) (by simp [Act.eval]) (strs_take ns1 m hm) (HTK.out _ (And.left (by assumption))) (fun u hu => strs_one hu) (by unfold maxLen; omega) (by omega) (Gr.size (And.left (by assumption))) ?_; intro v24 w24 hown24 hgr24; have G24 : Gr wA w24 := Below.grown (And.left (by assumption)) hgr24 (Gr.size (And.left (by assumption))) (fun z hz => (row_block HOb.out hz).1); have HB24 := hidE ((hgr24.block (wA.heap.size + 1) (by simp) (by simp [Value.ownBlock])).trans HBb.out); obtain ⟨a24, c24, e24⟩ := row_form hown24; subst e24)
                      | (refine step_append_own rfl (.tmp 63) (.tmp 66) 90 rfl wA.heap.size 9 i0 _ 1 16 Tryz.underlying90 hi hz0 hz1 hz2 rfl (by decide) _ _ _ (by simp [Act.eval]) HOc.out ⟨q1, 0, none⟩ m m (strs (ns1.take m)) (by simp [Act.eval]) (strs_take ns1 m hm) (HTK.out _ (And.left (by assumption))) (fun u hu => strs_one hu) (by unfold maxLen; omega) (by omega) (Gr.size (And.left (by assumption))) ?_; intro v24 w24 hown24 hgr24; have G24 : Gr wA w24 := Below.grown (And.left (by assumption)) hgr24 (Gr.size (And.left (by assumption))) (fun z hz => (row_block HOc.out hz).1); have HB24 := hidE ((hgr24.block wA.heap.size (by simp; omega) (by simp [Value.ownBlock])).trans HBc.out); obtain ⟨a24, c24, e24⟩ := row_form hown24; subst e24)
                      | (refine step_append_own rfl (.tmp 70) (.tmp 73) 90 rfl wA.heap.size 9 i0 _ 1 16 Tryz.underlying90 hi hz0 hz1 hz2 rfl (by decide) _ _ _ (by simp [Act.eval]) hown27 _ 0 0 (strs (ns1.drop m)) (by simp [Act.eval]) (by rw [strs_drop, show ns1.length - m = 0 by omega]) (HNW.out _ (And.left (by assumption))) (fun u hu => strs_one hu) (by unfold maxLen; omega) (by omega) (Gr.size (And.left (by assumption))) ?_; intro v31 w31 hown31 hgr31; have G31 : Gr wA w31 := Below.grown (And.left (by assumption)) hgr31 (Gr.size (And.left (by assumption))) (fun z hz => (row_block hown27 hz).1); rw [show 0 + m + 1 + 0 = ns1.length + 1 by omega] at hown31; obtain ⟨g31, c31, e31⟩ := row_some hown31 (by omega); subst e31)
                      | (refine step_append_own rfl (.tmp 67) (.tmp 69) 90 rfl wA.heap.size 9 i0 _ 1 16 Tryz.underlying90 hi hz0 hz1 hz2 rfl (by decide) _ _ _ (by simp [Act.eval]) hown24 ⟨wA.heap.size + 1, 0, none⟩ 1 1 [.string s.s] (by simp [Act.eval]) rfl (blk_cells (vs := [.string s.s]) HB24.out) (by simp [Value.oneCell']) (by unfold maxLen; omega) (by omega) (Gr.size (And.left (by assumption))) ?_; intro v27 w27 hown27 hgr27; have G27 : Gr wA w27 := Below.grown (And.left (by assumption)) hgr27 (Gr.size (And.left (by assumption))) (fun z hz => (row_block hown24 hz).1); obtain ⟨a27, c27, e27⟩ := row_form hown27; subst e27)
                      | (refine step_append_own rfl (.tmp 67) (.tmp 69) 90 rfl wA.heap.size 9 i0 _ 1 16 Tryz.underlying90 hi hz0 hz1 hz2 rfl (by decide) _ _ _ (by simp [Act.eval]) hown24 ⟨wA.heap.size, 0, none⟩ 1 1 [.string s.s] (by simp [Act.eval]) rfl (blk_cells (vs := [.string s.s]) HB24.out) (by simp [Value.oneCell']) (by unfold maxLen; omega) (by omega) (Gr.size (And.left (by assumption))) ?_; intro v27 w27 hown27 hgr27; have G27 : Gr wA w27 := Below.grown (And.left (by assumption)) hgr27 (Gr.size (And.left (by assumption))) (fun z hz => (row_block hown24 hz).1); obtain ⟨a27, c27, e27⟩ := row_form hown27; subst e27)
                      | (refine step_append_own rfl (.tmp 67) (.tmp 69) 90 rfl wA.heap.size 9 i0 _ 1 16 Tryz.underlying90 hi hz0 hz1 hz2 rfl (by decide) _ _ _ (by simp [Act.eval]) (hown24.alloc _) ⟨w24.heap.size, 0, none⟩ 1 1 [.string s.s] (by simp [Act.eval]) rfl (news_cells w24 _ rfl [.string s.s] _) (by simp [Value.oneCell']) (by unfold maxLen; omega) (by omega) (Gr.size (And.left (by assumption))) ?_; intro v27 w27 hown27 hgr27; have G27 : Gr wA w27 := Below.grown (And.left (by assumption)) hgr27 (Gr.size (And.left (by assumption))) (fun z hz => (row_block hown24 hz).1); obtain ⟨a27, c27, e27⟩ := row_form hown27; subst e27))
                  all_goals
                    have HF : Hid (w31.ownsRow w.heap.size 9 1 (.slice (some ⟨g31, 0, none⟩) (ns1.length + 1) c31) (ns1.length + 1) (strs (ns1.take m ++ s.s :: ns1.drop m))) := by
                      show World.ownsRow _ _ _ _ _ _ _
                      have h9 := own_lo hown31 hN
                      simpa [strs] using h9
                    have HG9 := hidE (HG0.out.trans G31)
                    have hl9 : (ns1.take m ++ s.s :: ns1.drop m).length = ns1.length + 1 := by simp; omega
                    have HF2 : Hid (w31.ownsRow w.heap.size 9 1 (.slice (some ⟨g31, 0, none⟩) (ns1.take m ++ s.s :: ns1.drop m).length c31) (ns1.take m ++ s.s :: ns1.drop m).length (strs (ns1.take m ++ s.s :: ns1.drop m))) := by
                      show World.ownsRow _ _ _ _ _ _ _
                      rw [hl9]
                      exact HF.out
                    have HV9 := hidE (congrArg (fun z => Value.slice (some ⟨g31, 0, none⟩) z c31) hl9.symm)
                    clear hown31 hl9
                    go_wp2
                    go_roundw
                    case rel => exact ⟨k + 1, c31, g31, ns1.take m ++ s.s :: ns1.drop m, by omega, by go_num, HV9.out, HF2, HNI, HG9.out⟩
                    case measure => simp [intOf]; omega
                go_region_held3 (fun w' => Gr wA w' ∧ True)
                  ((refine ⟨?_, trivial⟩; repeat (first | with_reducible exact q0 | with_reducible assumption | with_reducible exact And.left (by assumption) | with_reducible refine Gr.drew ?_ | with_reducible refine Gr.alloc ?_ _)))
                  (first
                    | (refine step_append_own rfl (.tmp 63) (.tmp 66) 90 rfl wA.heap.size 9 i0 _ 1 16 Tryz.underlying90 hi hz0 hz1 hz2 rfl (by decide) _ _ _ (by simp [Act.eval]) HOa.out ⟨q1, 0, none⟩ m c1 (strs (ns1.take m)) (by simp [Act.eval]) (strs_take ns1 m hm) (HTK.out _ (And.left (by assumption))) (fun u hu => strs_one hu) (by unfold maxLen; omega) (by omega) (Gr.size (And.left (by assumption))) ?_; intro v24 w24 hown24 hgr24; have G24 : Gr wA w24 := Below.grown (And.left (by assumption)) hgr24 (Gr.size (And.left (by assumption))) (fun z hz => (row_block HOa.out hz).1); obtain ⟨a24, c24, e24⟩ := row_form hown24; subst e24)
                    | (refine step_append_own rfl (.tmp 63) (.tmp 66) 90 rfl wA.heap.size 9 i0 _ 1 16 Tryz.underlying90 hi hz0 hz1 hz2 rfl (by decide) _ _ _ (by simp [Act.eval]) HOb.out ⟨q1, 0, none⟩ m c1 (strs (ns1.take m)) (by simp [Act.eval]) (strs_take ns1 m hm) (HTK.out _ (And.left (by assumption))) (fun u hu => strs_one hu) (by unfold maxLen; omega) (by omega) (Gr.size (And.left (by assumption))) ?_; intro v24 w24 hown24 hgr24; have G24 : Gr wA w24 := Below.grown (And.left (by assumption)) hgr24 (Gr.size (And.left (by assumption))) (fun z hz => (row_block HOb.out hz).1); have HB24 := hidE ((hgr24.block (wA.heap.size + 1) (by simp) (by simp [Value.ownBlock])).trans HBb.out); obtain ⟨a24, c24, e24⟩ := row_form hown24; subst e24)
                    | (refine step_append_own rfl (.tmp 63) (.tmp 66) 90 rfl wA.heap.size 9 i0 _ 1 16 Tryz.underlying90 hi hz0 hz1 hz2 rfl (by decide) _ _ _ (by simp [Act.eval]) HOc.out ⟨q1, 0, none⟩ m c1 (strs (ns1.take m)) (by simp [Act.eval]) (strs_take ns1 m hm) (HTK.out _ (And.left (by assumption))) (fun u hu => strs_one hu) (by unfold maxLen; omega) (by omega) (Gr.size (And.left (by assumption))) ?_; intro v24 w24 hown24 hgr24; have G24 : Gr wA w24 := Below.grown (And.left (by assumption)) hgr24 (Gr.size (And.left (by assumption))) (fun z hz => (row_block HOc.out hz).1); have HB24 := hidE ((hgr24.block wA.heap.size (by simp; omega) (by simp [Value.ownBlock])).trans HBc.out); obtain ⟨a24, c24, e24⟩ := row_form hown24; subst e24)
                    | (refine step_append_own rfl (.tmp 70) (.tmp 73) 90 rfl wA.heap.size 9 i0 _ 1 16 Tryz.underlying90 hi hz0 hz1 hz2 rfl (by decide) _ _ _ (by simp [Act.eval]) hown27 _ (ns1.length - m) (c1 - m) (strs (ns1.drop m)) (by simp [Act.eval]) (strs_drop ns1 m) (HNW.out _ (And.left (by assumption))) (fun u hu => strs_one hu) (by unfold maxLen; omega) (by omega) (Gr.size (And.left (by assumption))) ?_; intro v31 w31 hown31 hgr31; have G31 : Gr wA w31 := Below.grown (And.left (by assumption)) hgr31 (Gr.size (And.left (by assumption))) (fun z hz => (row_block hown27 hz).1); rw [show 0 + m + 1 + (ns1.length - m) = ns1.length + 1 by omega] at hown31; obtain ⟨g31, c31, e31⟩ := row_some hown31 (by omega); subst e31)
                    | (refine step_append_own rfl (.tmp 67) (.tmp 69) 90 rfl wA.heap.size 9 i0 _ 1 16 Tryz.underlying90 hi hz0 hz1 hz2 rfl (by decide) _ _ _ (by simp [Act.eval]) hown24 ⟨wA.heap.size + 1, 0, none⟩ 1 1 [.string s.s] (by simp [Act.eval]) rfl (blk_cells (vs := [.string s.s]) HB24.out) (by simp [Value.oneCell']) (by unfold maxLen; omega) (by omega) (Gr.size (And.left (by assumption))) ?_; intro v27 w27 hown27 hgr27; have G27 : Gr wA w27 := Below.grown (And.left (by assumption)) hgr27 (Gr.size (And.left (by assumption))) (fun z hz => (row_block hown24 hz).1); obtain ⟨a27, c27, e27⟩ := row_form hown27; subst e27)
                    | (refine step_append_own rfl (.tmp 67) (.tmp 69) 90 rfl wA.heap.size 9 i0 _ 1 16 Tryz.underlying90 hi hz0 hz1 hz2 rfl (by decide) _ _ _ (by simp [Act.eval]) hown24 ⟨wA.heap.size, 0, none⟩ 1 1 [.string s.s] (by simp [Act.eval]) rfl (blk_cells (vs := [.string s.s]) HB24.out) (by simp [Value.oneCell']) (by unfold maxLen; omega) (by omega) (Gr.size (And.left (by assumption))) ?_; intro v27 w27 hown27 hgr27; have G27 : Gr wA w27 := Below.grown (And.left (by assumption)) hgr27 (Gr.size (And.left (by assumption))) (fun z hz => (row_block hown24 hz).1); obtain ⟨a27, c27, e27⟩ := row_form hown27; subst e27)
                    | (refine step_append_own rfl (.tmp 67) (.tmp 69) 90 rfl wA.heap.size 9 i0 _ 1 16 Tryz.underlying90 hi hz0 hz1 hz2 rfl (by decide) _ _ _ (by simp [Act.eval]) (hown24.alloc _) ⟨w24.heap.size, 0, none⟩ 1 1 [.string s.s] (by simp [Act.eval]) rfl (news_cells w24 _ rfl [.string s.s] _) (by simp [Value.oneCell']) (by unfold maxLen; omega) (by omega) (Gr.size (And.left (by assumption))) ?_; intro v27 w27 hown27 hgr27; have G27 : Gr wA w27 := Below.grown (And.left (by assumption)) hgr27 (Gr.size (And.left (by assumption))) (fun z hz => (row_block hown24 hz).1); obtain ⟨a27, c27, e27⟩ := row_form hown27; subst e27))
                all_goals
                  have HF : Hid (w31.ownsRow w.heap.size 9 1 (.slice (some ⟨g31, 0, none⟩) (ns1.length + 1) c31) (ns1.length + 1) (strs (ns1.take m ++ s.s :: ns1.drop m))) := by
                    show World.ownsRow _ _ _ _ _ _ _
                    have h9 := own_lo hown31 hN
                    simpa [strs] using h9
                  have HG9 := hidE (HG0.out.trans G31)
                  have hl9 : (ns1.take m ++ s.s :: ns1.drop m).length = ns1.length + 1 := by simp; omega
                  have HF2 : Hid (w31.ownsRow w.heap.size 9 1 (.slice (some ⟨g31, 0, none⟩) (ns1.take m ++ s.s :: ns1.drop m).length c31) (ns1.take m ++ s.s :: ns1.drop m).length (strs (ns1.take m ++ s.s :: ns1.drop m))) := by
                    show World.ownsRow _ _ _ _ _ _ _
                    rw [hl9]
                    exact HF.out
                  have HV9 := hidE (congrArg (fun z => Value.slice (some ⟨g31, 0, none⟩) z c31) hl9.symm)
                  clear hown31 hl9
                  go_wp2
                  go_roundw
                  case rel => exact ⟨k + 1, c31, g31, ns1.take m ++ s.s :: ns1.drop m, by omega, by go_num, HV9.out, HF2, HNI, HG9.out⟩
                  case measure => simp [intOf]; omega
            · obtain ⟨hml, hT2⟩ := nmAt_true hB HT.out
              have HT2 := hidE hT2
              clear hT2 HT
              go_wp2
              go_roundw
              case rel => exact ⟨m + 1, by omega, by go_num, trivial, HT2⟩
              case measure => simp [intOf]; omega
        · have hkk : k = ss.length := by omega
          have hd : decide (k < ss.length) = false := by simpa using hkl
          have HN2 : Hid (NamesAre (ptsOf (idx.take (i + 1))) ns1) := by
            show NamesAre _ _
            rw [← HUP.out, ← hkk]
            exact HN.out
          clear hkk hkl HN
          go_wp2
          go_roundw
          case rel => exact ⟨i + 1, c1, q1, ns1, by omega, by go_num, rfl, HO, HN2, gr⟩
          case measure => simp [intOf]; omega
    · have hd : decide (i < cs.length) = false := by simpa using hil
      have HN2 : Hid (NamesAre (ptsOf idx) ns) := by
        show NamesAre _ _
        have e : idx.take i = idx := List.take_of_length_le (by omega)
        rw [← e]
        exact HN.out
      have HG9 := hidE (HG1.out.trans gr)
      clear hil HN
      go_wp2
      go_ret
      exact ⟨⟨_, ns, rfl, HO.out, HN2.out⟩, HG9.out⟩
end Go.Proofs.YtpdcgjkfilohcabGreat

namespace Go.Proofs.YtpdcgjkfilohcabGreat
open Go.RowKit Go.Sort Go.Maps
attribute [local go_sem ↓] Go.wp_at_zero Go.wp_at_succ
set_option linter.unusedSimpArgs false
set_option linter.unusedVariables false

/-! The first clash with a name. -/

/-- The five fields of a clash of two names. -/
def k3V (s t : ByteArray) (k : K3) : Array Value := #[.string s, .string t, .int .i64 k.1, .int .i64 k.2.1, .int .i64 k.2.2]
theorem l5Sooner_any (s t s' t' : ByteArray) (a b : K3) (w : World) : Calls Tryz.prog 95 #[.agg #[.string s, .string t, .int .i64 a.1, .int .i64 a.2.1, .int .i64 a.2.2], .agg #[.string s', .string t', .int .i64 b.1, .int .i64 b.2.1, .int .i64 b.2.2]] w fun e w' => e = .returned (.bool (k3Lt a b)) ∧ Gr w w' := by
  obtain ⟨a1, a2, a3⟩ := a
  obtain ⟨b1, b2, b3⟩ := b
  have HV : Hid (k3Lt (a1, a2, a3) (b1, b2, b3) = if a1 = b1 then (if a2 = b2 then decide (a3 < b3) else decide (a2 < b2)) else decide (a1 < b1)) := rfl
  generalize k3Lt (a1, a2, a3) (b1, b2, b3) = r at *
  dsimp only
  by_cases h1 : a1 = b1
  · have e1 : (a1 == b1) = true := by simp [h1]
    by_cases h2 : a2 = b2
    · have e2 : (a2 == b2) = true := by simp [h2]
      have HE : Hid (r = decide (a3 < b3)) := by have := HV.out; rw [if_pos h1, if_pos h2] at this; exact this
      clear HV h1 h2
      go_enter Tryz.func95, Tryz.ntmps95
      go_wp2
      go_ret
      exact ⟨by rw [HE.out]; rfl, ((Gr.refl _).alloc _).alloc _⟩
    · have e2 : (a2 == b2) = false := by simp [h2]
      have HE : Hid (r = decide (a2 < b2)) := by have := HV.out; rw [if_pos h1, if_neg h2] at this; exact this
      clear HV h1 h2
      go_enter Tryz.func95, Tryz.ntmps95
      go_wp2
      go_ret
      exact ⟨by rw [HE.out]; rfl, ((Gr.refl _).alloc _).alloc _⟩
  · have e1 : (a1 == b1) = false := by simp [h1]
    have HE : Hid (r = decide (a1 < b1)) := by have := HV.out; rw [if_neg h1] at this; exact this
    clear HV h1
    go_enter Tryz.func95, Tryz.ntmps95
    go_wp2
    go_ret
    exact ⟨by rw [HE.out]; rfl, ((Gr.refl _).alloc _).alloc _⟩

theorem l5Box_any (c : Int × Int) (v : Value) (s : Sl) (w : World) : Calls Tryz.prog 94 #[.agg #[.int .i64 c.1, .int .i64 c.2, v], .agg #[.int .i64 s.i, .int .i64 s.o, .int .i64 s.l, .int .i64 s.h, .string s.s, .int .i64 s.p]] w fun e w' => e = .returned (.agg #[.int .i64 (bxOf (c, s)).x, .int .i64 (bxOf (c, s)).y, .int .i64 (bxOf (c, s)).l, .int .i64 (bxOf (c, s)).h, .int .i64 (bxOf (c, s)).i, .int .i64 (bxOf (c, s)).o]) ∧ Gr w w' := by
  go_enter Tryz.func94, Tryz.ntmps94
  go_wp2
  refine bodyPost_ret (v := .agg #[.int .i64 c.1, .int .i64 c.2, .int .i64 s.l, .int .i64 s.h, .int .i64 s.i, .int .i64 s.o]) (by simp [results, Tryz.results94, go_sem]) rfl ⟨rfl, ?_⟩
  repeat (first | exact Gr.refl _ | refine Gr.alloc ?_ _ | refine Gr.setCell ?_ (by simp) _)

/-- The variable 'best' of the specification's l5First. -/
def BestK (p : Nat) (wr : World) (s t : ByteArray) : Option K3 → Prop
  | none => Five wr p (.string ⟨#[]⟩) (.string ⟨#[]⟩) (.int .i64 0) (.int .i64 0) (.int .i64 0) ∧ Free5 wr p ∧ p < wr.heap.size
  | some k => Five wr p (.string s) (.string t) (.int .i64 k.1) (.int .i64 k.2.1) (.int .i64 k.2.2) ∧ Free5 wr p ∧ p < wr.heap.size
theorem bestK_gr {p : Nat} {wr w' : World} {s t : ByteArray} {st : Option K3} (h : BestK p wr s t st) (gr : Gr wr w') : BestK p w' s t st := by
  cases st <;> exact ⟨five_gr h.1 gr h.2.2, free5_gr h.2.1 gr h.2.2, Nat.lt_of_lt_of_le h.2.2 gr.size⟩
theorem bestK_put {p : Nat} {wr : World} {s t : ByteArray} {st : Option K3} (h : BestK p wr s t st) (k : K3) : BestK p (put5 wr p (.string s) (.string t) (.int .i64 k.1) (.int .i64 k.2.1) (.int .i64 k.2.2)) s t (some k) := by
  cases st <;> exact ⟨five_put h.1 _ _ _ _ _, free5_put h.2.1 _ _ _ _ _ _, by rw [put5_size]; exact h.2.2⟩
theorem cands_snoc (bs : List Bx) (n : ByteArray) (P : List Pt) (p : Pt) : cands bs n (P ++ [p]) = cands bs n P ++ candTo bs n p bs.length := by simp [cands, List.flatMap_append]
theorem candTo_ne {bs : List Bx} {n : ByteArray} {p : Pt} (h : ¬ p.2.s = n) (m : Nat) : candTo bs n p m = [] := by unfold candTo; rw [if_neg h]
/-- What a clash does to the first so far. -/
def soonK (c : Bool) (k : K3) (st : Option K3) : Option K3 := if c then pick st k else st
theorem least_succ {bs : List Bx} {n : ByteArray} {p : Pt} (P : List K3) (m : Nat) (h : p.2.s = n) : least (P ++ candTo bs n p (m + 1)) = soonK (closeB (bs.getD m Bx.nil) (bxOf p)) (candAt bs p m) (least (P ++ candTo bs n p m)) := by
  rw [candTo_succ m h]
  unfold soonK
  cases closeB (bs.getD m Bx.nil) (bxOf p)
  · simp
  · rw [if_pos rfl, if_pos rfl, ← List.append_assoc, least_snoc]
/-- Whether a clash is taken. -/
def takesK (c : Bool) (k : K3) (st : Option K3) : Bool := c && (match st with | none => true | some b => k3Lt k b)
theorem soonK_takes {c : Bool} {k : K3} {st : Option K3} (h : takesK c k st = true) : soonK c k st = some k := by
  unfold takesK at h
  unfold soonK
  cases c
  · simp at h
  · cases st with
    | none => rfl
    | some b =>
      have h' : k3Lt k b = true := by simpa using h
      simp [pick, h']
theorem soonK_leaves {c : Bool} {k : K3} {st : Option K3} (h : takesK c k st = false) : soonK c k st = st := by
  unfold takesK at h
  unfold soonK
  cases c
  · rfl
  · cases st with
    | none => simp at h
    | some b =>
      have h' : k3Lt k b = false := by simpa using h
      simp [pick, h']
end Go.Proofs.YtpdcgjkfilohcabGreat
