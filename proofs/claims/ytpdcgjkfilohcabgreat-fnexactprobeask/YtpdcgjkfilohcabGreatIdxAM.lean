import Derived.Test.YtpdcgjkfilohcabGreatLawSky
import Derived.Sort.Walk0
import Derived.Maps.AppendAt
import Derived.Laws.OwnMore
import Derived.Deep.CutRange
import Derived.Deep.RegionLaw
import Derived.Shelf.GgSortFunc.InsertionK
import Derived.Maps.OwnSet
import Derived.Maps.RangeWalk
import Derived.WideKeyEntry
namespace Go.Proofs.YtpdcgjkfilohcabGreat
open Go.RowKit
set_option linter.unusedSimpArgs false
set_option linter.unusedVariables false

/-! The index, as lists: what it is, and that there is but one. -/

/-- A slot of a cell. -/
structure Sl where
  i : Int
  o : Int
  l : Int
  h : Int
  s : ByteArray
  p : Int
def Sl.nil : Sl := ⟨0, 0, 0, 0, ⟨#[]⟩, 0⟩
abbrev Pt := (Int × Int) × Sl
abbrev Cl := (Int × Int) × List Sl
def Cl.nil : Cl := ((0, 0), [])
/-- Which of two slots comes first. -/
def slLt (a b : Sl) : Bool := if a.i = b.i then (if a.s.toList = b.s.toList then decide (a.p < b.p) else Op.bytesLess a.s.toList b.s.toList) else decide (a.i < b.i)
def keyLt (a b : Int × Int) : Bool := if a.1 = b.1 then decide (a.2 < b.2) else decide (a.1 < b.1)
/-- Two slots are not of the same place. -/
def Differ (a b : Sl) : Prop := a.s.toList ≠ b.s.toList ∨ a.p ≠ b.p
def slotsAt (k : Int × Int) (all : List Pt) : List Sl := (all.filter fun p => p.1 == k).map (·.2)
/-- The slots of tubes, one behind the other. -/
def slotOf (s : ByteArray) (k : Nat) (b : Bx) : Pt := ((b.x, b.y), ⟨b.i, b.o, b.l, b.h, s, k⟩)
def placedTo (t : Tb) (n : Nat) : List Pt := (List.range n).map fun k => slotOf t.s k (t.bs.getD k Bx.nil)
def placedT (t : Tb) : List Pt := placedTo t t.bs.length
def placed (ts : List Tb) : List Pt := ts.flatMap placedT

theorem bl_irrefl (l : List UInt8) : Op.bytesLess l l = false := by
  rw [bytesLess_eq]
  simp [List.lt_irrefl]
theorem bl_trans {a b c : List UInt8} (h : Op.bytesLess a b = true) (h' : Op.bytesLess b c = true) : Op.bytesLess a c = true := by
  rw [bytesLess_eq, decide_eq_true_eq] at *
  exact List.lt_trans h h'
theorem bl_total {a b : List UInt8} (h : a ≠ b) (h' : Op.bytesLess a b = false) : Op.bytesLess b a = true := by
  rw [bytesLess_eq] at *
  simp only [decide_eq_false_iff_not, decide_eq_true_eq] at *
  by_cases hba : b < a
  · exact hba
  · exact absurd (List.le_antisymm (List.not_lt.1 hba) (List.not_lt.1 h')) h
theorem slLt_irrefl (a : Sl) : slLt a a = false := by simp [slLt]
theorem slLt_trans {a b c : Sl} (h : slLt a b = true) (h' : slLt b c = true) : slLt a c = true := by
  unfold slLt at *
  by_cases e1 : a.i = b.i
  · by_cases e2 : b.i = c.i
    · rw [if_pos e1] at h
      rw [if_pos e2] at h'
      rw [if_pos (e1.trans e2)]
      by_cases s1 : a.s.toList = b.s.toList
      · rw [if_pos s1] at h
        by_cases s2 : b.s.toList = c.s.toList
        · rw [if_pos s2] at h'
          rw [if_pos (s1.trans s2)]
          simp at *
          omega
        · rw [if_neg s2] at h'
          rw [s1, if_neg s2]
          exact h'
      · rw [if_neg s1] at h
        by_cases s2 : b.s.toList = c.s.toList
        · rw [if_neg (fun e => s1 (e.trans s2.symm)), ← s2]
          exact h
        · rw [if_neg s2] at h'
          have ht := bl_trans h h'
          by_cases s3 : a.s.toList = c.s.toList
          · rw [s3, bl_irrefl] at ht
            cases ht
          · rw [if_neg s3]
            exact ht
    · rw [if_neg e2] at h'
      rw [if_neg (fun e => e2 (e1 ▸ e))]
      simp at *
      omega
  · rw [if_neg e1] at h
    by_cases e2 : b.i = c.i
    · rw [if_neg (fun e => e1 (e.trans e2.symm))]
      simp at *
      omega
    · rw [if_neg e2] at h'
      rw [if_neg (by simp at *; omega)]
      simp at *
      omega
theorem slLt_total {a b : Sl} (h : Differ a b) (h' : slLt a b = false) : slLt b a = true := by
  unfold slLt at *
  by_cases e1 : a.i = b.i
  · rw [if_pos e1] at h'
    rw [if_pos e1.symm]
    by_cases s1 : a.s.toList = b.s.toList
    · rw [if_pos s1] at h'
      rw [if_pos s1.symm]
      have hp : a.p ≠ b.p := h.resolve_left (fun hn => hn s1)
      simp at *
      omega
    · rw [if_neg s1] at h'
      rw [if_neg (fun e => s1 e.symm)]
      exact bl_total s1 h'
  · rw [if_neg e1] at h'
    rw [if_neg (fun e => e1 e.symm)]
    simp at *
    omega
theorem keyLt_irrefl (a : Int × Int) : keyLt a a = false := by simp [keyLt]
theorem keyLt_trans {a b c : Int × Int} (h : keyLt a b = true) (h' : keyLt b c = true) : keyLt a c = true := by
  unfold keyLt at *
  split at h <;> split at h' <;> split <;> simp at * <;> omega
theorem keyLt_total {a b : Int × Int} (h : a ≠ b) (h' : keyLt a b = false) : keyLt b a = true := by
  obtain ⟨a1, a2⟩ := a
  obtain ⟨b1, b2⟩ := b
  unfold keyLt at *
  split at h' <;> split <;> simp at * <;> omega

/-- Sorted lists of the same elements are one. -/
theorem sorted_one {α : Type} {r : α → α → Bool} (irr : ∀ a, r a a = false) (tr : ∀ {a b c}, r a b = true → r b c = true → r a c = true) {l l' : List α} (h : l.Perm l') (s : l.Pairwise fun a b => r a b = true) (s' : l'.Pairwise fun a b => r a b = true) : l = l' := by
  refine List.Perm.eq_of_pairwise (fun a b _ _ h1 h2 => ?_) s s' h
  have := tr h1 h2
  rw [irr] at this
  cases this

/-- The index of slots. -/
structure IsIdx (all : List Pt) (idx : List Cl) : Prop where
  asc : idx.Pairwise fun a b => keyLt a.1 b.1 = true
  slots : ∀ c ∈ idx, c.2 ≠ [] ∧ (c.2.Pairwise fun a b => slLt a b = true) ∧ c.2.Perm (slotsAt c.1 all)
  all : ∀ p ∈ all, ∃ c ∈ idx, c.1 = p.1

theorem mem_slotsAt {k : Int × Int} {all : List Pt} {s : Sl} : s ∈ slotsAt k all ↔ (k, s) ∈ all := by
  unfold slotsAt
  rw [List.mem_map]
  constructor
  · rintro ⟨q, hq, rfl⟩
    obtain ⟨h, e⟩ := List.mem_filter.1 hq
    rw [beq_iff_eq] at e
    rw [← e]
    exact h
  · intro h
    exact ⟨(k, s), List.mem_filter.2 ⟨h, by simp⟩, rfl⟩
theorem idx_sub {all : List Pt} {a b : List Cl} (ha : IsIdx all a) (hb : IsIdx all b) {c : Cl} (hc : c ∈ a) : c ∈ b := by
  obtain ⟨hn, hs, hp⟩ := ha.slots c hc
  obtain ⟨s, l, e⟩ : ∃ s l, c.2 = s :: l := by
    cases h : c.2 with
    | nil => exact absurd h hn
    | cons s l => exact ⟨s, l, rfl⟩
  have hm : (c.1, s) ∈ all := mem_slotsAt.1 (hp.mem_iff.1 (by rw [e]; exact List.mem_cons_self))
  obtain ⟨d, hd, he⟩ := hb.all _ hm
  obtain ⟨_, hs', hp'⟩ := hb.slots d hd
  rw [he] at hp'
  have e2 : c.2 = d.2 := sorted_one slLt_irrefl slLt_trans (hp.trans hp'.symm) hs hs'
  have e3 : c = d := Prod.ext he.symm e2
  rw [e3]
  exact hd
theorem asc_nodup {a : List Cl} (h : a.Pairwise fun a b => keyLt a.1 b.1 = true) : a.Nodup := by
  refine h.imp ?_
  rintro x y hxy rfl
  rw [keyLt_irrefl] at hxy
  cases hxy
/-- There is but one. -/
theorem idx_one {all : List Pt} {a b : List Cl} (ha : IsIdx all a) (hb : IsIdx all b) : a = b := by
  refine sorted_one (r := fun x y : Cl => keyLt x.1 y.1) (fun x => keyLt_irrefl _) (fun h h' => keyLt_trans h h') ?_ ha.asc hb.asc
  exact (List.perm_ext_iff_of_nodup (asc_nodup ha.asc) (asc_nodup hb.asc)).2 (fun c => ⟨idx_sub ha hb, idx_sub hb ha⟩)

/-- How far a list goes on holding. -/
def ahead {α : Type} (f : α → Bool) (l : List α) (k : Nat) : Prop := k ≤ l.length ∧ (∀ x ∈ l.take k, f x = true) ∧ (∀ x, l[k]? = some x → f x = false)
theorem drop_cons {α : Type} {l : List α} {k : Nat} {x : α} (h : l[k]? = some x) : l.drop k = x :: l.drop (k + 1) := by
  obtain ⟨hk, rfl⟩ := List.getElem?_eq_some_iff.1 h
  exact List.drop_eq_getElem_cons hk
/-- A slot put into sorted ones. -/
theorem ins_sorted {α : Type} {r : α → α → Bool} (tr : ∀ {a b c}, r a b = true → r b c = true → r a c = true) {l : List α} {k : Nat} {s : α} (hs : l.Pairwise fun a b => r a b = true) (hk : ahead (fun a => r a s) l k) (ht : ∀ a ∈ l, r a s = false → r s a = true) :
    (l.take k ++ s :: l.drop k).Pairwise fun a b => r a b = true := by
  have hs' : (l.take k ++ l.drop k).Pairwise fun a b => r a b = true := by rw [List.take_append_drop]; exact hs
  obtain ⟨h1, h2, h3⟩ := List.pairwise_append.1 hs'
  have hd : ∀ a ∈ l.drop k, r s a = true := by
    cases e : l[k]? with
    | none =>
      rw [List.drop_of_length_le (List.getElem?_eq_none_iff.1 e)]
      intro a ha
      cases ha
    | some x =>
      have hx : r s x = true := ht x (List.mem_of_getElem? e) (hk.2.2 x e)
      intro a ha
      rw [drop_cons e] at ha h2
      rcases List.mem_cons.1 ha with rfl | ha
      · exact hx
      · exact tr hx ((List.pairwise_cons.1 h2).1 a ha)
  refine List.pairwise_append.2 ⟨h1, List.pairwise_cons.2 ⟨hd, h2⟩, fun a ha b hb => ?_⟩
  rcases List.mem_cons.1 hb with rfl | hb
  · exact hk.2.1 a ha
  · exact h3 a ha b hb
theorem ins_perm {α : Type} (l : List α) (k : Nat) (s : α) : (l.take k ++ s :: l.drop k).Perm (l ++ [s]) := by
  have h1 : (l.take k ++ s :: l.drop k).Perm (s :: (l.take k ++ l.drop k)) := List.perm_middle
  rw [List.take_append_drop] at h1
  exact h1.trans (List.perm_append_singleton s l).symm

theorem slotsAt_snoc (k : Int × Int) (all : List Pt) (p : Pt) : slotsAt k (all ++ [p]) = slotsAt k all ++ (if p.1 = k then [p.2] else []) := by
  unfold slotsAt
  rw [List.filter_append, List.map_append]
  congr 1
  by_cases h : p.1 = k <;> simp [h]

/-- A slot more, in a cell that is there. -/
theorem idx_in {all : List Pt} {idx : List Cl} (h : IsIdx all idx) {p : Pt} {k j : Nat} {c : Cl} (hc : idx[k]? = some c) (he : c.1 = p.1) (hj : ahead (fun a => slLt a p.2) c.2 j) (hf : ∀ q ∈ all, Differ q.2 p.2) :
    IsIdx (all ++ [p]) (idx.set k (c.1, c.2.take j ++ p.2 :: c.2.drop j)) := by
  obtain ⟨hk, ek⟩ := List.getElem?_eq_some_iff.1 hc
  have hcm : c ∈ idx := List.mem_of_getElem? hc
  have hmem : ∀ d ∈ idx.set k (c.1, c.2.take j ++ p.2 :: c.2.drop j), d = (c.1, c.2.take j ++ p.2 :: c.2.drop j) ∨ (d ∈ idx ∧ d.1 ≠ p.1) := by
    intro d hd
    obtain ⟨i, hi, rfl⟩ := List.getElem_of_mem hd
    rw [List.getElem_set]
    split
    · exact Or.inl rfl
    · rename_i hne
      have hil : i < idx.length := by simpa using hi
      refine Or.inr ⟨List.getElem_mem hil, fun e => ?_⟩
      have hp := List.pairwise_iff_getElem.1 h.asc
      have e2 : idx[i].1 = idx[k].1 := by rw [e, ek, he]
      rcases Nat.lt_or_gt_of_ne hne with hlt | hgt
      · have := hp k i hk hil hlt
        rw [e2, keyLt_irrefl] at this
        cases this
      · have := hp i k hil hk hgt
        rw [e2, keyLt_irrefl] at this
        cases this
  refine ⟨?_, ?_, ?_⟩
  · have e1 : (idx.set k (c.1, c.2.take j ++ p.2 :: c.2.drop j)).map (·.1) = idx.map (·.1) := by
      rw [List.map_set]
      have : (idx.map (·.1))[k]? = some c.1 := by simp [hc]
      apply List.ext_getElem?
      intro i
      rw [List.getElem?_set]
      split
      · rename_i e; subst e; simp [hk, ek]
      · rfl
    have h1 : (idx.map (·.1)).Pairwise fun a b => keyLt a b = true := List.pairwise_map.2 h.asc
    rw [← e1] at h1
    exact List.pairwise_map.1 h1
  · intro d hd
    rcases hmem d hd with rfl | ⟨hd, hne⟩
    · obtain ⟨hn, hs, hp⟩ := h.slots c hcm
      refine ⟨by simp, ins_sorted (r := slLt) slLt_trans hs hj (fun a ha h' => slLt_total ?_ h'), ?_⟩
      · exact hf (c.1, a) (mem_slotsAt.1 (hp.mem_iff.1 ha))
      · rw [slotsAt_snoc, if_pos he.symm]
        exact (ins_perm _ _ _).trans (hp.append_right _)
    · obtain ⟨hn, hs, hp⟩ := h.slots d hd
      refine ⟨hn, hs, ?_⟩
      rw [slotsAt_snoc, if_neg (fun e => hne e.symm), List.append_nil]
      exact hp
  · intro q hq
    rcases List.mem_append.1 hq with hq | hq
    · obtain ⟨d, hd, e⟩ := h.all q hq
      by_cases e2 : d.1 = p.1
      · exact ⟨_, List.mem_of_getElem? (i := k) (by rw [List.getElem?_set_self hk]), by rw [← e, e2, he]⟩
      · obtain ⟨i, hi, rfl⟩ := List.getElem_of_mem hd
        have hne : k ≠ i := fun e3 => by subst e3; rw [ek] at e2; exact e2 he
        exact ⟨idx[i], List.mem_of_getElem? (i := i) (by rw [List.getElem?_set_ne hne]; exact List.getElem?_eq_getElem hi), e⟩
    · rw [List.mem_singleton] at hq
      subst hq
      exact ⟨(c.1, c.2.take j ++ q.2 :: c.2.drop j), List.mem_of_getElem? (i := k) (by rw [List.getElem?_set_self hk]), he⟩
/-- A slot more, in a new cell. -/
theorem idx_new {all : List Pt} {idx : List Cl} (h : IsIdx all idx) {p : Pt} {k : Nat} (hk : ahead (fun a : Cl => keyLt a.1 p.1) idx k) (hn : ∀ c, idx[k]? = some c → c.1 ≠ p.1) :
    IsIdx (all ++ [p]) (idx.take k ++ (p.1, [p.2]) :: idx.drop k) := by
  have hnot : ∀ c ∈ idx, c.1 ≠ p.1 := by
    have hs' : (idx.take k ++ idx.drop k).Pairwise fun a b => keyLt a.1 b.1 = true := by rw [List.take_append_drop]; exact h.asc
    obtain ⟨h1, h2, h3⟩ := List.pairwise_append.1 hs'
    intro c hc e
    rw [← List.take_append_drop k idx] at hc
    rcases List.mem_append.1 hc with hc | hc
    · have h6 : keyLt c.1 p.1 = true := hk.2.1 c hc
      rw [e, keyLt_irrefl] at h6
      cases h6
    · cases e2 : idx[k]? with
      | none =>
        rw [List.drop_of_length_le (List.getElem?_eq_none_iff.1 e2)] at hc
        cases hc
      | some x =>
        rw [drop_cons e2] at hc h2
        rcases List.mem_cons.1 hc with rfl | hc
        · exact hn _ e2 e
        · have h4 := (List.pairwise_cons.1 h2).1 c hc
          have h5 : keyLt x.1 p.1 = false := hk.2.2 x e2
          rw [e] at h4
          rw [h4] at h5
          cases h5
  have hnone : slotsAt p.1 all = [] := by
    cases e : slotsAt p.1 all with
    | nil => rfl
    | cons s l =>
      obtain ⟨c, hc, e2⟩ := h.all _ (mem_slotsAt.1 (by rw [e]; exact List.mem_cons_self))
      exact absurd e2 (hnot c hc)
  have hmem : ∀ d, d ∈ idx.take k ++ (p.1, [p.2]) :: idx.drop k ↔ d = (p.1, [p.2]) ∨ d ∈ idx := by
    intro d
    rw [(ins_perm idx k (p.1, [p.2])).mem_iff]
    simp [or_comm]
  refine ⟨?_, ?_, ?_⟩
  · exact ins_sorted (r := fun a b : Cl => keyLt a.1 b.1) (fun h h' => keyLt_trans h h') h.asc hk (fun a ha h' => keyLt_total (hnot a ha) h')
  · intro d hd
    rcases (hmem d).1 hd with rfl | hd
    · refine ⟨by simp, by simp, ?_⟩
      rw [slotsAt_snoc, if_pos rfl, hnone]
      exact List.Perm.refl _
    · obtain ⟨hn, hs, hp⟩ := h.slots d hd
      refine ⟨hn, hs, ?_⟩
      rw [slotsAt_snoc, if_neg (fun e => hnot d hd e.symm), List.append_nil]
      exact hp
  · intro q hq
    rcases List.mem_append.1 hq with hq | hq
    · obtain ⟨d, hd, e⟩ := h.all q hq
      exact ⟨d, (hmem d).2 (Or.inr hd), e⟩
    · rw [List.mem_singleton] at hq
      subst hq
      exact ⟨_, (hmem _).2 (Or.inl rfl), rfl⟩
theorem idx_nil : IsIdx [] [] := ⟨List.Pairwise.nil, fun c hc => absurd hc (by simp), fun p hp => absurd hp (by simp)⟩
end Go.Proofs.YtpdcgjkfilohcabGreat

namespace Go.Proofs.YtpdcgjkfilohcabGreat
open Go.RowKit Go.Sort
set_option linter.unusedSimpArgs false
set_option linter.unusedVariables false

/-! A row that the call owns, sorted in its place. -/

theorem flat_list {α : Type} [Inhabited α] (enc : α → List Value) (k : Nat) (hk : ∀ x, (enc x).length = k) (d : Array α) : (flatK enc k d).toList = d.toList.flatMap enc := by
  have len : (d.toList.flatMap enc).length = d.size * k := by
    rw [List.length_flatMap, List.map_congr_left (fun x _ => hk x)]
    simp [List.map_const']
  have at_ : ∀ (l : List α) (t : Nat), t < l.length * k → (l.flatMap enc)[t]? = (enc (l.getD (t / k) default))[t % k]? := by
    intro l
    induction l with
    | nil => intro t ht; simp at ht
    | cons x l ih =>
      intro t ht
      have k0 : 0 < k := by
        rcases Nat.eq_zero_or_pos k with h | h
        · subst h; simp at ht
        · exact h
      rw [List.flatMap_cons]
      by_cases h : t < k
      · rw [List.getElem?_append_left (by rw [hk]; exact h), Nat.div_eq_of_lt h, Nat.mod_eq_of_lt h]
        rfl
      · rw [List.getElem?_append_right (by rw [hk]; omega), hk, ih (t - k) (by rw [List.length_cons, Nat.add_mul] at ht; omega)]
        have e1 : t / k = (t - k) / k + 1 := by rw [Nat.div_eq_sub_div k0 (by omega)]
        have e2 : (t - k) % k = t % k := (Nat.mod_eq_sub_mod (by omega)).symm
        rw [e1, e2]
        rfl
  apply List.ext_getElem?
  intro t
  by_cases h : t < d.size * k
  · rw [at_ d.toList t (by simpa using h)]
    have hm : t % k < k := by
      rcases Nat.eq_zero_or_pos k with h0 | h0
      · subst h0; simp at h
      · exact Nat.mod_lt _ h0
    have hq : t / k < d.size := Nat.div_lt_of_lt_mul (by rw [Nat.mul_comm]; exact h)
    have e0 : (flatK enc k d).toList[t]? = some (enc d[t / k]!)[t % k]! := by
      unfold flatK
      simp [h]
    rw [e0]
    have e3 : d.toList.getD (t / k) default = d[t / k]! := by
      rw [getElem!_pos d (t / k) hq]
      simp [List.getD, hq]
    rw [e3, List.getElem?_eq_getElem (by rw [hk]; exact hm), getElem!_pos (enc d[t / k]!) (t % k) (by rw [hk]; exact hm)]
  · rw [List.getElem?_eq_none (by simp; omega), List.getElem?_eq_none (by rw [len]; omega)]

theorem owns_holds {α : Type} [Inhabited α] {enc : α → List Value} {k : Nat} (hk : ∀ x, (enc x).length = k) {w : World} {base : Nat} {e : TypeId} {g cap : Nat} {d : Array α} (h : w.ownsRow base e k (.slice (some ⟨g, 0, none⟩) d.size cap) d.size (d.toList.flatMap enc)) : HoldsK enc k w g 0 d := by
  intro j hj
  have hj' : j < d.size * k := by simpa using hj
  rw [Nat.zero_add]
  refine ⟨?_, h.frozenAt j⟩
  rw [h.cellAt j hj', ← flat_list enc k hk d]
  have : j < (flatK enc k d).size := hj
  rw [getElem!_pos _ j this]
  simp [this]

theorem put_front (cur news : Array Value) (h : news.size ≤ cur.size) : (putCells id 0 news cur).size = cur.size ∧ (putCells id 0 news cur).toList.take news.size = news.toList := by
  constructor
  · simp [putCells]
  · apply List.ext_getElem?
    intro j
    by_cases hj : j < news.size
    · rw [List.getElem?_take_of_lt hj]
      have hc : j < cur.size := by omega
      simp [putCells, hj, hc]
    · rw [List.getElem?_eq_none (by simp; omega), List.getElem?_eq_none (by simp; omega)]

theorem owns_sorted {α : Type} [Inhabited α] {enc : α → List Value} {k : Nat} (hk : ∀ x, (enc x).length = k) {w : World} {base : Nat} {e : TypeId} {g n cap : Nat} {xs : List Value} (h : w.ownsRow base e k (.slice (some ⟨g, 0, none⟩) n cap) n xs) (d : Array α) (hd : d.size = n) (m : Nat) (os : Array Obj) :
    (sortWorldK enc k w g 0 m d os).ownsRow base e k (.slice (some ⟨g, 0, none⟩) n cap) n (d.toList.flatMap enc) ∧ w.grownBy (sortWorldK enc k w g 0 m d os) (some g) := by
  have hfl := flat_list enc k hk d
  rcases h.2 with ⟨h', _⟩ | ⟨g', cap', cur, h', hb, hg, hn, hc, hs, _⟩
  · simp at h'
  · simp only [Value.slice.injEq, Option.some.injEq, Addr.mk.injEq, and_true, true_and] at h'
    obtain ⟨rfl, rfl⟩ := h'
    have hlt : g < w.heap.size := (Array.getElem?_eq_some_iff.1 hg).1
    have hsz : (flatK enc k d).size ≤ cur.size := by
      rw [size_flatK, hs, hd]
      exact Nat.mul_le_mul_right _ hn
    obtain ⟨p1, p2⟩ := put_front cur (flatK enc k d) hsz
    have heap : ∀ i, i < w.heap.size → (sortWorldK enc k w g 0 m d os).heap[i]? = if g = i then some (.cells (putCells id 0 (flatK enc k d) cur) e (0, 0)) else w.heap[i]? := by
      intro i hi
      unfold sortWorldK grow putRowK putRow mapBlock
      show ((w.heap.modify g _) ++ os)[i]? = _
      rw [Array.getElem?_append_left (by simpa using hi), Array.getElem?_modify]
      split
      · rename_i e1; subst e1; rw [hg]; rfl
      · rfl
    refine ⟨⟨?_, .inr ⟨g, cap, putCells id 0 (flatK enc k d) cur, rfl, hb, ?_, hn, hc, by rw [p1, hs], ?_⟩⟩, ⟨rfl, rfl, rfl, ?_, ?_⟩⟩
    · rw [← hfl]; simp [hd]
    · rw [heap g hlt, if_pos rfl]
    · rw [size_flatK, hd] at p2
      rw [p2, hfl]
    · unfold sortWorldK grow putRowK putRow mapBlock
      show _ ≤ ((w.heap.modify g _) ++ os).size
      simp
    · intro i hi hne
      rw [heap i hi, if_neg (fun e1 => hne (by rw [e1]))]
end Go.Proofs.YtpdcgjkfilohcabGreat

namespace Go.Proofs.YtpdcgjkfilohcabGreat
open Go.RowKit Go.Sort
set_option linter.unusedSimpArgs false
set_option linter.unusedVariables false

theorem placedTo_succ (t : Tb) (k : Nat) : placedTo t (k + 1) = placedTo t k ++ [slotOf t.s k (t.bs.getD k Bx.nil)] := by
  unfold placedTo
  rw [List.range_succ, List.map_append]
  rfl
theorem placed_take {ts : List Tb} {i : Nat} (h : i < ts.length) : placed (ts.take (i + 1)) = placed (ts.take i) ++ placedT (ts.getD i Tb.nil) := by
  unfold placed
  rw [List.take_add_one, List.flatMap_append, List.getD_eq_getElem?_getD, List.getElem?_eq_getElem h]
  simp
theorem placedTo_len (t : Tb) (k : Nat) : (placedTo t k).length = k := by simp [placedTo]
theorem placed_len {ts : List Tb} (h : ∀ t ∈ ts, t.bs.length ≤ 40) : (placed ts).length ≤ ts.length * 40 := by
  induction ts with
  | nil => simp [placed]
  | cons t ts ih =>
    have h1 := ih (fun u hu => h u (List.mem_cons_of_mem _ hu))
    have h2 := h t List.mem_cons_self
    unfold placed at *
    rw [List.flatMap_cons, List.length_append, List.length_cons]
    have : (placedT t).length = t.bs.length := placedTo_len _ _
    omega
theorem mem_placedTo {t : Tb} {k : Nat} {p : Pt} (h : p ∈ placedTo t k) : ∃ j, j < k ∧ p = slotOf t.s j (t.bs.getD j Bx.nil) := by
  obtain ⟨j, hj, rfl⟩ := List.mem_map.1 h
  exact ⟨j, List.mem_range.1 hj, rfl⟩
theorem asc_names {ts : List Tb} (h : ascTo ts ts.length = true) : ∀ (d i : Nat), i + d + 1 < ts.length → Op.bytesLess (nm ts i).toList (nm ts (i + d + 1)).toList = true := by
  have one : ∀ k, k + 1 < ts.length → Op.bytesLess (nm ts k).toList (nm ts (k + 1)).toList = true := fun k hk => by
    rw [ascTo, List.all_eq_true] at h
    have := h (k + 1) (List.mem_range.2 hk)
    simpa [lessAt] using this
  intro d
  induction d with
  | zero => intro i hi; exact one i hi
  | succ d ih => intro i hi; exact bl_trans (ih i (by omega)) (one (i + d + 1) hi)
theorem asc_ne {ts : List Tb} (h : ascTo ts ts.length = true) {i j : Nat} (hij : i < j) (hj : j < ts.length) : (nm ts i).toList ≠ (nm ts j).toList := by
  intro e
  have := asc_names h (j - i - 1) i (by omega)
  rw [show i + (j - i - 1) + 1 = j by omega, e, bl_irrefl] at this
  cases this
/-- No two slots of tubes that are ok together are of the same place. -/
theorem placed_new {ts : List Tb} (h : ascTo ts ts.length = true) {i : Nat} (hi : i < ts.length) (k : Nat) (b : Bx) : ∀ q ∈ placed (ts.take i) ++ placedTo (ts.getD i Tb.nil) k, Differ q.2 (slotOf (ts.getD i Tb.nil).s k b).2 := by
  intro q hq
  rcases List.mem_append.1 hq with hq | hq
  · unfold placed at hq
    obtain ⟨t, ht, hq⟩ := List.mem_flatMap.1 hq
    obtain ⟨j, hj, rfl⟩ := List.getElem_of_mem ht
    obtain ⟨n, hn, rfl⟩ := mem_placedTo hq
    have hj' : j < i := by have := hj; rw [List.length_take] at this; omega
    refine Or.inl ?_
    have := asc_ne h hj' hi
    have e : (ts.take i)[j] = ts.getD j Tb.nil := by
      rw [List.getElem_take, List.getD_eq_getElem?_getD, List.getElem?_eq_getElem (by omega)]
      rfl
    rw [e]
    exact this
  · obtain ⟨n, hn, rfl⟩ := mem_placedTo hq
    refine Or.inr ?_
    show (n : Int) ≠ (k : Int)
    omega

theorem slLt_ntrans {x y z : Sl} (h : slLt x y = false) (h' : slLt y z = false) : slLt x z = false := by
  cases hz : slLt x z
  · rfl
  · exfalso
    have nb : ∀ {a b c : List UInt8}, Op.bytesLess a c = true → Op.bytesLess a b = false → Op.bytesLess b c = false → False := by
      intro a b c h1 h2 h3
      by_cases e : a = b
      · subst e; rw [h1] at h3; cases h3
      · have := bl_trans (bl_total e h2) h1
        rw [this] at h3
        cases h3
    unfold slLt at *
    by_cases e1 : x.i = y.i
    · by_cases e2 : y.i = z.i
      · rw [if_pos e1] at h
        rw [if_pos e2] at h'
        rw [if_pos (e1.trans e2)] at hz
        by_cases s1 : x.s.toList = y.s.toList
        · by_cases s2 : y.s.toList = z.s.toList
          · rw [if_pos s1] at h
            rw [if_pos s2] at h'
            rw [if_pos (s1.trans s2)] at hz
            simp at *
            omega
          · rw [if_neg s2] at h'
            rw [s1, if_neg s2] at hz
            rw [h'] at hz
            cases hz
        · rw [if_neg s1] at h
          by_cases s2 : y.s.toList = z.s.toList
          · rw [← s2, if_neg s1, h] at hz
            cases hz
          · rw [if_neg s2] at h'
            by_cases s3 : x.s.toList = z.s.toList
            · have := bl_total s1 h
              rw [s3] at this
              rw [this] at h'
              cases h'
            · rw [if_neg s3] at hz
              exact nb hz h h'
      · rw [if_neg e2] at h'
        rw [if_neg (fun e => e2 (e1 ▸ e))] at hz
        simp at *
        omega
    · rw [if_neg e1] at h
      by_cases e2 : y.i = z.i
      · rw [if_neg (fun e => e1 (e.trans e2.symm))] at hz
        simp at *
        omega
      · rw [if_neg e2] at h'
        split at hz <;> simp at * <;> omega
theorem keyLt_ntrans {a b c : Int × Int} (h : keyLt a b = false) (h' : keyLt b c = false) : keyLt a c = false := by
  unfold keyLt at *
  split at h <;> split at h' <;> split <;> simp at * <;> omega
theorem swoSl : SWO slLt := ⟨slLt_irrefl, fun _ _ _ h h' => slLt_trans h h', fun _ _ _ h h' => slLt_ntrans h h'⟩
theorem swoKey : SWO keyLt := ⟨keyLt_irrefl, fun _ _ _ h h' => keyLt_trans h h', fun _ _ _ h h' => keyLt_ntrans h h'⟩

theorem permIn_list {α : Type} [Inhabited α] {d d' : Array α} (h : PermIn 0 d.size d d') : d'.toList.Perm d.toList ∧ d'.size = d.size := by
  obtain ⟨h1, _, h3⟩ := h
  rw [← h1, Array.extract_size, h1, Array.extract_size] at h3
  exact ⟨h3, h1⟩
/-- Sorted, and no two alike: strictly sorted. -/
theorem sortedIn_strict {α : Type} [Inhabited α] {r : α → α → Bool} {D : α → α → Prop} (hD : ∀ {a b}, D a b → D b a) (tot : ∀ {a b}, D a b → r a b = false → r b a = true) {d : Array α} (h : SortedIn r 0 d.size d) (hp : d.toList.Pairwise D) : d.toList.Pairwise fun a b => r a b = true := by
  rw [List.pairwise_iff_getElem] at *
  intro i j hi hj hij
  have hi' : i < d.size := by simpa using hi
  have hj' : j < d.size := by simpa using hj
  have h1 := h i j (Nat.zero_le _) hij hj'
  rw [getElem!_pos d i hi', getElem!_pos d j hj'] at h1
  exact tot (hD (hp i j hi hj hij)) h1
theorem differ_symm {a b : Sl} (h : Differ a b) : Differ b a := h.imp (fun h e => h e.symm) (fun h e => h e.symm)
/-- The slots of one cell are of different places. -/
theorem slotsAt_apart {all : List Pt} (h : all.Pairwise fun p q => Differ p.2 q.2) (k : Int × Int) : (slotsAt k all).Pairwise Differ := by
  unfold slotsAt
  exact List.pairwise_map.2 (h.filter _)
/-- What is laid out cell by cell is the index. -/
theorem idx_of {all : List Pt} {ks : List (Int × Int)} {S : Int × Int → List Sl} (hk : ks.Pairwise fun a b => keyLt a b = true) (hm : ∀ k, k ∈ ks ↔ slotsAt k all ≠ []) (hS : ∀ k ∈ ks, ((S k).Pairwise fun a b => slLt a b = true) ∧ (S k).Perm (slotsAt k all)) :
    IsIdx all (ks.map fun k => (k, S k)) := by
  refine ⟨List.pairwise_map.2 hk, ?_, ?_⟩
  · intro c hc
    obtain ⟨k, hk, rfl⟩ := List.mem_map.1 hc
    obtain ⟨h1, h2⟩ := hS k hk
    refine ⟨fun e => ?_, h1, h2⟩
    have e' : S k = [] := e
    rw [e'] at h2
    exact (hm k).1 hk (List.nil_perm.1 h2)
  · intro p hp
    refine ⟨(p.1, S p.1), List.mem_map.2 ⟨p.1, (hm p.1).2 (fun e => ?_), rfl⟩, rfl⟩
    have := mem_slotsAt.2 (show (p.1, p.2) ∈ all from hp)
    rw [e] at this
    cases this
/-- What compares: the first that is not 0. -/
def orI (x y : Int) : Int := if x = 0 then y else x
def cmpI (x y : Int) : Int := if x < y then -1 else if y < x then 1 else 0
def cmpB (x y : List UInt8) : Int := if Op.bytesLess x y then -1 else if Op.bytesLess y x then 1 else 0
def cmpK (a b : Int × Int) : Int := orI (cmpI a.1 b.1) (cmpI a.2 b.2)
def cmpS (a b : Sl) : Int := orI (cmpI a.i b.i) (orI (cmpB a.s.toList b.s.toList) (cmpI a.p b.p))
theorem cmpI_zero {x y : Int} : cmpI x y = 0 ↔ x = y := by
  unfold cmpI
  split
  · constructor <;> intro h <;> omega
  · split
    · constructor <;> intro h <;> omega
    · constructor <;> intro h <;> omega
theorem cmpI_neg {x y : Int} : cmpI x y < 0 ↔ x < y := by
  unfold cmpI
  split
  · constructor <;> intro h <;> omega
  · split
    · constructor <;> intro h <;> omega
    · constructor <;> intro h <;> omega
theorem cmpB_zero {x y : List UInt8} : cmpB x y = 0 ↔ x = y := by
  unfold cmpB
  constructor
  · intro h
    split at h
    · omega
    · split at h
      · omega
      · rename_i h1 h2
        refine Classical.byContradiction (fun hne => h2 (bl_total hne (by simpa using h1)))
  · rintro rfl
    simp [bl_irrefl]
theorem cmpB_neg {x y : List UInt8} : cmpB x y < 0 ↔ Op.bytesLess x y = true := by
  unfold cmpB
  split
  · rename_i h; simp [h]
  · rename_i h
    split
    · constructor
      · intro h1; omega
      · intro h1; exact absurd h1 h
    · constructor
      · intro h1; omega
      · intro h1; exact absurd h1 h
theorem orI_neg {x y : Int} : orI x y < 0 ↔ x < 0 ∨ (x = 0 ∧ y < 0) := by
  unfold orI
  split <;> omega
theorem cmpK_lt (a b : Int × Int) : decide (cmpK a b < 0) = keyLt a b := by
  have : cmpK a b < 0 ↔ keyLt a b = true := by
    unfold cmpK keyLt
    rw [orI_neg, cmpI_neg, cmpI_zero, cmpI_neg]
    split <;> simp <;> omega
  rw [Bool.eq_iff_iff]
  simpa using this
theorem cmpS_lt (a b : Sl) : decide (cmpS a b < 0) = slLt a b := by
  have : cmpS a b < 0 ↔ slLt a b = true := by
    unfold cmpS slLt
    rw [orI_neg, orI_neg, cmpI_neg, cmpI_zero, cmpI_neg, cmpB_neg, cmpB_zero]
    by_cases h1 : a.i = b.i
    · rw [if_pos h1]
      by_cases h2 : a.s.toList = b.s.toList
      · rw [if_pos h2, h2, bl_irrefl]
        simp
        omega
      · rw [if_neg h2]
        simp [h1, h2]
    · rw [if_neg h1]
      simp [h1]
  rw [Bool.eq_iff_iff]
  simpa using this
end Go.Proofs.YtpdcgjkfilohcabGreat

namespace Go.Proofs.YtpdcgjkfilohcabGreat
open Go.RowKit Go.Maps
set_option linter.unusedSimpArgs false
set_option linter.unusedVariables false

/-! A map with two numbers as its key, of rows that the call owns. -/

/-- The key's value, and what it reads as. -/
def kv (k : Int × Int) : Value := .agg #[.int .i64 k.1, .int .i64 k.2]
def kl (k : Int × Int) : Lit := .string (keyBytes [.int .i64 k.1, .int .i64 k.2])
def Wk (k : Int × Int) : Prop := (Lit.int .i64 k.1).wf = true ∧ (Lit.int .i64 k.2).wf = true
/-- The elements of the map, as they are. -/
def tok (v : Value) : Option (DataW Value × List MemPlace) := some (.held v, [])
/-- What is asked of the key's type. -/
structure KeyT (P : Program) (K : TypeId) : Prop where
  deep : WideMaps.KeyLaw P K
  is : ∀ {k}, Wk k → keyOf P K (kv k) = some (kl k)
  inv : ∀ {v l}, keyOf P K v = some l → ∃ k, Wk k ∧ v = kv k ∧ l = kl k
theorem KeyT.law {P : Program} {K : TypeId} (h : KeyT P K) : Keyed P K := Keyed.of_law h.deep
theorem kv_inj {a b : Int × Int} (h : kv a = kv b) : a = b := by
  unfold kv at h
  simp at h
  exact Prod.ext h.1 h.2
theorem KeyT.inj {P : Program} {K : TypeId} (h : KeyT P K) {a b : Int × Int} (ha : Wk a) (hb : Wk b) (e : kl a = kl b) : a = b :=
  kv_inj (h.law.inj (h.is ha) (by rw [h.is hb, e]))
theorem KeyT.isKey {P : Program} {K : TypeId} (h : KeyT P K) {a : Int × Int} (ha : Wk a) : WideAt.IsKeyLit (kl a) := h.law.key (h.is ha)

/-- Block b is a map from cells to rows of slots that the call owns, no two of them in one block. -/
structure Groups (P : Program) (K e : TypeId) (size : Nat) (enc : Sl → List Value) (lo b : Nat) (w : World) (S : Int × Int → List Sl) (ks : List (Int × Int)) (V : Int × Int → Value) : Prop where
  own : ∃ D, w.ownsMap P K tok b ks.length D ∧ (∀ k, Wk k → D.atKey (kl k) (.held (.slice none 0 0)) = .held (V k)) ∧ (∀ k, Wk k → (has D (kl k) = true ↔ k ∈ ks))
  rows : ∀ k, Wk k → w.ownsRow lo e size (V k) (S k).length ((S k).flatMap enc)
  apart : ∀ k k', Wk k → Wk k' → k ≠ k' → ∀ g, (V k).ownBlock = some g → (V k').ownBlock ≠ some g

section
variable {P : Program} {K e : TypeId} {size : Nat} {enc : Sl → List Value} {lo b : Nat} {w : World} {S : Int × Int → List Sl} {ks : List (Int × Int)} {V : Int × Int → Value}

theorem row_block {v : Value} {n : Nat} {xs : List Value} (h : w.ownsRow lo e size v n xs) {g : Nat} (hg : v.ownBlock = some g) : lo ≤ g ∧ g < w.heap.size ∧ ∃ cur, w.heap[g]? = some (.cells cur e (0, 0)) := by
  rcases h.2 with ⟨rfl, _⟩ | ⟨g', cap, cur, rfl, hb, hh, _⟩
  · simp [Value.ownBlock] at hg
  · have : g' = g := by simpa [Value.ownBlock] using hg
    subst this
    exact ⟨hb, (Array.getElem?_eq_some_iff.1 hh).1, cur, hh⟩
theorem map_block {D : DataW Value} {n : Nat} (h : w.ownsMap P K tok b n D) : ∃ es c, w.heap[b]? = some (.map es c) := by
  obtain ⟨es, c, hb, _⟩ := h
  exact ⟨es, c, hb⟩
theorem Groups.lt (h : Groups P K e size enc lo b w S ks V) : b < w.heap.size := by
  obtain ⟨D, hD, _⟩ := h.own
  exact hD.lt
theorem Groups.notB (h : Groups P K e size enc lo b w S ks V) {k : Int × Int} (hk : Wk k) : some b ≠ (V k).ownBlock := by
  intro e1
  obtain ⟨_, _, cur, hc⟩ := row_block (h.rows k hk) e1.symm
  obtain ⟨D, hD, _⟩ := h.own
  obtain ⟨es, c, hb⟩ := map_block hD
  rw [hb] at hc
  cases hc

theorem groups_made (w : World) (P : Program) (K e : TypeId) (size : Nat) (enc : Sl → List Value) (lo : Nat) : Groups P K e size enc lo w.heap.size (w.alloc (.map #[] 0)) (fun _ => []) [] (fun _ => .slice none 0 0) :=
  ⟨⟨_, World.ownsMap_made w P K tok, fun k _ => rfl, fun k _ => by simp [has_eq]⟩, fun k _ => World.ownsRow_nil _ _ _ _, fun k k' _ _ _ g h => by simp [Value.ownBlock] at h⟩

/-- It stays while nothing of its own is written. -/
theorem Groups.kept {w' : World} {row : Option Nat} (h : Groups P K e size enc lo b w S ks V) (hg : w.grownBy w' row) (hb : some b ≠ row) (hr : ∀ k, Wk k → (V k).ownBlock = none ∨ (V k).ownBlock ≠ row) : Groups P K e size enc lo b w' S ks V := by
  obtain ⟨D, h1, h2, h3⟩ := h.own
  exact ⟨⟨D, h1.kept hg hb, h2, h3⟩, fun k hk => (h.rows k hk).kept hg (hr k hk), h.apart⟩
theorem Groups.gr {w' : World} (h : Groups P K e size enc lo b w S ks V) (hg : Gr w w') : Groups P K e size enc lo b w' S ks V :=
  h.kept (row := none) ⟨hg.os, hg.tape, hg.output, hg.size, fun k hk _ => hg.block k hk⟩ (by simp) (fun k _ => by cases (V k).ownBlock <;> simp)

/-- s[cell], read. -/
theorem Groups.look (h : Groups P K e size enc lo b w S ks V) (T : KeyT P K) {t E : TypeId} (ht : P.underlying t = some (.map K E)) (hz : (zeroValue E).run P w = .ok (.slice none 0 0) w) {k : Int × Int} (hk : Wk k) :
    (Instr.lookup t (.map (some b)) (kv k) false).run P w = .ok (V k) w := by
  obtain ⟨D, h1, h2, _⟩ := h.own
  obtain ⟨v, ps, hr, hv⟩ := h1.lookup T.law ht hz (zd := .held (.slice none 0 0)) (zp := []) rfl (T.is hk)
  rw [h2 k hk] at hv
  have : v = V k := by
    simp only [tok, Option.some.injEq, Prod.mk.injEq, DataW.held.injEq] at hv
    exact hv.1
  rw [← this]
  exact hr

/-- Behind a store at one key. -/
theorem groups_after (h : Groups P K e size enc lo b w S ks V) (T : KeyT P K) {k : Int × Int} (hk : Wk k) {D : DataW Value} (h1 : w.ownsMap P K tok b ks.length D) (h2 : ∀ k, Wk k → D.atKey (kl k) (.held (.slice none 0 0)) = .held (V k)) (h3 : ∀ k, Wk k → (has D (kl k) = true ↔ k ∈ ks))
    {w2 : World} {v' : Value} {ss : List Sl} (hD2 : w2.ownsMap P K tok b (ks.length + 1) (D.put (kl k) (.held v'))) (hrows : ∀ j, Wk j → j ≠ k → w2.ownsRow lo e size (V j) (S j).length ((S j).flatMap enc))
    (hown : w2.ownsRow lo e size v' ((S k).length + ss.length) ((S k).flatMap enc ++ ss.flatMap enc)) (hloc : v'.ownBlock = (V k).ownBlock ∨ ∃ g, v'.ownBlock = some g ∧ w.heap.size ≤ g) :
    Groups P K e size enc lo b w2 (fun j => if j = k then S k ++ ss else S j) (k :: ks) (fun j => if j = k then v' else V j) := by
  have hIs := h1.isMap
  have hK := T.isKey hk
  refine ⟨⟨D.put (kl k) (.held v'), hD2, ?_, ?_⟩, ?_, ?_⟩
  · intro j hj
    by_cases e1 : j = k
    · subst e1
      rw [if_pos rfl]
      exact atKey_put_same hIs hK _ _
    · rw [if_neg e1, atKey_put_other (fun e2 => e1 (T.inj hj hk e2))]
      exact h2 j hj
  · intro j hj
    by_cases e1 : j = k
    · subst e1
      simp [has_put_same hIs hK]
    · rw [has_put_other (fun e2 => e1 (T.inj hj hk e2)), h3 j hj]
      simp [e1]
  · intro j hj
    by_cases e1 : j = k
    · subst e1
      simp only [if_true]
      rw [List.length_append, List.flatMap_append]
      exact hown
    · simp only [if_neg e1]
      exact hrows j hj e1
  · intro j j' hj hj' hne g hg1 hg2'
    by_cases e1 : j = k
    · subst e1
      simp only [if_true] at hg1
      have hne' : ¬ j' = j := fun e3 => hne e3.symm
      simp only [if_neg hne'] at hg2'
      rcases hloc with e2 | ⟨g', e2, hge⟩
      · rw [e2] at hg1
        exact h.apart j j' hj hj' hne g hg1 hg2'
      · rw [e2] at hg1
        cases hg1
        have := (row_block (h.rows j' hj') hg2').2.1
        omega
    · simp only [if_neg e1] at hg1
      by_cases e2 : j' = k
      · subst e2
        simp only [if_true] at hg2'
        rcases hloc with e3 | ⟨g', e3, hge⟩
        · rw [e3] at hg2'
          exact h.apart j j' hj hj' hne g hg1 hg2'
        · rw [e3] at hg2'
          cases hg2'
          have := (row_block (h.rows j hj) hg1).2.1
          omega
      · simp only [if_neg e2] at hg2'
        exact h.apart j j' hj hj' hne g hg1 hg2'
theorem Groups.other (h : Groups P K e size enc lo b w S ks V) {j k : Int × Int} (hj : Wk j) (hk : Wk k) (hne : j ≠ k) : (V j).ownBlock = none ∨ (V j).ownBlock ≠ (V k).ownBlock := by
  cases hvj : (V j).ownBlock with
  | none => exact Or.inl rfl
  | some g => exact Or.inr (fun e1 => h.apart j k hj hk hne g hvj e1.symm)

/-- The entry of s[cell], and the way back: what is appended is stored in it. -/
theorem Groups.entry (h : Groups P K e size enc lo b w S ks V) (T : KeyT P K) {t E : TypeId} (ht : P.underlying t = some (.map K E)) (hz : ∀ u : World, (zeroValue E).run P u = .ok (.slice none 0 0) u) (hn : ks.length < maxLen) {k : Int × Int} (hk : Wk k) :
    ∃ (st : Nat) (wE : World), (Instr.mapEntry t (.map (some b)) (kv k)).run P w = .ok (.tuple #[V k, goInt st]) wE ∧ w.grownBy wE (some b) ∧ wE.heap.size = w.heap.size ∧ wE.ownsRow lo e size (V k) (S k).length ((S k).flatMap enc) ∧
      ∀ (w1 : World) (v' : Value) (ss : List Sl), wE.grownBy w1 (V k).ownBlock → w1.ownsRow lo e size v' ((S k).length + ss.length) ((S k).flatMap enc ++ ss.flatMap enc) → (v'.ownBlock = (V k).ownBlock ∨ ∃ g, v'.ownBlock = some g ∧ w.heap.size ≤ g) →
        ∃ w2, (Instr.entryStore t (.map (some b)) (goInt st) v').run P w1 = .ok () w2 ∧ Groups P K e size enc lo b w2 (fun j => if j = k then S k ++ ss else S j) (k :: ks) (fun j => if j = k then v' else V j) ∧ w1.grownBy w2 (some b) ∧ ∃ es c, w1.heap[b]? = some (.map es c) := by
  have hnb := h.notB hk
  have hlt := h.lt
  obtain ⟨D, h1, h2, h3⟩ := h.own
  obtain ⟨es, clock, hb, F, hs, rfl⟩ := id h1
  obtain ⟨v0, st, es1, clock1, hrun, hv0, hback⟩ := WideElems.entry_then_store T.deep ht hz hb F (T.is hk)
  have hlook := h.look T ht (hz w) hk
  -- the value at the entry
  have ev : v0 = V k := by
    obtain ⟨v, ps, hr, hv⟩ := h1.lookup T.law ht (hz w) (zd := .held (.slice none 0 0)) (zp := []) rfl (T.is hk)
    rcases Maps.fit_look false T.law ht (hz w) hb F (T.is hk) with ⟨hr', hno, _⟩ | ⟨e0, y, he0, hke, hr', _⟩
    · rw [hlook] at hr'
      rcases hv0 with ⟨e0, he0, hke, rfl⟩ | ⟨_, rfl⟩
      · exact absurd hke (hno e0 he0)
      · injection hr' with hr'
        exact hr'.symm
    · rw [hlook] at hr'
      rcases hv0 with ⟨e1, he1, hke1, rfl⟩ | ⟨hno, rfl⟩
      · have : e1 = e0 := entry_eq_of_key (((MapKept.stamped_iff es clock).1 F.stamped).2.2) he1 he0 (hke1.trans hke.symm)
        subst this
        injection hr' with hr'
        exact hr'.symm
      · exact absurd hke (hno e0 he0)
  subst ev
  have hgE : w.grownBy (ChangeMaps.setBlock w b (.map es1 clock1)) (some b) := ⟨rfl, rfl, rfl, by simp [ChangeMaps.setBlock], fun i _ hi => ChangeMaps.heap_setBlock_other hb _ (fun e => hi (by rw [e]))⟩
  refine ⟨st, _, hrun, hgE, by simp [ChangeMaps.setBlock], (h.rows k hk).kept hgE (Or.inr (fun e1 => hnb e1.symm)), ?_⟩
  intro w1 v' ss hg hown hloc
  have hb1 : w1.heap[b]? = some (.map es1 clock1) := (hg.block b (by simp [ChangeMaps.setBlock]; exact hlt) hnb).trans (ChangeMaps.heap_setBlock_same hb _)
  obtain ⟨es', clock', hst, hup⟩ := hback w1 v' hb1
  obtain ⟨w', hr', hD', _⟩ := h1.update (val := v') (d := .held v') (ps := []) T.law ht hn (T.is hk) rfl
  rw [hup] at hr'
  injection hr' with _ hr'
  subst hr'
  have vb : v'.ownBlock ≠ some b := by
    rcases hloc with e1 | ⟨g, e1, hge⟩
    · rw [e1]; exact fun e2 => hnb e2.symm
    · rw [e1]; intro e2; cases e2; omega
  have hg2 : w1.grownBy (ChangeMaps.setBlock w1 b (.map es' clock')) (some b) := ⟨rfl, rfl, rfl, by simp [ChangeMaps.setBlock], fun i _ hi => ChangeMaps.heap_setBlock_other hb1 _ (fun e => hi (by rw [e]))⟩
  have hD2 : (ChangeMaps.setBlock w1 b (.map es' clock')).ownsMap P K tok b (ks.length + 1) ((DataW.map ((es.toList.map (WideElems.rg P K tok)).foldr DataW.insert [])).put (kl k) (.held v')) := by
    obtain ⟨es2, c2, hb2, F2, hs2, hD2⟩ := hD'
    rw [ChangeMaps.heap_setBlock_same hb] at hb2
    cases hb2
    exact ⟨es', clock', ChangeMaps.heap_setBlock_same hb1 _, F2, hs2, hD2⟩
  refine ⟨_, hst, groups_after h T hk h1 h2 h3 hD2 (fun j hj hne => ?_) (hown.kept hg2 (Or.inr vb)) hloc, hg2, es1, clock1, hb1⟩
  exact (((h.rows j hj).kept hgE (Or.inr (fun e1 => h.notB hj e1.symm))).kept hg (h.other hj hk hne)).kept hg2 (Or.inr (fun e1 => h.notB hj e1.symm))
end
end Go.Proofs.YtpdcgjkfilohcabGreat
