import Derived.Test.YtpdcgjkfilohcabGreatHapFJ
import Derived.LaidEql
import Derived.Stop.Asserts
import Derived.RowKitTokens
import Derived.Laws.OwnMore
namespace Go.Proofs.YtpdcgjkfilohcabGreat
open Go.RowKit Go.Extern.Stop Go.Stop Go.Extern
attribute [local go_sem ↓] Go.wp_at_zero Go.wp_at_succ

theorem rlm (z : Sem Value) (f : TypeId → Addr → Nat → Nat → Sem Value) (v : Value) :
    ReflectliteValue.method z f #[v] = (do match ← ReflectliteValue.parts v with | none => z | some (t, a, fl) => f t a fl (fl % 32)) := rfl
theorem rls (v x : Value) : ReflectliteValue.set #[v, x] = (do
    let (some (dst, a, fl), some (src, b, _)) := (← ReflectliteValue.parts v, ← ReflectliteValue.parts x)
      | unsupported (.noEntry "extern/(internal/reflectlite.Value).Set.zeroValue")
    if fl / ReflectliteValue.flagAddr % 2 == 0 then unsupported (.noEntry "extern/(internal/reflectlite.Value).Set.unaddressable")
    let val ← loadVar src b
    if ← Rtype.directlyAssignable dst src then storeVar dst a val
    else if ← Rtype.implements dst src then
      if (← Rtype.kind src) == 20 then
        match val with
        | .nilIface => unsupported (.noEntry "extern/reflectlite: a nil value of one interface type handed on as a value of another")
        | _ => storeVar dst a val
      else storeVar dst a (.iface src val)
    else panicString ("reflectlite.Set: value of type " ++ (← Rtype.spelt src) ++ " is not assignable to type " ++ (← Rtype.spelt dst))
    pure (.tuple #[])) := rfl
end Go.Proofs.YtpdcgjkfilohcabGreat

namespace Go.Proofs.YtpdcgjkfilohcabGreat
open Go.RowKit Go.Extern.Stop Go.Stop Go.Extern
attribute [local go_sem ↓] Go.wp_at_zero Go.wp_at_succ

theorem but_own {r c : Nat} {w : World} (v : Value) : But r w (w.setCell ⟨r, c, none⟩ v) :=
  ⟨rfl, rfl, rfl, by rw [World.size_setCell]; exact Nat.le_refl _, fun k _ hne => Below.heap_setCell w ⟨r, c, none⟩ v k (fun e => hne (by rw [e]))⟩

end Go.Proofs.YtpdcgjkfilohcabGreat

namespace Go.Proofs.YtpdcgjkfilohcabGreat
open Go.RowKit
attribute [local go_sem ↓] Go.wp_at_zero Go.wp_at_succ

theorem like_len {us ts : List Tb} (h : Like us ts) : us.length = ts.length := h.1
theorem nm_edit (ts : List Tb) (p c : Nat) (mid : List Tb) (hp : p ≤ ts.length) (k : Nat) : (edit ts p c mid).getD k Tb.nil = if k < p then ts.getD k Tb.nil else if k < p + mid.length then mid.getD (k - p) Tb.nil else ts.getD (k - mid.length + c) Tb.nil := by
  unfold edit
  simp only [List.getD_eq_getElem?_getD]
  have hl : (ts.take p).length = p := by rw [List.length_take]; omega
  by_cases h1 : k < p
  · rw [if_pos h1, List.append_assoc, List.getElem?_append_left (by omega), List.getElem?_take_of_lt h1]
  · rw [if_neg h1]
    by_cases h2 : k < p + mid.length
    · rw [if_pos h2, List.getElem?_append_left (by rw [List.length_append]; omega), List.getElem?_append_right (by omega), hl]
    · rw [if_neg h2, List.getElem?_append_right (by rw [List.length_append]; omega), List.length_append, hl, List.getElem?_drop]
      congr 2
      omega
/-- What is alike stays so. -/
theorem like_edit {us ts mid mid' : List Tb} {p c : Nat} (h : Like us ts) (hm : Like mid mid') (hp : p + c ≤ ts.length) : Like (edit us p c mid) (edit ts p c mid') := by
  have hl := h.1
  have hml := hm.1
  have e1 : ∀ (xs ms : List Tb), p + c ≤ xs.length → (edit xs p c ms).length = xs.length - c + ms.length := fun xs ms hx => by unfold edit; simp; omega
  refine ⟨by rw [e1 us mid (by omega), e1 ts mid' hp]; omega, fun k hk => ?_⟩
  rw [e1 ts mid' hp] at hk
  have a1 := nm_edit us p c mid (by omega) k
  have a2 := nm_edit ts p c mid' (by omega) k
  unfold nm bx
  rw [a1, a2]
  by_cases h1 : k < p
  · rw [if_pos h1, if_pos h1]
    exact h.2 k (by omega)
  · rw [if_neg h1, if_neg h1, hml]
    by_cases h2 : k < p + mid'.length
    · rw [if_pos h2, if_pos h2]
      exact hm.2 (k - p) (by omega)
    · rw [if_neg h2, if_neg h2]
      exact h.2 _ (by omega)
theorem like_refl (ts : List Tb) : Like ts ts := ⟨rfl, fun _ _ => ⟨rfl, rfl⟩⟩
theorem flatT_set (us : List Tb) (p : Nat) (a b : Value) (hp : p < us.length) : ((flatT us).set (p * 2) a).set (p * 2 + 1) b = flatT (us.take p) ++ [a, b] ++ flatT (us.drop (p + 1)) := by
  have hA : (flatT (us.take p)).length = p * 2 := by rw [flatT_len, List.length_take]; omega
  have e : flatT us = flatT (us.take p) ++ (Value.string us[p].s :: Value.slice us[p].a us[p].bs.length us[p].cap :: flatT (us.drop (p + 1))) := by
    conv => lhs; rw [← List.take_append_drop p us, flatT_app, List.drop_eq_getElem_cons hp]
    rfl
  rw [e, List.set_append, if_neg (by omega), hA, Nat.sub_self, List.set_cons_zero, List.set_append, if_neg (by omega), hA, show p * 2 + 1 - p * 2 = 1 by omega, List.set_cons_succ, List.set_cons_zero]
  simp
/-- A tube is put in another one's place. -/
theorem ownT_put {lo g cap p : Nat} {w : World} {us : List Tb} {t : Tb} (h : OwnT lo w (.slice (some ⟨g, 0, none⟩) us.length cap) us) (ht : InT lo w t) (hta : ∀ q, t.blk = some q → q ≠ g ∧ ∀ u ∈ us, u.blk ≠ some q) (hp : p < us.length) :
    OwnT lo (put2 w g (p * 2) t) (.slice (some ⟨g, 0, none⟩) us.length cap) (edit us p 1 [t]) ∧ w.grownBy (put2 w g (p * 2) t) (some g) := by
  obtain ⟨h1, h2, h3, h4⟩ := h
  have s1 := h1.stored (p * 2) (.string t.s)
  have s2 := s1.1.stored (p * 2 + 1) (.slice t.a t.bs.length t.cap)
  have hG : w.grownBy (put2 w g (p * 2) t) (some g) := grown_trans s1.2 s2.2
  have hel : (edit us p 1 [t]).length = us.length := by unfold edit; simp; omega
  have hef : flatT (edit us p 1 [t]) = flatT (us.take p) ++ [Value.string t.s, Value.slice t.a t.bs.length t.cap] ++ flatT (us.drop (p + 1)) := by
    unfold edit
    rw [flatT_app, flatT_app]
    rfl
  have hin : ∀ u ∈ edit us p 1 [t], InT lo w u := fun u hu => by
    rcases edit_mem hu with h | h
    · exact h2 u h
    · rw [List.mem_singleton] at h; subst h; exact ht
  have hne : ∀ u ∈ edit us p 1 [t], ∀ q, u.blk = some q → (Value.slice (some ⟨g, 0, none⟩) us.length cap).ownBlock ≠ some q := fun u hu q e => by
    rcases edit_mem hu with h | h
    · exact h4 u h q e
    · rw [List.mem_singleton] at h
      subst h
      intro e'
      have := (hta q e).1
      simp [Value.ownBlock] at e'
      omega
  refine ⟨⟨?_, fun u hu => inT_grown (hin u hu) hG (fun q e => hne u hu q e), ?_, hne⟩, hG⟩
  · rw [hel, hef, ← flatT_set us p _ _ hp]
    exact s2.1
  · have hsub : (us.take p ++ us.drop (p + 1)).Pairwise (fun t u => ∀ q, t.blk = some q → u.blk ≠ some q) := by
      refine h3.sublist ?_
      conv => rhs; rw [← List.take_append_drop p us]
      exact List.Sublist.append_left (by rw [← List.drop_drop]; exact List.drop_sublist _ _) _
    rw [List.pairwise_append] at hsub
    unfold edit
    rw [List.append_assoc, List.pairwise_append]
    refine ⟨hsub.1, ?_, fun a ha b hb => ?_⟩
    · rw [List.singleton_append, List.pairwise_cons]
      exact ⟨fun b hb q e => (hta q e).2 b (List.mem_of_mem_drop hb), hsub.2.1⟩
    · rw [List.singleton_append, List.mem_cons] at hb
      rcases hb with rfl | hb
      · intro q e e'
        exact (hta q e').2 a (List.mem_of_mem_take ha) e
      · exact hsub.2.2 a ha b hb

/-- Whose boxes a list does not hold. -/
def Apart (t : Tb) (v : Value) (us : List Tb) : Prop := ∀ q, t.blk = some q → v.ownBlock ≠ some q ∧ ∀ u ∈ us, u.blk ≠ some q
end Go.Proofs.YtpdcgjkfilohcabGreat

namespace Go.Proofs.YtpdcgjkfilohcabGreat
open Go.RowKit
attribute [local go_sem ↓] Go.wp_at_zero Go.wp_at_succ

theorem own_some {lo : Nat} {w : World} {v : Value} {us : List Tb} (h : OwnT lo w v us) (hn : 0 < us.length) : ∃ g cap, v = .slice (some ⟨g, 0, none⟩) us.length cap ∧ lo ≤ g ∧ g < w.heap.size := by
  rcases h.1.2 with ⟨rfl, h0⟩ | ⟨g, cap, cur, rfl, hb, hg, h1, h2, h3, h4⟩
  · omega
  · exact ⟨g, cap, rfl, hb, (Array.getElem?_eq_some_iff.1 hg).1⟩
theorem own_form {lo : Nat} {w : World} {v : Value} {us : List Tb} (h : OwnT lo w v us) : ∃ a cap, v = .slice a us.length cap := by
  obtain ⟨a, c, e, -⟩ := ownT_tubes h
  exact ⟨a, c, e⟩

end Go.Proofs.YtpdcgjkfilohcabGreat

namespace Go.Proofs.YtpdcgjkfilohcabGreat
open Go.RowKit
attribute [local go_sem ↓] Go.wp_at_zero Go.wp_at_succ

end Go.Proofs.YtpdcgjkfilohcabGreat
