import Derived.Test.YtpdcgjkfilohcabGreatAskE
import Derived.StringKeys
namespace Go.Proofs.YtpdcgjkfilohcabGreat
open Go.RowKit Go.Sort Go.Maps
set_option linter.unusedSimpArgs false
set_option linter.unusedVariables false

/-! The program's side of Ask: small contracts. -/

theorem boxOf_any (c : Int × Int) (s : Sl) (w : World) : Calls Tryz.prog 60 #[.agg #[.int .i64 c.1, .int .i64 c.2], .agg #[.int .i64 s.i, .int .i64 s.o, .int .i64 s.l, .int .i64 s.h, .string s.s, .int .i64 s.p]] w fun e w' => e = .returned (.agg #[.int .i64 (bxOf (c, s)).x, .int .i64 (bxOf (c, s)).y, .int .i64 (bxOf (c, s)).l, .int .i64 (bxOf (c, s)).h, .int .i64 (bxOf (c, s)).i, .int .i64 (bxOf (c, s)).o]) ∧ Gr w w' := by
  go_enter Tryz.func60, Tryz.ntmps60
  go_wp2
  refine bodyPost_ret (v := .agg #[.int .i64 c.1, .int .i64 c.2, .int .i64 s.l, .int .i64 s.h, .int .i64 s.i, .int .i64 s.o]) (by simp [results, Tryz.results60, go_sem]) rfl ⟨rfl, ?_⟩
  repeat (first | exact Gr.refl _ | refine Gr.alloc ?_ _ | refine Gr.setCell ?_ (by simp) _)
/-- How clashes of the same two are compared. -/
def cmpC (a b : K3) : Int := orI (cmpI a.1 b.1) (orI (cmpI a.2.1 b.2.1) (cmpI a.2.2 b.2.2))
theorem cmpC_lt (a b : K3) : decide (cmpC a b < 0) = k3Lt a b := by
  obtain ⟨a1, a2, a3⟩ := a
  obtain ⟨b1, b2, b3⟩ := b
  unfold cmpC orI cmpI k3Lt
  dsimp only
  repeat' split
  all_goals first | rfl | omega | (simp; omega) | simp_all
set_option maxRecDepth 100000 in
set_option maxHeartbeats 600000 in
theorem cmpC_any (s t s' t' : ByteArray) (a b : K3) (w : World) : Calls Tryz.prog 105 #[.agg #[.string s, .string t, .int .i64 a.1, .int .i64 a.2.1, .int .i64 a.2.2], .agg #[.string s', .string t', .int .i64 b.1, .int .i64 b.2.1, .int .i64 b.2.2]] w fun e w' => e = .returned (.int .i64 (cmpC a b)) ∧ Gw w w' := by
  have HV : Hid (cmpC a b = orI (cmpI a.1 b.1) (orI (cmpI a.2.1 b.2.1) (cmpI a.2.2 b.2.2))) := rfl
  generalize cmpC a b = r at *
  have G0 : Gw w ((w.alloc (.cells #[.string s, .string t, .int .i64 a.1, .int .i64 a.2.1, .int .i64 a.2.2] 61)).alloc (.cells #[.string s', .string t', .int .i64 b.1, .int .i64 b.2.1, .int .i64 b.2.2] 61)) := ((Gw.refl w).alloc _).alloc _
  have K : Hid (∀ w', Gw ((w.alloc (.cells #[.string s, .string t, .int .i64 a.1, .int .i64 a.2.1, .int .i64 a.2.2] 61)).alloc (.cells #[.string s', .string t', .int .i64 b.1, .int .i64 b.2.1, .int .i64 b.2.2] 61)) w' → Gw w w' ∧ w'.cell? ⟨w.heap.size, 2, none⟩ = some (.int .i64 a.1) ∧ w'.cell? ⟨w.heap.size, 3, none⟩ = some (.int .i64 a.2.1) ∧ w'.cell? ⟨w.heap.size, 4, none⟩ = some (.int .i64 a.2.2) ∧ w'.cell? ⟨w.heap.size + 1, 2, none⟩ = some (.int .i64 b.1) ∧ w'.cell? ⟨w.heap.size + 1, 3, none⟩ = some (.int .i64 b.2.1) ∧ w'.cell? ⟨w.heap.size + 1, 4, none⟩ = some (.int .i64 b.2.2)) := by
    intro w' h
    obtain ⟨hc, -⟩ := h.gr.cells
    refine ⟨G0.trans h, ?_, ?_, ?_, ?_, ?_, ?_⟩ <;> rw [hc _ _ (by simp; try omega)] <;> simp
  have G1 := Gw.refl ((w.alloc (.cells #[.string s, .string t, .int .i64 a.1, .int .i64 a.2.1, .int .i64 a.2.2] 61)).alloc (.cells #[.string s', .string t', .int .i64 b.1, .int .i64 b.2.1, .int .i64 b.2.2] 61))
  go_enter Tryz.func105, Tryz.ntmps105
  go_upto_region 1 with fail
  go_region_held3 (fun w' => Gw w w' ∧ w'.cell? ⟨w.heap.size, 2, none⟩ = some (.int .i64 a.1) ∧ w'.cell? ⟨w.heap.size, 3, none⟩ = some (.int .i64 a.2.1) ∧ w'.cell? ⟨w.heap.size, 4, none⟩ = some (.int .i64 a.2.2) ∧ w'.cell? ⟨w.heap.size + 1, 2, none⟩ = some (.int .i64 b.1) ∧ w'.cell? ⟨w.heap.size + 1, 3, none⟩ = some (.int .i64 b.2.1) ∧ w'.cell? ⟨w.heap.size + 1, 4, none⟩ = some (.int .i64 b.2.2))
    ((refine K.out _ ?_; repeat (first | exact G1 | assumption | with_reducible refine Gw.drew ?_ | with_reducible refine Gw.alloc ?_ _)))
    (first
      | (go_at_call 131; (with_reducible refine Calls.mono (cmpI_any _ _ _) ?_); rintro e w1 ⟨rfl, rfl⟩)
      | (go_at_call 147; (with_reducible refine Calls.mono (or3_any (cmpI a.1 b.1) (cmpI a.2.1 b.2.1) (cmpI a.2.2 b.2.2) _ _ _ (by go_simp) (by go_simp) (by go_simp)) ?_); rintro e w1 ⟨rfl, rfl⟩) | fail)
  all_goals
    go_wp2_with fail
    go_ret
    exact ⟨congrArg _ (congrArg _ HV.out.symm), And.left (by assumption)⟩
end Go.Proofs.YtpdcgjkfilohcabGreat

namespace Go.Proofs.YtpdcgjkfilohcabGreat
open Go.RowKit Go.Sort Go.Maps
set_option linter.unusedSimpArgs false
set_option linter.unusedVariables false

/-! The slots around a box, as lists. -/

theorem close_near {a b : Bx} (h : closeB a b = true) : (a.x - 1 ≤ b.x ∧ b.x ≤ a.x + 1) ∧ (a.y - 1 ≤ b.y ∧ b.y ≤ a.y + 1) := by
  unfold closeB at h
  rw [Bool.and_eq_true, Bool.and_eq_true] at h
  have h2 := h.2
  unfold nearB at h2
  have h3 := of_decide_eq_true h2
  omega
/-- The cells around a place, in the order of the loops. -/
def cellsAround (x y : Int) : List (Int × Int) := [(x - 1, y - 1), (x - 1, y), (x - 1, y + 1), (x, y - 1), (x, y), (x, y + 1), (x + 1, y - 1), (x + 1, y), (x + 1, y + 1)]
theorem mem_around {x y : Int} {c : Int × Int} : c ∈ cellsAround x y ↔ (x - 1 ≤ c.1 ∧ c.1 ≤ x + 1) ∧ (y - 1 ≤ c.2 ∧ c.2 ≤ y + 1) := by
  obtain ⟨c1, c2⟩ := c
  simp only [cellsAround, List.mem_cons, Prod.mk.injEq, List.not_mem_nil, or_false]
  omega
/-- The slots around a box, with their cells. -/
def aroundOf (pts : List Pt) (b : Bx) : List Pt := (cellsAround b.x b.y).flatMap fun c => (slotsAt c pts).map fun s => (c, s)
theorem mem_aroundOf {pts : List Pt} {b : Bx} {p : Pt} : p ∈ aroundOf pts b ↔ p ∈ pts ∧ p.1 ∈ cellsAround b.x b.y := by
  obtain ⟨c, s⟩ := p
  unfold aroundOf
  simp only [List.mem_flatMap, List.mem_map, Prod.mk.injEq]
  constructor
  · rintro ⟨c', hc, s', hs, rfl, rfl⟩
    exact ⟨mem_slotsAt.1 hs, hc⟩
  · rintro ⟨h, hc⟩
    exact ⟨c, hc, s, mem_slotsAt.2 h, rfl, rfl⟩
/-- Nobody far is close: the slots around serve. -/
theorem cand_around {bs : List Bx} {pts : List Pt} {n : ByteArray} {k : K3} : Cand bs pts n k ↔ ∃ j, j < bs.length ∧ ∃ p ∈ aroundOf pts (bs.getD j Bx.nil), p.2.s = n ∧ closeB (bs.getD j Bx.nil) (bxOf p) = true ∧ k = candAt bs p j := by
  unfold Cand
  constructor
  · rintro ⟨j, hj, p, hp, hn, hc, e⟩
    exact ⟨j, hj, p, mem_aroundOf.2 ⟨hp, mem_around.2 (close_near hc)⟩, hn, hc, e⟩
  · rintro ⟨j, hj, p, hp, hn, hc, e⟩
    exact ⟨j, hj, p, (mem_aroundOf.1 hp).1, hn, hc, e⟩
end Go.Proofs.YtpdcgjkfilohcabGreat

namespace Go.Proofs.YtpdcgjkfilohcabGreat
open Go.RowKit Go.Sort Go.Maps
set_option linter.unusedSimpArgs false
set_option linter.unusedVariables false

/-! The map of the first clash with each name. -/

def clV (tn s : ByteArray) (k : K3) : Value := .agg (k3V tn s k)
def clZ : Value := .agg #[.string ⟨#[]⟩, .string ⟨#[]⟩, .int .i64 0, .int .i64 0, .int .i64 0]
def skl (s : ByteArray) : Lit := .string s.data.toList
/-- What the map holds: the first clash with each name that has one. -/
def Firsts (P : Program) (K : TypeId) (b n : Nat) (w : World) (tn : ByteArray) (f : ByteArray → Option K3) : Prop :=
  ∃ D, w.ownsMap P K tok b n D ∧ ∀ s : ByteArray, s.size ≤ maxLen → ∀ z, D.atKey (skl s) z = match f s with | some k => .held (clV tn s k) | none => z
section
variable {P : Program} {K t E : TypeId} {b n : Nat} {w : World} {tn : ByteArray} {f : ByteArray → Option K3}
theorem Firsts.made (w : World) (P : Program) (K : TypeId) (tn : ByteArray) : Firsts P K w.heap.size 0 (w.alloc (.map #[] 0)) tn (fun _ => none) := ⟨_, World.ownsMap_made w P K tok, fun s _ z => rfl⟩
theorem Firsts.gr {w' : World} (h : Firsts P K b n w tn f) (hg : Gr w w') : Firsts P K b n w' tn f := by
  obtain ⟨D, h1, h2⟩ := h
  exact ⟨D, h1.kept (row := none) ⟨hg.os, hg.tape, hg.output, hg.size, fun k hk _ => hg.block k hk⟩ (by simp), h2⟩
theorem Firsts.look (h : Firsts P K b n w tn f) (hK : P.underlying K = some .string) (ht : P.underlying t = some (.map K E)) (hz : (zeroValue E).run P w = .ok clZ w) {s : ByteArray} (hs : s.size ≤ maxLen) :
    (Instr.lookup t (.map (some b)) (.string s) true).run P w = .ok (.tuple #[(match f s with | some k => clV tn s k | none => clZ), .bool (f s).isSome]) w := by
  obtain ⟨D, h1, h2⟩ := h
  obtain ⟨es, clock, hb, F, hl, rfl⟩ := h1
  have hk := h2 s hs
  rcases Maps.fit_look true (string_keyed hK) ht hz hb F (Go.WideMaps.keyOf_string_mk hK hs) with ⟨hr, -, hat⟩ | ⟨e0, y, -, -, hr, hy, hat, -⟩
  · cases e : f s with
    | none => simpa [e] using hr
    | some k =>
      have h3 := hk (.held (.bool true))
      rw [e, show skl s = .string s.data.toList from rfl, hat] at h3
      cases h3
  · have h5 : y.1 = .held e0.val := by
      simp only [tok, Option.some.injEq] at hy
      rw [← hy]
    cases e : f s with
    | none =>
      have h3 := hk (.held (.bool true))
      have h4 := hk (.held (.bool false))
      rw [e, show skl s = .string s.data.toList from rfl, hat] at h3 h4
      rw [h3] at h4
      cases h4
    | some k =>
      have h3 := hk (.held (.bool true))
      rw [e, show skl s = .string s.data.toList from rfl, hat, h5] at h3
      injection h3 with h3
      simpa [e, h3] using hr
theorem Firsts.put (h : Firsts P K b n w tn f) (hK : P.underlying K = some .string) (ht : P.underlying t = some (.map K E)) (hn : n < maxLen) {s : ByteArray} (hs : s.size ≤ maxLen) (k : K3) :
    ∃ w', (Instr.mapUpdate t (.map (some b)) (.string s) (clV tn s k)).run P w = .ok () w' ∧ Firsts P K b (n + 1) w' tn (fun s' => if s' = s then some k else f s') ∧ w.grownBy w' (some b) := by
  obtain ⟨D, h1, h2⟩ := h
  obtain ⟨w', hr, hD, hg⟩ := h1.update (val := clV tn s k) (d := .held (clV tn s k)) (ps := []) (string_keyed hK) ht hn (Go.WideMaps.keyOf_string_mk hK hs) rfl
  refine ⟨w', hr, ⟨_, hD, fun s' hs' z => ?_⟩, hg⟩
  obtain ⟨es, clock, hb, F, hl, rfl⟩ := h1
  by_cases e : s' = s
  · subst e
    rw [show skl s' = .string s'.data.toList from rfl, atKey_put_same ⟨_, rfl⟩ ((string_keyed hK).key (Go.WideMaps.keyOf_string_mk hK hs))]
    simp
  · have hne : skl s' ≠ .string s.data.toList := fun h9 => e (by
      unfold skl at h9
      injection h9 with h9
      exact ByteArray.ext (Array.toList_inj.mp h9))
    rw [atKey_put_other hne, h2 s' hs' z]
    simp [e]
end
end Go.Proofs.YtpdcgjkfilohcabGreat

namespace Go.Proofs.YtpdcgjkfilohcabGreat
open Go.RowKit Go.Sort Go.Maps
attribute [local go_sem ↓] Go.wp_at_zero Go.wp_at_succ
set_option linter.unusedSimpArgs false
set_option linter.unusedVariables false

/-! A clash is taken where it is the first with its name. -/

theorem Firsts.more {P : Program} {K : TypeId} {b n : Nat} {w : World} {tn : ByteArray} {f g : ByteArray → Option K3} (h : Firsts P K b n w tn f) (e : ∀ s, g s = f s) : Firsts P K b (n + 1) w tn g := by
  obtain ⟨D, ⟨es, clock, hb, F, hl, rfl⟩, h2⟩ := h
  exact ⟨_, ⟨es, clock, hb, F, by omega, rfl⟩, fun s hs z => by rw [e s]; exact h2 s hs z⟩
theorem Tryz.zeroClash (w : World) : (zeroValue 61).run Tryz.prog w = .ok clZ w := by kernel_rfl
theorem gr_map {a w w' : World} {b : Nat} (h : Gr a w) (hg : w.grownBy w' (some b)) (hb : a.heap.size ≤ b) : Gr a w' := Below.grown h hg h.size (fun z hz => by cases hz; exact hb)
theorem grown_gr {a w w' : World} {r : Option Nat} (g : Gr a w) (hg : w.grownBy w' r) : a.grownBy w' r := ⟨hg.os.trans g.os, hg.tape.trans g.tape, hg.output.trans g.output, Nat.le_trans g.size hg.size, fun j hj hne => (hg.block j (Nat.lt_of_lt_of_le hj g.size) hne).trans (g.block j hj)⟩
theorem gr_grown {a w : World} (r : Option Nat) (g : Gr a w) : a.grownBy w r := ⟨g.os, g.tape, g.output, g.size, fun j hj _ => g.block j hj⟩

set_option maxHeartbeats 1000000 in
theorem take_any (tn s : ByteArray) (k : K3) (b n : Nat) (w : World) (f : ByteArray → Option K3) (h : Firsts Tryz.prog 9 b n w tn f) (hs : s.size ≤ maxLen) (hn : n < maxLen) :
    Calls Tryz.prog 61 #[.map (some b), .agg #[.string tn, .string s, .int .i64 k.1, .int .i64 k.2.1, .int .i64 k.2.2]] w fun e w' => e = .returned (.tuple #[]) ∧ Firsts Tryz.prog 9 b (n + 1) w' tn (fun s' => if s' = s then pick (f s) k else f s') ∧ w.grownBy w' (some b) := by
  have hL := (h.gr ((Gr.refl w).alloc (.cells #[.string tn, .string s, .int .i64 k.1, .int .i64 k.2.1, .int .i64 k.2.2] 61))).look Tryz.underlying9 Tryz.underlying98 (Tryz.zeroClash _) hs
  have HH := hidE h
  cases hf : f s with
  | none =>
    rw [hf] at hL
    have hL2 : (Instr.lookup 98 (.map (some b)) (.string s) true).run Tryz.prog (w.alloc (.cells #[.string tn, .string s, .int .i64 k.1, .int .i64 k.2.1, .int .i64 k.2.2] 61)) = .ok (.tuple #[.agg #[.string ⟨#[]⟩, .string ⟨#[]⟩, .int .i64 0, .int .i64 0, .int .i64 0], .bool false]) (w.alloc (.cells #[.string tn, .string s, .int .i64 k.1, .int .i64 k.2.1, .int .i64 k.2.2] 61)) := hL
    obtain ⟨w3, hr, hF, hg⟩ := ((h.gr (((Gr.refl w).alloc (.cells #[.string tn, .string s, .int .i64 k.1, .int .i64 k.2.1, .int .i64 k.2.2] 61)).alloc (.cells #[.string ⟨#[]⟩, .string ⟨#[]⟩, .int .i64 0, .int .i64 0, .int .i64 0] 61))).put Tryz.underlying9 Tryz.underlying98 hn hs k)
    have hr2 : (Instr.mapUpdate 98 (.map (some b)) (.string s) (.agg #[.string tn, .string s, .int .i64 k.1, .int .i64 k.2.1, .int .i64 k.2.2])).run Tryz.prog ((w.alloc (.cells #[.string tn, .string s, .int .i64 k.1, .int .i64 k.2.1, .int .i64 k.2.2] 61)).alloc (.cells #[.string ⟨#[]⟩, .string ⟨#[]⟩, .int .i64 0, .int .i64 0, .int .i64 0] 61)) = .ok () w3 := hr
    have HF := hidE hF
    have HG := hidE hg
    clear hL hr hF hg h hf
    go_enter Tryz.func61, Tryz.ntmps61
    go_wp2
    go_end0
    exact ⟨rfl, HF.out, grown_gr (((Gr.refl w).alloc _).alloc _) HG.out⟩
  | some kb =>
    rw [hf] at hL
    have hL2 : (Instr.lookup 98 (.map (some b)) (.string s) true).run Tryz.prog (w.alloc (.cells #[.string tn, .string s, .int .i64 k.1, .int .i64 k.2.1, .int .i64 k.2.2] 61)) = .ok (.tuple #[.agg #[.string tn, .string s, .int .i64 kb.1, .int .i64 kb.2.1, .int .i64 kb.2.2], .bool true]) (w.alloc (.cells #[.string tn, .string s, .int .i64 k.1, .int .i64 k.2.1, .int .i64 k.2.2] 61)) := hL
    have HC := hidE (cmpC_any tn s tn s k kb ((w.alloc (.cells #[.string tn, .string s, .int .i64 k.1, .int .i64 k.2.1, .int .i64 k.2.2] 61)).alloc (.cells #[.string tn, .string s, .int .i64 kb.1, .int .i64 kb.2.1, .int .i64 kb.2.2] 61)))
    have HCL := hidE (cmpC_lt k kb)
    have HFS := hidE hf
    clear hL h hf
    generalize cmpC k kb = cc at *
    cases hlt : k3Lt k kb
    · have hcc : decide (cc < 0) = false := HCL.out.trans hlt
      have HP : Hid (pick (some kb) k = some kb) := by show _ = _; simp [pick, hlt]
      clear hlt HCL
      go_enter Tryz.func61, Tryz.ntmps61
      go_wp2_with fail
      (with_reducible refine Calls.mono HC.out ?_)
      rintro e w3 ⟨rfl, g3⟩
      have HG := hidE ((((Gr.refl w).alloc (.cells #[.string tn, .string s, .int .i64 k.1, .int .i64 k.2.1, .int .i64 k.2.2] 61)).alloc (.cells #[.string tn, .string s, .int .i64 kb.1, .int .i64 kb.2.1, .int .i64 kb.2.2] 61)).trans g3.gr)
      clear g3
      go_wp2
      go_end0
      exact ⟨rfl, (HH.out.gr HG.out).more (fun s' => by by_cases e : s' = s <;> simp [e, HP.out, HFS.out]), gr_grown _ HG.out⟩
    · have hcc : decide (cc < 0) = true := HCL.out.trans hlt
      have HP : Hid (pick (some kb) k = some k) := by show _ = _; simp [pick, hlt]
      clear hlt HCL
      go_enter Tryz.func61, Tryz.ntmps61
      go_wp2_with fail
      (with_reducible refine Calls.mono HC.out ?_)
      rintro e w3 ⟨rfl, g3⟩
      have HG := hidE ((((Gr.refl w).alloc (.cells #[.string tn, .string s, .int .i64 k.1, .int .i64 k.2.1, .int .i64 k.2.2] 61)).alloc (.cells #[.string tn, .string s, .int .i64 kb.1, .int .i64 kb.2.1, .int .i64 kb.2.2] 61)).trans g3.gr)
      obtain ⟨hc, -⟩ := g3.gr.cells
      have a0 : w3.cell? ⟨w.heap.size, 0, none⟩ = some (.string tn) := (hc _ _ (by simp; omega)).trans ((cell_old (by simp)).trans ((cell_new (by simp)).trans rfl))
      have a1 : w3.cell? ⟨w.heap.size, 1, none⟩ = some (.string s) := (hc _ _ (by simp; omega)).trans ((cell_old (by simp)).trans ((cell_new (by simp)).trans rfl))
      have a2 : w3.cell? ⟨w.heap.size, 2, none⟩ = some (.int .i64 k.1) := (hc _ _ (by simp; omega)).trans ((cell_old (by simp)).trans ((cell_new (by simp)).trans rfl))
      have a3 : w3.cell? ⟨w.heap.size, 3, none⟩ = some (.int .i64 k.2.1) := (hc _ _ (by simp; omega)).trans ((cell_old (by simp)).trans ((cell_new (by simp)).trans rfl))
      have a4 : w3.cell? ⟨w.heap.size, 4, none⟩ = some (.int .i64 k.2.2) := (hc _ _ (by simp; omega)).trans ((cell_old (by simp)).trans ((cell_new (by simp)).trans rfl))
      obtain ⟨w4, hr, hF, hg⟩ := ((HH.out.gr HG.out).put Tryz.underlying9 Tryz.underlying98 hn hs k)
      have hr2 : (Instr.mapUpdate 98 (.map (some b)) (.string s) (.agg #[.string tn, .string s, .int .i64 k.1, .int .i64 k.2.1, .int .i64 k.2.2])).run Tryz.prog w3 = .ok () w4 := hr
      have HF := hidE hF
      have HG4 := hidE hg
      clear g3 hc hr hF hg
      go_wp2
      go_end0
      exact ⟨rfl, by simpa only [HFS.out, HP.out] using HF.out, grown_gr HG.out HG4.out⟩
end Go.Proofs.YtpdcgjkfilohcabGreat

namespace Go.Proofs.YtpdcgjkfilohcabGreat
open Go.RowKit Go.Sort Go.Maps
attribute [local go_sem ↓] Go.wp_at_zero Go.wp_at_succ
set_option linter.unusedSimpArgs false
set_option linter.unusedVariables false

/-! The first clashes, told by names: under what maps.Keys and slices.Sorted answer. -/

theorem Firsts.kept {P : Program} {K : TypeId} {b n : Nat} {w w' : World} {tn : ByteArray} {f : ByteArray → Option K3} {r : Option Nat} (h : Firsts P K b n w tn f) (hg : w.grownBy w' r) (hr : some b ≠ r) : Firsts P K b n w' tn f := by
  obtain ⟨D, h1, h2⟩ := h
  exact ⟨D, h1.kept hg hr, h2⟩
theorem Firsts.apart {P : Program} {K e : TypeId} {b n lo size m : Nat} {w : World} {tn : ByteArray} {f : ByteArray → Option K3} {v : Value} {xs : List Value} (h : Firsts P K b n w tn f) (hr : w.ownsRow lo e size v m xs) : some b ≠ v.ownBlock := by
  intro e1
  obtain ⟨D, h1, -⟩ := h
  obtain ⟨es, c, hm⟩ := map_block h1
  obtain ⟨-, -, cur, hc⟩ := row_block hr e1.symm
  rw [hm] at hc
  cases hc
theorem Firsts.get {P : Program} {K t E : TypeId} {b n : Nat} {w : World} {tn : ByteArray} {f : ByteArray → Option K3} (h : Firsts P K b n w tn f) (hK : P.underlying K = some .string) (ht : P.underlying t = some (.map K E)) (hz : (zeroValue E).run P w = .ok clZ w) {s : ByteArray} (hs : s.size ≤ maxLen) {k : K3} (hk : f s = some k) :
    (Instr.lookup t (.map (some b)) (.string s) false).run P w = .ok (.agg #[.string tn, .string s, .int .i64 k.1, .int .i64 k.2.1, .int .i64 k.2.2]) w := by
  obtain ⟨D, h1, h2⟩ := h
  obtain ⟨v, ps, hr, hv⟩ := h1.lookup (string_keyed hK) ht hz (zd := .held clZ) (zp := []) rfl (Go.WideMaps.keyOf_string_mk hK hs)
  rw [show (Lit.string s.data.toList) = skl s from rfl, h2 s hs, hk] at hv
  simp only [tok, Option.some.injEq, Prod.mk.injEq, DataW.held.injEq] at hv
  rw [hr, hv.1]
  rfl
def toldF (f : ByteArray → Option K3) (s : ByteArray) : ByteArray × K3 := (s, (f s).getD (0, 0, 0))

set_option maxHeartbeats 2000000 in
theorem clashes_of (tn : ByteArray) (b n : Nat) (w : World) (f : ByteArray → Option K3) (ns : List ByteArray) (h : Firsts Tryz.prog 9 b n w tn f) (hns : ∀ s ∈ ns, s.size ≤ maxLen ∧ (f s).isSome = true) (hl : ns.length ≤ 1048576)
    (hK : Calls Tryz.prog 107 #[.map (some b)] w fun e w' => e = .returned (.func (.func 150) #[] #[.pointer (some ⟨w.heap.size, 0, none⟩)]) ∧ w' = w.alloc (.cells #[.map (some b)] 98))
    (hS : Calls Tryz.prog 106 #[.func (.func 150) #[] #[.pointer (some ⟨w.heap.size, 0, none⟩)]] (w.alloc (.cells #[.map (some b)] 98)) fun e w' => (∃ v, e = .returned v ∧ w'.ownsRow (w.heap.size + 1) 9 1 v ns.length (strs ns)) ∧ Gr (w.alloc (.cells #[.map (some b)] 98)) w') :
    Calls Tryz.prog 62 #[.map (some b)] w fun e w' => (∃ rv, e = .returned rv ∧ w'.ownsRow w.heap.size 61 5 rv ns.length ((ns.map (toldF f)).flatMap (encA tn))) ∧ Gr w w' := by
  obtain ⟨i0, hi, hz0, hz1, hz2⟩ := info_parts Tryz.info61
  have HK := hidE hK
  have HS := hidE hS
  have HH := hidE h
  have HNS := hidE hns
  clear hK hS h hns
  go_enter Tryz.func62, Tryz.ntmps62
  go_wp2_with fail
  (with_reducible refine Calls.mono HK.out ?_)
  rintro e w1 ⟨rfl, rfl⟩
  go_wp2_with fail
  (with_reducible refine Calls.mono HS.out ?_)
  rintro e w2 ⟨⟨v, rfl, hN⟩, g2⟩
  obtain ⟨an, cn, e⟩ := row_form hN
  subst e
  have HN := hidE hN
  have HG := hidE (((Gr.refl w).alloc (.cells #[.map (some b)] 98)).trans g2)
  have HF := hidE (HH.out.gr HG.out)
  have HO : Hid (w2.ownsRow w.heap.size 61 5 (.slice none 0 0) 0 []) := World.ownsRow_nil _ _ _ _
  clear hN g2 HK HS
  go_wp2
  go_loopw [3, 10] (fun vo nn wr => ∃ (i c : Nat) (a : Option Addr), i ≤ ns.length ∧ nn = .int .i64 i ∧ vo = .slice a i c ∧ Hid (wr.ownsRow w.heap.size 61 5 (.slice a i c) i (((ns.take i).map (toldF f)).flatMap (encA tn))) ∧ Hid (wr.ownsRow (w.heap.size + 1) 9 1 (.slice an ns.length cn) ns.length (strs ns)) ∧ Hid (Firsts Tryz.prog 9 b n wr tn f) ∧ Gr w wr) (fun _ nn _ => ns.length - (intOf nn).toNat)
  case atStart => exact ⟨0, 0, none, Nat.zero_le _, rfl, rfl, HO, HN, HF, HG.out⟩
  case round =>
    clear HO HN HF HG
    obtain ⟨i, c, a, hil, rfl, rfl, HO, HN, HF, gr⟩ := hrel
    by_cases hin : i < ns.length
    · obtain ⟨s, hsn⟩ : ∃ s, ns[i]? = some s := ⟨_, List.getElem?_eq_getElem hin⟩
      obtain ⟨gN, cN, eN⟩ := row_some HN.out (by omega)
      simp only [Value.slice.injEq, true_and] at eN
      obtain ⟨rfl, rfl⟩ := eN
      obtain ⟨hs, hfs⟩ := HNS.out s (List.mem_of_getElem? hsn)
      obtain ⟨k, hk⟩ := Option.isSome_iff_exists.1 hfs
      have n0 := strs_cell HN.out rfl hsn
      have hL := HF.out.get Tryz.underlying9 Tryz.underlying98 (Tryz.zeroClash _) hs hk
      have HTS : Hid (((ns.take (i + 1)).map (toldF f)).flatMap (encA tn) = ((ns.take i).map (toldF f)).flatMap (encA tn) ++ [.string tn, .string s, .int .i64 k.1, .int .i64 k.2.1, .int .i64 k.2.2]) := by
        show _ = _
        rw [List.take_add_one, hsn]
        simp [toldF, hk, encA]
      have hi0 : (0 : Int) ≤ (i : Int) := by omega
      have hi1 : (i : Int) < (ns.length : Int) := by omega
      have hsz := gr.size
      clear hfs hk hsn
      obtain ⟨wR, hR⟩ : ∃ x, x = wr := ⟨_, rfl⟩
      subst hR
      go_wp2_with (at_builtin; refine wpList_append_own _ rfl (.tmp 14) (.tmp 18) 24 rfl w.heap.size 61 i0 _ 5 56 Tryz.underlying24 hi hz0 hz1 hz2 rfl (by decide) _ _ _ rfl (HO.out.alloc _) ⟨wR.heap.size, 0, none⟩ 1 1 [.string tn, .string s, .int .i64 k.1, .int .i64 k.2.1, .int .i64 k.2.2] rfl rfl (by exact news_cells wR _ rfl [.string tn, .string s, .int .i64 k.1, .int .i64 k.2.1, .int .i64 k.2.2] _) (by simp [Value.oneCell']) (by unfold maxLen; omega) (by omega) (by simp; omega) ?_; intro v' w5 hown' hgrow hnil)
      have HN5 := hidE (row_stays (HN.out.alloc (.cells #[.string tn, .string s, .int .i64 k.1, .int .i64 k.2.1, .int .i64 k.2.2] 61)) hgrow (fun g hg e => rows_apart (HO.out.alloc (.cells #[.string tn, .string s, .int .i64 k.1, .int .i64 k.2.1, .int .i64 k.2.2] 61)) (HN.out.alloc (.cells #[.string tn, .string s, .int .i64 k.1, .int .i64 k.2.1, .int .i64 k.2.2] 61)) (by decide) e.symm hg rfl))
      have HF5 := hidE ((HF.out.gr ((Gr.refl _).alloc (.cells #[.string tn, .string s, .int .i64 k.1, .int .i64 k.2.1, .int .i64 k.2.2] 61))).kept hgrow ((HF.out.gr ((Gr.refl _).alloc (.cells #[.string tn, .string s, .int .i64 k.1, .int .i64 k.2.1, .int .i64 k.2.2] 61))).apart (HO.out.alloc (.cells #[.string tn, .string s, .int .i64 k.1, .int .i64 k.2.1, .int .i64 k.2.2] 61))))
      have HG5 : Hid (Gr w w5) := Below.grown (gr.alloc (.cells #[.string tn, .string s, .int .i64 k.1, .int .i64 k.2.1, .int .i64 k.2.2] 61)) hgrow (by simp; omega) (fun z hz => (row_block (HO.out.alloc (.cells #[.string tn, .string s, .int .i64 k.1, .int .i64 k.2.1, .int .i64 k.2.2] 61)) hz).1)
      obtain ⟨a5, c5, e5⟩ := row_form hown'
      subst e5
      have HO5 : Hid (w5.ownsRow w.heap.size 61 5 (.slice a5 (i + 1) c5) (i + 1) (((ns.take (i + 1)).map (toldF f)).flatMap (encA tn))) := by
        show World.ownsRow _ _ _ _ _ _ _
        rw [HTS.out]
        exact hown'
      clear hown' hgrow hnil
      go_wp2
      go_roundw
      case rel => exact ⟨i + 1, c5, a5, by omega, by go_num, rfl, HO5, HN5, HF5, HG5.out⟩
      case measure => simp [intOf]; omega
    · have hd : decide (i < ns.length) = false := by simpa using hin
      have e : i = ns.length := by omega
      have HO9 : Hid (wr.ownsRow w.heap.size 61 5 (.slice a i c) ns.length ((ns.map (toldF f)).flatMap (encA tn))) := by
        show World.ownsRow _ _ _ _ _ _ _
        have h9 := HO.out
        rw [List.take_of_length_le (by omega)] at h9
        rw [← e]
        exact h9
      clear e hin HO
      go_wp2
      go_ret
      exact ⟨⟨_, rfl, HO9.out⟩, gr⟩
end Go.Proofs.YtpdcgjkfilohcabGreat

namespace Go.Proofs.YtpdcgjkfilohcabGreat
open Go.RowKit Go.Sort Go.Maps
set_option linter.unusedSimpArgs false
set_option linter.unusedVariables false

/-! What the program tells is what is asked. -/

theorem ans_firsts {bs : List Bx} {pts : List Pt} {tn : ByteArray} {f : ByteArray → Option K3} {ns : List ByteArray} (hf : ∀ n, n ≠ tn → First (Cand bs pts n) (f n)) (ht : f tn = none) (hp : ns.Pairwise fun a b => nmLt a b = true) (hm : ∀ s, s ∈ ns ↔ (f s).isSome = true) : AnsIs bs pts tn (ns.map (toldF f)) := by
  refine ⟨List.Pairwise.map _ (fun a b h => h) hp, fun n k => ?_⟩
  rw [List.mem_map]
  constructor
  · rintro ⟨s, hs, e⟩
    unfold toldF at e
    simp only [Prod.mk.injEq] at e
    obtain ⟨rfl, e⟩ := e
    obtain ⟨k', hk'⟩ := Option.isSome_iff_exists.1 ((hm s).1 hs)
    rw [hk', Option.getD_some] at e
    subst e
    have hne : s ≠ tn := fun e => by rw [e, ht] at hk'; cases hk'
    exact ⟨hne, hk' ▸ hf s hne⟩
  · rintro ⟨hne, hF⟩
    have e := first_one (hf n hne) hF
    exact ⟨n, (hm n).2 (by rw [e]; rfl), by simp [toldF, e]⟩
/-- The first clashes so far: of some of the pairs. -/
def SoFar (bs : List Bx) (tn : ByteArray) (Q : Nat → Pt → Prop) (f : ByteArray → Option K3) : Prop := f tn = none ∧ ∀ n, n ≠ tn → First (fun k => ∃ j p, Q j p ∧ p.2.s = n ∧ closeB (bs.getD j Bx.nil) (bxOf p) = true ∧ k = candAt bs p j) (f n)
theorem soFar_none (bs : List Bx) (tn : ByteArray) : SoFar bs tn (fun _ _ => False) (fun _ => none) := ⟨rfl, fun n _ k ⟨j, p, h, _⟩ => h⟩
theorem soFar_congr {bs : List Bx} {tn : ByteArray} {Q R : Nat → Pt → Prop} {f : ByteArray → Option K3} (h : SoFar bs tn Q f) (e : ∀ j p, Q j p ↔ R j p) : SoFar bs tn R f := ⟨h.1, fun n hn => first_congr (fun k => by simp only [e]) (h.2 n hn)⟩
/-- A pair that is not close, or of the tube's own name. -/
theorem soFar_skip {bs : List Bx} {tn : ByteArray} {Q : Nat → Pt → Prop} {f : ByteArray → Option K3} (h : SoFar bs tn Q f) {j : Nat} {p : Pt} (hs : closeB (bs.getD j Bx.nil) (bxOf p) = false ∨ p.2.s = tn) : SoFar bs tn (fun j' p' => Q j' p' ∨ (j' = j ∧ p' = p)) f := by
  refine ⟨h.1, fun n hn => first_congr (fun k => ?_) (h.2 n hn)⟩
  constructor
  · rintro ⟨j', p', hq, r⟩
    exact ⟨j', p', Or.inl hq, r⟩
  · rintro ⟨j', p', hq | ⟨rfl, rfl⟩, e1, e2, e3⟩
    · exact ⟨j', p', hq, e1, e2, e3⟩
    · rcases hs with hs | hs
      · rw [hs] at e2
        cases e2
      · exact absurd (e1.symm.trans hs) hn
/-- A pair that is close. -/
theorem soFar_take {bs : List Bx} {tn : ByteArray} {Q : Nat → Pt → Prop} {f : ByteArray → Option K3} (h : SoFar bs tn Q f) {j : Nat} {p : Pt} (hc : closeB (bs.getD j Bx.nil) (bxOf p) = true) (hs : p.2.s ≠ tn) : SoFar bs tn (fun j' p' => Q j' p' ∨ (j' = j ∧ p' = p)) (fun s' => if s' = p.2.s then pick (f p.2.s) (candAt bs p j) else f s') := by
  refine ⟨by simp [fun e => hs (Eq.symm e), h.1, show ¬ tn = p.2.s from fun e => hs e.symm], fun n hn => ?_⟩
  by_cases e : n = p.2.s
  · subst e
    simp only [if_true]
    refine first_congr (fun k => ?_) (first_step (h.2 p.2.s hn) (candAt bs p j))
    constructor
    · rintro (⟨j', p', hq, r⟩ | rfl)
      · exact ⟨j', p', Or.inl hq, r⟩
      · exact ⟨j, p, Or.inr ⟨rfl, rfl⟩, rfl, hc, rfl⟩
    · rintro ⟨j', p', hq | ⟨rfl, rfl⟩, e1, e2, e3⟩
      · exact Or.inl ⟨j', p', hq, e1, e2, e3⟩
      · exact Or.inr e3
  · simp only [if_neg e]
    refine first_congr (fun k => ?_) (h.2 n hn)
    constructor
    · rintro ⟨j', p', hq, r⟩
      exact ⟨j', p', Or.inl hq, r⟩
    · rintro ⟨j', p', hq | ⟨rfl, rfl⟩, e1, e2, e3⟩
      · exact ⟨j', p', hq, e1, e2, e3⟩
      · exact absurd e1.symm e
/-- All pairs around have been seen. -/
theorem soFar_all {bs : List Bx} {tn : ByteArray} {pts : List Pt} {f : ByteArray → Option K3} (h : SoFar bs tn (fun j p => j < bs.length ∧ p ∈ aroundOf pts (bs.getD j Bx.nil)) f) : ∀ n, n ≠ tn → First (Cand bs pts n) (f n) := fun n hn => by
  refine first_congr (fun k => ?_) (h.2 n hn)
  rw [cand_around]
  constructor
  · rintro ⟨j, p, ⟨hj, hp⟩, r⟩
    exact ⟨j, hj, p, hp, r⟩
  · rintro ⟨j, hj, p, hp, r⟩
    exact ⟨j, p, ⟨hj, hp⟩, r⟩
end Go.Proofs.YtpdcgjkfilohcabGreat

namespace Go.Proofs.YtpdcgjkfilohcabGreat
open Go.RowKit Go.Sort Go.Maps
attribute [local go_sem ↓] Go.wp_at_zero Go.wp_at_succ
set_option linter.unusedSimpArgs false
set_option linter.unusedVariables false

/-! The iterator over the slots around a box: how it is made. -/

theorem around_any (m : Option Nat) (b : Bx) (w : World) : Calls Tryz.prog 58 #[.map m, .agg #[.int .i64 b.x, .int .i64 b.y, .int .i64 b.l, .int .i64 b.h, .int .i64 b.i, .int .i64 b.o]] w fun e w' => e = .returned (.func (.func 97) #[] #[.pointer (some ⟨w.heap.size + 1, 0, none⟩), .pointer (some ⟨w.heap.size, 0, none⟩)]) ∧ w' = (w.alloc (.cells #[.map m] 79)).alloc (.cells #[.int .i64 b.x, .int .i64 b.y, .int .i64 b.l, .int .i64 b.h, .int .i64 b.i, .int .i64 b.o] 77) := by
  go_enter Tryz.func58, Tryz.ntmps58
  go_wp2
  go_ret
  exact ⟨rfl, rfl⟩
end Go.Proofs.YtpdcgjkfilohcabGreat
