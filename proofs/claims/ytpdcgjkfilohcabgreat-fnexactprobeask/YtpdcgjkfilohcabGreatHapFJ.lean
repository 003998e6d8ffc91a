import Derived.Test.YtpdcgjkfilohcabGreatHapAE
import Derived.Deep.CutRange
import Derived.Lib.Bytealg
import Derived.Deep.DeepAppendRoom
import Derived.Deep.RegionLaw
import Derived.Laws.CopyRow
import Derived.Lib.AppendZerosOnto
import Derived.Lib.AppendZeros
import Derived.Lib.Overlaps
namespace Go.Proofs.YtpdcgjkfilohcabGreat
open Go.RowKit
attribute [local go_sem ↓] Go.wp_at_zero Go.wp_at_succ

theorem sky_tiny {ts : List Tb} (h : skyB ts = true) : ts.length ≤ 24 ∧ (∀ t ∈ ts, t.bs.length ≤ 40 ∧ tubeB t.s t.bs = true) ∧ ascTo ts ts.length = true := by
  simp only [skyB, Bool.and_eq_true, decide_eq_true_eq] at h
  refine ⟨h.1.1, fun t ht => ?_, h.2⟩
  obtain ⟨k, hk, rfl⟩ := List.mem_iff_getElem.1 ht
  have h1 := h.1.2
  rw [okTo, List.all_eq_true] at h1
  have h2 := h1 k (List.mem_range.2 hk)
  have e : ts.getD k Tb.nil = ts[k] := by rw [List.getD_eq_getElem?_getD, List.getElem?_eq_getElem hk]; rfl
  unfold tubeAt nm bx at h2
  rw [e] at h2
  refine ⟨?_, h2⟩
  simp only [tubeB, Bool.and_eq_true, decide_eq_true_eq] at h2
  exact h2.1.2
theorem less_place {ts : List Tb} {s : ByteArray} {p k : Nat} (h : PlaceIs ts s p) (hk : k < ts.length) : lessN ts s k = decide (k < p) := by
  by_cases hkp : k < p
  · rw [h.2.1 k hkp]; simp [hkp]
  · rw [h.2.2 k (by omega) hk]; simp [hkp]
/-- A round of the specification's loop. -/
theorem out_step {ts : List Tb} {s : ByteArray} {p k : Nat} {drop : Bool} (t : Tb) (hP : PlaceIs ts s p) (hk : k < ts.length) (hd : drop = true → there ts s p = true) (i : Int) (hi : i = if there ts s p then (p : Int) else -1) :
    outAt ts p (if there ts s p then 1 else 0) (if drop then [] else [t]) (k + 1) = outAt ts p (if there ts s p then 1 else 0) (if drop then [] else [t]) k ++ (if !(drop || decide (p < k)) && !lessN ts s k then [t] else []) ++ (if ((k : Int) != i) then [ts.getD k Tb.nil] else []) := by
  rw [less_place hP hk]
  subst hi
  rcases Nat.lt_trichotomy k p with hlt | rfl | hgt
  · have h1 : decide (k < p) = true := by simp [hlt]
    have h2 : ((k : Int) != if there ts s p then (p : Int) else -1) = true := by simp; split <;> omega
    rw [h1, h2, out_ahead hlt hP.1]
    simp
  · have h1 : decide (k < k) = false := by simp
    rw [h1]
    cases ht : there ts s k
    · have hdf : drop = false := by
        cases hdd : drop
        · rfl
        · have := hd hdd; rw [ht] at this; cases this
      subst hdf
      have h2 : ((k : Int) != -1) = true := by simp
      simp only [Bool.false_eq_true, if_false, h2, if_true, Bool.false_or, Bool.not_false, Bool.and_self]
      rw [out_in hk]
    · simp only [if_true, bne_self_eq_false, Bool.false_eq_true, if_false, List.append_nil, Bool.or_false, Bool.not_false, Bool.and_true]
      rw [out_skip]
      cases drop <;> simp
  · have h1 : decide (k < p) = false := by simp; omega
    have h3 : decide (p < k) = true := by simp [hgt]
    have h2 : ((k : Int) != if there ts s p then (p : Int) else -1) = true := by simp; split <;> omega
    rw [h1, h2, h3, out_behind hgt (by split <;> omega) hk]
    simp
theorem done_step {ts : List Tb} {s : ByteArray} {p k : Nat} (drop : Bool) (hP : PlaceIs ts s p) (hk : k < ts.length) : ((drop || decide (p < k)) || (!(drop || decide (p < k)) && !lessN ts s k)) = (drop || decide (p < k + 1)) := by
  rw [less_place hP hk]
  rcases Nat.lt_trichotomy k p with hlt | rfl | hgt
  · have h1 : decide (k < p) = true := by simp [hlt]
    have h2 : decide (p < k) = false := by simp; omega
    have h3 : decide (p < k + 1) = false := by simp; omega
    rw [h1, h2, h3]; cases drop <;> rfl
  · have h1 : decide (k < k) = false := by simp
    have h3 : decide (k < k + 1) = true := by simp
    rw [h1, h3]; cases drop <;> rfl
  · have h1 : decide (p < k) = true := by simp [hgt]
    have h3 : decide (p < k + 1) = true := by simp; omega
    rw [h1, h3]; cases drop <;> simp
theorem out_last {ts : List Tb} {s : ByteArray} {p : Nat} {drop : Bool} (t : Tb) (hP : PlaceIs ts s p) (hd : drop = true → there ts s p = true) :
    outAt ts p (if there ts s p then 1 else 0) (if drop then [] else [t]) ts.length ++ (if !(drop || decide (p < ts.length)) then [t] else []) = edit ts p (if there ts s p then 1 else 0) (if drop then [] else [t]) := by
  by_cases h : p < ts.length
  · have h1 : decide (p < ts.length) = true := by simp [h]
    rw [out_all h, h1]
    simp
  · have e : p = ts.length := by have := hP.1; omega
    have ht : there ts s p = false := by unfold there; simp [h]
    have hdf : drop = false := by
      cases hdd : drop
      · rfl
      · have := hd hdd; rw [ht] at this; cases this
    subst hdf
    rw [ht]
    subst e
    have h1 : decide (ts.length < ts.length) = false := by simp
    rw [h1]
    simp only [Bool.false_eq_true, if_false, Bool.or_self, Bool.not_false, if_true]
    exact out_end
theorem at_place {ts : List Tb} {s : ByteArray} {p : Nat} {i : Int} (ha : ascTo ts ts.length = true) (hP : PlaceIs ts s p) (h : (i = -1 ∧ ∀ k, k < ts.length → hasN ts s k = false) ∨ ∃ k : Nat, i = k ∧ k < ts.length ∧ hasN ts s k = true ∧ ∀ j, j < k → hasN ts s j = false) : i = if there ts s p then (p : Int) else -1 := by
  rcases h with ⟨rfl, hn⟩ | ⟨k, rfl, hk, hh, -⟩
  · have : there ts s p = false := by
      unfold there
      by_cases hp : p < ts.length
      · rw [hn p hp]; simp
      · simp [hp]
    rw [this]; rfl
  · have e := has_place ha hP hk hh
    subst e
    have : there ts s k = true := by unfold there; simp [hk, hh]
    rw [this]; rfl

theorem row_tubes {w : World} {base : Nat} {v : Value} {ts : List Tb} (h : w.ownsRow base 40 2 v ts.length (flatT ts)) (hb : ∀ t ∈ ts, Boxes w t.a t.bs) : ∃ a cap, v = .slice a ts.length cap ∧ Tubes w a ts := by
  obtain ⟨a, cap, e, -, h2⟩ := owns_tubes rfl h
  refine ⟨a, cap, e, fun k hk => ?_⟩
  obtain ⟨g, e1, hg, hx⟩ := h2 k hk
  exact ⟨g, 0, e1, hg, by rw [Nat.zero_add]; exact hx, hb _ (getD_mem hk)⟩
theorem tubes_boxes {w : World} {a : Option Addr} {ts : List Tb} (h : Tubes w a ts) {t : Tb} (ht : t ∈ ts) : Boxes w t.a t.bs := by
  obtain ⟨k, hk, rfl⟩ := List.mem_iff_getElem.1 ht
  have e : ts.getD k Tb.nil = ts[k] := by rw [List.getD_eq_getElem?_getD, List.getElem?_eq_getElem hk]; rfl
  obtain ⟨g, o, -, -, -, hb⟩ := h k hk
  rw [e] at hb
  exact hb

end Go.Proofs.YtpdcgjkfilohcabGreat

namespace Go.Proofs.YtpdcgjkfilohcabGreat
open Go.RowKit
attribute [local go_sem ↓] Go.wp_at_zero Go.wp_at_succ

theorem cmp_less : ∀ (a b : List UInt8), decide (Lib.compareBytes a b < 0) = Op.bytesLess a b
  | [], [] => by simp [Lib.compareBytes, Op.bytesLess]
  | [], _ :: _ => by simp [Lib.compareBytes, Op.bytesLess]
  | _ :: _, [] => by simp [Lib.compareBytes, Op.bytesLess]
  | x :: xs, y :: ys => by
    have ih := cmp_less xs ys
    unfold Lib.compareBytes Op.bytesLess
    by_cases h1 : x < y
    · simp [h1]
    · by_cases h2 : y < x
      · have : ¬ x = y := fun e => by subst e; exact h1 h2
        simp [h1, h2, this]
      · have : x = y := by
          rw [UInt8.lt_iff_toNat_lt] at h1 h2
          exact UInt8.toNat_inj.1 (by omega)
        subst this
        simp [h1, ih]
theorem cmp_zero : ∀ (a b : List UInt8), (Lib.compareBytes a b == 0) = (a == b)
  | [], [] => by simp [Lib.compareBytes]
  | [], _ :: _ => by simp [Lib.compareBytes]
  | _ :: _, [] => by simp [Lib.compareBytes]
  | x :: xs, y :: ys => by
    have ih := cmp_zero xs ys
    unfold Lib.compareBytes
    by_cases h1 : x < y
    · have : ¬ x = y := fun e => by subst e; rw [UInt8.lt_iff_toNat_lt] at h1; omega
      simp [h1, this]
    · by_cases h2 : y < x
      · have : ¬ x = y := fun e => by subst e; exact h1 h2
        simp [h1, h2, this]
      · have : x = y := by
          rw [UInt8.lt_iff_toNat_lt] at h1 h2
          exact UInt8.toNat_inj.1 (by omega)
        subst this
        simp [h1, ih]

end Go.Proofs.YtpdcgjkfilohcabGreat

namespace Go.Proofs.YtpdcgjkfilohcabGreat
open Go.RowKit
attribute [local go_sem ↓] Go.wp_at_zero Go.wp_at_succ

theorem step_append_spare {P : Program} {ops : Array Oper} {o : Oper} {a : Act} {w : World} {K : Act → World → Prop} {Q : Exit → Act → World → Prop} {E : Prop}
    (hg : o.guard = none) (s x : Operand) (t : TypeId) (hop : o.op = Op.call { callee := Callee.builtin Builtin.append, args := #[s, x], argTypes := #[t, t] })
    (base : Nat) (e : TypeId) (i : TypeInfo) (size : Nat) (h1 : P.underlying t = some (.slice e)) (h2 : P.info? e = some i) (h4 : i.size = size)
    (g n cap : Nat) (xs : List Value) (hs : a.eval s = .slice (some ⟨g, 0, none⟩) n cap) (hown : w.ownsRow base e size (.slice (some ⟨g, 0, none⟩) n cap) n xs)
    (ad : Addr) (m c : Nat) (news : List Value) (hx : a.eval x = .slice (some ad) m c) (hn : news.length = m * size) (hc : ∀ j u, news[j]? = some u → w.cell? (ad.add j) = some u) (h1c : ∀ u ∈ news, u.oneCell' = true)
    (hroom : n + m ≤ cap)
    (hK : ∀ w', w'.ownsRow base e size (.slice (some ⟨g, 0, none⟩) (n + m) cap) (n + m) (xs ++ news) → w.grownBy w' (some g) → K (a.put o.dst (.slice (some ⟨g, 0, none⟩) (n + m) cap)) w') :
    if Region.wanted o (yielded ops a.tmps) = true then Oper.wp P o a w K Q else E := by
  have hw : Region.wanted o (yielded ops a.tmps) = true := by simp [Region.wanted, hg]
  rw [if_pos hw]
  obtain ⟨w', hrun, r1, r2⟩ := run_append_own_spare (P := P) w base t o.type e i size h1 h2 h4 g n cap xs hown ad m c news hn hc h1c hroom
  unfold Oper.wp
  simp [execOp, hop, resolve, invoke, builtin, hs, hx, hrun, Result.andThen]
  exact hK w' r1 r2
/-- The first of a row. -/
theorem owns_take {w : World} {base e size g n cap : Nat} {xs : List Value} (h : w.ownsRow base e size (.slice (some ⟨g, 0, none⟩) n cap) n xs) (k : Nat) (hk : k ≤ n) : w.ownsRow base e size (.slice (some ⟨g, 0, none⟩) k cap) k (xs.take (k * size)) := by
  have h0 := h.1
  have hks : k * size ≤ n * size := Nat.mul_le_mul_right _ hk
  rcases h.2 with ⟨h', _⟩ | ⟨g', cap', cur, h', hb, hg, h1, h2, h3, h4⟩
  · cases h'
  · cases h'
    refine ⟨by rw [List.length_take]; omega, .inr ⟨g, cap, cur, rfl, hb, hg, by omega, h2, h3, ?_⟩⟩
    rw [← h4, List.take_take, Nat.min_eq_left hks]
theorem flatT_take (us : List Tb) (k : Nat) (hk : k ≤ us.length) : (flatT us).take (k * 2) = flatT (us.take k) := by
  conv => lhs; rw [← List.take_append_drop k us, flatT_app]
  rw [List.take_left' (by rw [flatT_len, List.length_take]; omega)]
theorem flatT_drop (us : List Tb) (k : Nat) (hk : k ≤ us.length) : (flatT us).drop (k * 2) = flatT (us.drop k) := by
  conv => lhs; rw [← List.take_append_drop k us, flatT_app]
  rw [List.drop_left' (by rw [flatT_len, List.length_take]; omega)]
theorem owns_open {w : World} {base e size g n cap : Nat} {xs : List Value} (h : w.ownsRow base e size (.slice (some ⟨g, 0, none⟩) n cap) n xs) : ∃ cur, w.heap[g]? = some (.cells cur e (0, 0)) ∧ base ≤ g ∧ n ≤ cap ∧ cap ≤ maxLen ∧ cur.size = cap * size ∧ cur.toList.take (n * size) = xs := by
  rcases h.2 with ⟨h', _⟩ | ⟨g', cap', cur, h', hb, hg, h1, h2, h3, h4⟩
  · cases h'
  · cases h'
    exact ⟨cur, hg, hb, h1, h2, h3, h4⟩
theorem owns_mk {w : World} {base e size g n cap : Nat} {cur : Array Value} (hg : w.heap[g]? = some (.cells cur e (0, 0))) (hb : base ≤ g) (hn : n ≤ cap) (hc : cap ≤ maxLen) (hs : cur.size = cap * size) : w.ownsRow base e size (.slice (some ⟨g, 0, none⟩) n cap) n (cur.toList.take (n * size)) := by
  have hks : n * size ≤ cap * size := Nat.mul_le_mul_right _ hn
  exact ⟨by rw [List.length_take]; simp; omega, .inr ⟨g, cap, cur, rfl, hb, hg, hn, hc, hs, rfl⟩⟩
theorem grown_setRow (w : World) (g : Nat) (cs : Array Value) : w.grownBy (w.setRow g cs) (some g) := ⟨rfl, rfl, rfl, by simp, fun k _ hne => setRow_other w g k cs (fun e => hne (by rw [e]))⟩
theorem grown_trans {a b c : World} {row : Option Nat} (h : a.grownBy b row) (k : b.grownBy c row) : a.grownBy c row :=
  ⟨k.os.trans h.os, k.tape.trans h.tape, k.output.trans h.output, Nat.le_trans h.size k.size, fun i hi hne => (k.block i (Nat.lt_of_lt_of_le hi h.size) hne).trans (h.block i hi hne)⟩
theorem grown_drew {w w' : World} {row : Option Nat} (h : w.drew.grownBy w' row) : w.grownBy w' row := ⟨h.os, h.tape, h.output, h.size, h.block⟩
theorem wpList_clear {P : Program} {w w' : World} {ops : Array Oper} {rest : List Oper} {o : Oper} {a : Act} {Q : Exit → Act → World → Prop} (hgd : o.guard = none) (s : Operand) (t : TypeId)
    (ho : o.op = .call { callee := .builtin .clear, args := #[s], argTypes := #[t] }) (v : Value) (hs : a.eval s = v)
    (hr : (Builtin.clear_ #[t] o.type #[v]).run P w = .ok (.tuple #[]) w') (h : wpList P ops Q rest (a.put o.dst (.tuple #[])) w') : wpList P ops Q (o :: rest) a w := by
  refine wpList_plain hgd fun K hK => ?_
  unfold Oper.wp
  simp [execOp, ho, resolve, invoke, builtin, hs, hr, Result.andThen]
  exact hK _ _ h
/-- clear of one tube of a row. -/
theorem run_clear_tube (w : World) (ty : TypeId) (g o n c : Nat) (hn : n = 1) (cur : Array Value) (hg : w.heap[g]? = some (.cells cur 40 (0, 0))) (hl : o + 2 ≤ cur.size) :
    (Builtin.clear_ #[26] ty #[.slice (some ⟨g, o, none⟩) n c]).run Tryz.prog w = .ok (.tuple #[]) (w.setRow g (cur.toList.take o ++ [Value.string ⟨#[]⟩, Value.slice none 0 0] ++ cur.toList.drop (o + 2)).toArray) := by
  subst hn
  obtain ⟨i0, hi, hz0, hz1, hz2⟩ := info_parts Tryz.info40
  have hv : ∀ w, (zeroValue 40).run Tryz.prog w = .ok (.agg #[.string ⟨#[]⟩, .slice none 0 0]) w := fun w => by simp [zeroValue, typeInfo, hi, hz0]
  have hzc : (Builtin.zeroCells (Value.agg #[.string ⟨#[]⟩, .slice none 0 0]).cells 1).toList = [.string ⟨#[]⟩, .slice none 0 0] := by kernel_rfl
  have hst := run_storeCells_at Tryz.prog g o 40 [.string ⟨#[]⟩, .slice none 0 0] 0 cur w hg (by simpa using hl) (tvals_one Tb.nil)
  simp [Builtin.clear_, run_underlying Tryz.underlying26, hv, hzc, hst]

/-- The tube behind a row's end is cleared. -/
theorem clear_behind {lo g M n c cap : Nat} {xs : List Value} {w : World} (h : w.ownsRow lo 40 2 (.slice (some ⟨g, 0, none⟩) M cap) M xs) (hM : M < cap) (hn : n = 1) :
    ∃ w2, (Builtin.clear_ #[26] 0 #[.slice (some ⟨g, M * 2, none⟩) n c]).run Tryz.prog w = .ok (.tuple #[]) w2 ∧ w2.ownsRow lo 40 2 (.slice (some ⟨g, 0, none⟩) M cap) M xs ∧ w.grownBy w2 (some g) := by
  obtain ⟨cur1, hg1, hb1, hn1, hc1, hs1, ht1⟩ := owns_open h
  refine ⟨_, run_clear_tube w 0 g (M * 2) n c hn cur1 hg1 (by omega), ?_, grown_setRow _ _ _⟩
  have := owns_mk (n := M) (size := 2) (setRow_heap w g cur1 (cur1.toList.take (M * 2) ++ [Value.string ⟨#[]⟩, Value.slice none 0 0] ++ cur1.toList.drop (M * 2 + 2)).toArray _ _ hg1) hb1 hn1 hc1 (by simp; omega)
  rw [← ht1]
  have hlen1 : M * 2 ≤ cur1.toList.length := by simp; omega
  have e : (cur1.toList.take (M * 2) ++ [Value.string ⟨#[]⟩, Value.slice none 0 0] ++ cur1.toList.drop (M * 2 + 2)).toArray.toList.take (M * 2) = cur1.toList.take (M * 2) := by
    rw [List.append_assoc]
    show List.take (M * 2) (_ ++ _) = _
    rw [List.take_left' (by rw [List.length_take]; omega)]
  rw [e] at this
  exact this

end Go.Proofs.YtpdcgjkfilohcabGreat

namespace Go.Proofs.YtpdcgjkfilohcabGreat
open Go.RowKit
attribute [local go_sem ↓] Go.wp_at_zero Go.wp_at_succ

theorem run_copy_tubes (w : World) (ty g o dLen dCap : Nat) (a : Addr) (sLen sCap : Nat) (cur : Array Value) (cs : List Value)
    (hg : w.heap[g]? = some (.cells cur 40 (0, 0))) (hn : cs.length = Nat.min sLen dLen * 2)
    (hsrc : ∀ j v, cs[j]? = some v → w.cell? (a.add j) = some v) (hfit : o + cs.length ≤ cur.size) (h1 : ∀ v ∈ cs, v.oneCell' = true) :
    (Builtin.copy_ #[26, 26] ty #[.slice (some ⟨g, o, none⟩) dLen dCap, .slice (some a) sLen sCap]).run Tryz.prog w =
      .ok (goInt (Nat.min sLen dLen)) (w.setRow g (cur.toList.take o ++ cs ++ cur.toList.drop (o + cs.length)).toArray) := by
  obtain ⟨i0, hi, hz0, hz1, hz2⟩ := info_parts Tryz.info40
  have hl := run_loadCells_list (P := Tryz.prog) w a cs hsrc
  have hst := run_storeCells_at Tryz.prog g o 40 cs 0 cur w hg (by simpa using hfit) h1
  simp [Builtin.copy_, run_underlying Tryz.underlying26, Builtin.lenOf, Builtin.firstCells, sizeOf, typeInfo, hi, hz1, ← hn, hl, hst]
theorem copy_tubes (w : World) (ty g o dLen dCap : Nat) (a : Addr) (sLen sCap : Nat) (cur : Array Value) (cs : List Value)
    (hg : w.heap[g]? = some (.cells cur 40 (0, 0))) (hn : cs.length = Nat.min sLen dLen * 2)
    (hsrc : ∀ j v, cs[j]? = some v → w.cell? (a.add j) = some v) (hfit : o + cs.length ≤ cur.size) (h1 : ∀ v ∈ cs, v.oneCell' = true) :
    ∃ (w2 : World) (cur2 : Array Value) (v : Value), (Builtin.copy_ #[26, 26] ty #[.slice (some ⟨g, o, none⟩) dLen dCap, .slice (some a) sLen sCap]).run Tryz.prog w = .ok v w2 ∧ w2.heap[g]? = some (.cells cur2 40 (0, 0)) ∧ cur2.toList = cur.toList.take o ++ cs ++ cur.toList.drop (o + cs.length) ∧ w.grownBy w2 (some g) :=
  ⟨_, _, _, run_copy_tubes w ty g o dLen dCap a sLen sCap cur cs hg hn hsrc hfit h1, setRow_heap w g cur _ _ _ hg, by simp, grown_setRow _ _ _⟩
theorem edit_end (us : List Tb) (t : Tb) : edit us us.length 0 [t] = us ++ [t] := by unfold edit; simp
/-- What is between an answer and what it was made of. -/
theorem ownT_ins {lo : Nat} {w w' : World} {v v' : Value} {us : List Tb} {t : Tb} {p : Nat} (h : OwnT lo w v us) (ht : InT lo w t) (hta : ∀ q, t.blk = some q → v.ownBlock ≠ some q ∧ ∀ u ∈ us, u.blk ≠ some q) (hg : w.grownBy w' v.ownBlock)
    (hown : w'.ownsRow lo 40 2 v' (edit us p 0 [t]).length (flatT (edit us p 0 [t]))) (hat : v'.ownBlock = v.ownBlock ∨ ∃ k, v'.ownBlock = some k ∧ w.heap.size ≤ k) : OwnT lo w' v' (edit us p 0 [t]) := by
  obtain ⟨h1, h2, h3, h4⟩ := h
  have hin : ∀ u ∈ edit us p 0 [t], InT lo w u := fun u hu => by
    rcases edit_mem hu with h | h
    · exact h2 u h
    · rw [List.mem_singleton] at h; subst h; exact ht
  have hne : ∀ u ∈ edit us p 0 [t], ∀ q, u.blk = some q → v.ownBlock ≠ some q := fun u hu q e => by
    rcases edit_mem hu with h | h
    · exact h4 u h q e
    · rw [List.mem_singleton] at h; subst h; exact (hta q e).1
  refine ⟨hown, fun u hu => inT_grown (hin u hu) hg (hne u hu), ?_, fun u hu q e => ?_⟩
  · unfold edit
    have hs : (us.take p ++ us.drop (p + 0)).Pairwise (fun t u => ∀ q, t.blk = some q → u.blk ≠ some q) := by rw [Nat.add_zero, List.take_append_drop]; exact h3
    rw [List.pairwise_append] at hs
    rw [List.append_assoc, List.pairwise_append]
    refine ⟨hs.1, ?_, fun a ha b hb => ?_⟩
    · rw [List.singleton_append, List.pairwise_cons]
      exact ⟨fun b hb q e => (hta q e).2 b (List.mem_of_mem_drop hb), hs.2.1⟩
    · rw [List.singleton_append, List.mem_cons] at hb
      rcases hb with rfl | hb
      · intro q e e'
        exact (hta q e').2 a (List.mem_of_mem_take ha) e
      · exact hs.2.2 a ha b hb
  · rcases hat with e' | ⟨k, e', hk⟩
    · rw [e']; exact hne u hu q e
    · rw [e']
      intro e2
      have := (blk_lt (hin u hu) e).2
      cases e2
      omega
end Go.Proofs.YtpdcgjkfilohcabGreat

namespace Go.Proofs.YtpdcgjkfilohcabGreat
open Go.RowKit
attribute [local go_sem ↓] Go.wp_at_zero Go.wp_at_succ

theorem cells_two {w : World} {h : Nat} {u v : Value} {t : TypeId} (hb : w.heap[h]? = some (.cells #[u, v] t (0, 0))) : w.cell? ⟨h, 0, none⟩ = some u ∧ w.cell? ⟨h, 1, none⟩ = some v := by
  simp [World.cell?, hb]
theorem news_two {w : World} {h : Nat} {s : ByteArray} {v : Value} {t : TypeId} (hb : w.heap[h]? = some (.cells #[.string s, v] t (0, 0))) : ∀ j u, [Value.string s, v][j]? = some u → w.cell? ((⟨h, 0, none⟩ : Addr).add j) = some u := fun j u hu => by
  obtain ⟨c0, c1⟩ := cells_two hb
  have e : (⟨h, 0, none⟩ : Addr).add j = ⟨h, j, none⟩ := by unfold Addr.add; split <;> simp_all
  rw [e]
  have hj : j < 2 := by
    rcases Nat.lt_or_ge j 2 with q | q
    · exact q
    · rw [List.getElem?_eq_none (by simpa using q)] at hu; simp at hu
  rcases (by omega : j = 0 ∨ j = 1) with rfl | rfl
  · simp at hu; subst hu; exact c0
  · simp at hu; subst hu; exact c1

/-- A new row of the first tubes, with room for the others. -/
theorem zeros_grow (w : World) (lo g p : Nat) (us : List Tb) (h : w.ownsRow lo 40 2 (.slice (some ⟨g, 0, none⟩) us.length us.length) us.length (flatT us)) (hp : p < us.length) (hn : us.length ≤ 24) :
    ∃ (cap2 : Nat) (W : World) (X : Array Value), (Builtin.append_ #[26, 3] 26 #[.slice (some ⟨g, 0, none⟩) p us.length, .int .i64 ((us.length : Int) + 1 - p)]).run Tryz.prog w = .ok (.slice (some ⟨w.heap.size, 0, none⟩) (us.length + 1) cap2) W ∧ W.heap[w.heap.size]? = some (.cells X 40 (0, 0)) ∧ X.size = cap2 * 2 ∧ us.length + 1 ≤ cap2 ∧ cap2 ≤ maxLen ∧ X.toList.take (p * 2) = flatT (us.take p) ∧ w.grownBy W none := by
  obtain ⟨i0, hi, hz0, hz1, hz2⟩ := info_parts Tryz.info40
  have hold : (Builtin.firstCells i0.size p (.slice (some ⟨g, 0, none⟩) p us.length)).run Tryz.prog w.drew = .ok (flatT (us.take p)).toArray w.drew := by
    rw [hz1]
    refine run_firstCells_some _ 2 p _ _ _ _ (by rw [flatT_len, List.length_take]; omega) (fun j v hv => ?_)
    have e : (⟨g, 0, none⟩ : Addr).add j = ⟨g, j, none⟩ := by unfold Addr.add; split <;> simp_all
    have hj : j < p * 2 := by
      have := (List.getElem?_eq_some_iff.1 hv).1
      rw [flatT_len, List.length_take] at this
      omega
    rw [e]
    show w.cell? _ = _
    rw [h.cellAt _ (by omega), ← hv, ← flatT_take us p (by omega), List.getElem?_take_of_lt hj]
  have hk : ((us.length : Int) + 1 - p) = ((us.length + 1 - p : Nat) : Int) := by omega
  have hcap : us.length < p + (us.length + 1 - p) := by omega
  have hnext : Builtin.nextslicecap (p + (us.length + 1 - p)) us.length ≤ 100 := by
    unfold Builtin.nextslicecap
    split
    · omega
    · rw [if_pos (by omega)]; omega
  have R := Lib.run_append_grow_zeros w 26 3 26 40 i0 _ .i64 .i64 Tryz.underlying26 Tryz.underlying3 hi hz0 (some ⟨g, 0, none⟩) p us.length (flatT (us.take p)) hold (us.length + 1 - p) (by omega) (by omega) hcap (by omega) (by rw [hz2]; omega) (by rw [hz2]; omega)
  have e : p + (us.length + 1 - p) = us.length + 1 := by omega
  rw [← hk, e] at R
  have hge := grownCap_ge w (us.length + 1) us.length 40
  have hmx := grownCap_le_maxLen w (us.length + 1) us.length 40 (by unfold maxLen; omega)
  have hl : (flatT (us.take p)).length = p * 2 := by rw [flatT_len, List.length_take]; omega
  refine ⟨_, _, _, R, heap_alloc_new w.drew _, ?_, hge, hmx, ?_, ⟨rfl, rfl, rfl, by simp, fun k hk _ => heap_alloc_old w.drew _ hk⟩⟩
  · simp only [Array.size_append, List.size_toArray, size_zeroCells, hl]
    show p * 2 + (us.length + 1 - p) * 2 + (_ - (us.length + 1)) * 2 = _
    omega
  · simp only [Array.toList_append, List.append_assoc]
    rw [List.take_left' (by simpa using hl)]

theorem edit_flat (us : List Tb) (p : Nat) (t : Tb) : flatT (edit us p 0 [t]) = flatT (us.take p) ++ t.vals ++ flatT (us.drop p) := by
  unfold edit
  rw [flatT_app, flatT_app, Nat.add_zero]
  simp [flatT]
theorem edit_len (us : List Tb) (p : Nat) (t : Tb) (hp : p ≤ us.length) : (edit us p 0 [t]).length = us.length + 1 := by
  unfold edit
  simp
  omega
/-- The tubes behind a place, as cells. -/
theorem drop_cells {w : World} {lo g p cap : Nat} {us : List Tb} (h : w.ownsRow lo 40 2 (.slice (some ⟨g, 0, none⟩) us.length cap) us.length (flatT us)) (hp : p ≤ us.length) : ∀ j u, (flatT (us.drop p))[j]? = some u → w.cell? ((⟨g, p * 2, none⟩ : Addr).add j) = some u := fun j u hu => by
  have e : (⟨g, p * 2, none⟩ : Addr).add j = ⟨g, p * 2 + j, none⟩ := by unfold Addr.add; split <;> simp_all
  have hj : j < (us.length - p) * 2 := by
    have := (List.getElem?_eq_some_iff.1 hu).1
    rw [flatT_len, List.length_drop] at this
    exact this
  rw [e, h.cellAt _ (by omega), ← hu, ← flatT_drop us p hp, List.getElem?_drop]
/-- Three pieces, one behind the other. -/
theorem three {X Y Z : Array Value} {A B C : List Value} {p : Nat} (h1 : X.toList.take p = A) (hp : p ≤ X.size) (h2 : Y.toList = X.toList.take p ++ B ++ X.toList.drop (p + B.length)) (h3 : Z.toList = Y.toList.take (p + B.length) ++ C ++ Y.toList.drop (p + B.length + C.length)) : Z.toList.take (p + B.length + C.length) = A ++ B ++ C := by
  have hl : (X.toList.take p ++ B).length = p + B.length := by rw [List.length_append, List.length_take]; simp; omega
  have e1 : Y.toList.take (p + B.length) = A ++ B := by
    rw [h2, List.take_left' hl, h1]
  rw [h3, e1]
  have hl2 : (A ++ B ++ C).length = p + B.length + C.length := by rw [List.length_append, ← h1, hl]
  rw [List.take_left' hl2]

theorem step_copy {P : Program} {ops : Array Oper} {o : Oper} {a : Act} {w : World} {K : Act → World → Prop} {Q : Exit → Act → World → Prop} {E : Prop}
    (hg : o.guard = none) (d x : Operand) (dT sT : TypeId) (hop : o.op = Op.call { callee := Callee.builtin Builtin.copy, args := #[d, x], argTypes := #[dT, sT] })
    (v u : Value) (hd : a.eval d = v) (hx : a.eval x = u) {v' : Value} {w' : World} (hr : (Builtin.copy_ #[dT, sT] o.type #[v, u]).run P w = .ok v' w') (hK : K (a.put o.dst v') w') :
    if Region.wanted o (yielded ops a.tmps) = true then Oper.wp P o a w K Q else E := by
  have hw : Region.wanted o (yielded ops a.tmps) = true := by simp [Region.wanted, hg]
  rw [if_pos hw]
  unfold Oper.wp
  simp [execOp, hop, resolve, invoke, builtin, hd, hx, hr, Result.andThen]
  exact hK

theorem shift_row {X Y Z : Array Value} {A B C : List Value} {p : Nat} (h1 : X.toList.take p = A) (hp : p + B.length ≤ X.size) (h2 : Y.toList = X.toList.take (p + B.length) ++ C ++ X.toList.drop (p + B.length + C.length)) (h3 : Z.toList = Y.toList.take p ++ B ++ Y.toList.drop (p + B.length)) : Z.toList.take (p + B.length + C.length) = A ++ B ++ C := by
  have hl : (X.toList.take (p + B.length)).length = p + B.length := by rw [List.length_take]; simp; omega
  have e1 : Y.toList.take p = A := by
    rw [h2, List.append_assoc, List.take_append_of_le_length (by omega), List.take_take, Nat.min_eq_left (by omega), h1]
  have e2 : Y.toList.drop (p + B.length) = C ++ X.toList.drop (p + B.length + C.length) := by
    rw [h2, List.append_assoc, List.drop_left' hl]
  have hA : A.length = p := by rw [← h1, List.length_take]; simp; omega
  rw [h3, e1, e2, ← List.append_assoc, List.take_left' (by simp [hA]; omega)]

end Go.Proofs.YtpdcgjkfilohcabGreat
