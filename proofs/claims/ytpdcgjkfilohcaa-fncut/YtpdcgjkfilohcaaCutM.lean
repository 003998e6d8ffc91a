import Derived.Test.YtpdcgjkfilohcaaLawCut
import Derived.Test.YtpdcgjkfilohcaaNear
import Derived.Test.YtpdcgjkfilohcaaSmallD
namespace Go.Proofs.Ytpdcgjkfilohcaa
open Go.RowKit

theorem cut1_ok {f : Int} {b : Bx} (hb : b.ok = true) (h : f ≤ b.o) : (cut1 f b).ok = true := by
  have h1 := ok_nums hb
  unfold Bx.ok boxB at *
  simp only [cut1] at *
  split <;> simp_all <;> omega
theorem cutL_ok {f : Int} {cs : List Bx} (h : boxesB cs = true) : boxesB (cutL f cs) = true := by
  unfold boxesB at *
  rw [List.all_eq_true] at *
  intro b hb
  unfold cutL at hb
  rw [List.mem_map] at hb
  obtain ⟨c, hc, rfl⟩ := hb
  rw [List.mem_filter, decide_eq_true_eq] at hc
  exact cut1_ok (h c hc.1) hc.2
theorem tube_cut {f : Int} {s : ByteArray} {cs : List Bx} (h : tubeB s cs = true) : tubeB s (cutL f cs) = true := by
  unfold tubeB at *
  simp only [Bool.and_eq_true, decide_eq_true_eq] at *
  exact ⟨⟨h.1.1, Nat.le_trans (cutL_le f cs) h.1.2⟩, cutL_ok h.2⟩
theorem cutL_later {f g : Int} (h : f ≤ g) (cs : List Bx) : cutL g (cutL f cs) = cutL g cs := by
  induction cs with
  | nil => rfl
  | cons b bs ih =>
    have e1 : cutL f (b :: bs) = if f ≤ b.o then cut1 f b :: cutL f bs else cutL f bs := by
      unfold cutL
      by_cases hb : f ≤ b.o <;> simp [hb]
    have e2 : ∀ (c : Bx) (l : List Bx), cutL g (c :: l) = if g ≤ c.o then cut1 g c :: cutL g l else cutL g l := by
      intro c l
      unfold cutL
      by_cases hb : g ≤ c.o <;> simp [hb]
    have e3 : cut1 g (cut1 f b) = cut1 g b := by
      simp only [cut1, Bx.mk.injEq, true_and, and_true]
      split <;> split <;> first | omega | rfl
    have e4 : (cut1 f b).o = b.o := rfl
    rw [e1]
    split
    · rw [e2, e2, ih, e3, e4]
    · rw [ih, e2, if_neg (by omega)]
theorem small_cut {f : Int} {s : ByteArray} {cs : List Bx} (h : tubeB s cs = true) : smallB s (cutL f cs) s cs = true := by
  unfold smallB
  rw [tube_cut h, h, Bool.true_and, Bool.true_and]
  unfold withinB
  rw [List.all_eq_true]
  intro b hb
  unfold cutL at hb
  rw [List.mem_map] at hb
  obtain ⟨c, hc, rfl⟩ := hb
  rw [List.mem_filter] at hc
  rw [List.any_eq_true]
  refine ⟨c, hc.1, ?_⟩
  have h1 : c.i ≤ (cut1 f c).i := by
    show c.i ≤ if c.i < f then f else c.i
    split <;> omega
  unfold coverB
  rw [show (cut1 f c).x = c.x from rfl, show (cut1 f c).y = c.y from rfl, show (cut1 f c).l = c.l from rfl, show (cut1 f c).h = c.h from rfl, show (cut1 f c).o = c.o from rfl]
  simp [h1]
theorem any_list (cs : List Bx) (p : Bx → Bool) : ((List.range cs.length).any fun i => p (cs.getD i Bx.nil)) = cs.any p := by
  rw [Bool.eq_iff_iff, List.any_eq_true, List.any_eq_true]
  constructor
  · rintro ⟨i, hi, hp⟩
    rw [List.mem_range] at hi
    rw [List.getD_eq_getElem?_getD, List.getElem?_eq_getElem hi] at hp
    exact ⟨_, List.getElem_mem hi, hp⟩
  · rintro ⟨b, hb, hp⟩
    obtain ⟨i, hi, rfl⟩ := List.mem_iff_getElem.1 hb
    refine ⟨i, List.mem_range.2 hi, ?_⟩
    rw [List.getD_eq_getElem?_getD, List.getElem?_eq_getElem hi]
    exact hp
theorem wn_cut {f T : Int} {b c : Bx} (hT : f ≤ T) : wnB (cut1 f b) c T = wnB b c T := by
  by_cases h : b.i < f
  · have e : cut1 f b = ⟨b.x, b.y, b.l, b.h, f, b.o⟩ := by simp [cut1, h]
    rw [e, Bool.eq_iff_iff]
    simp only [wnB, timeB, nearB, Bool.and_eq_true, decide_eq_true_eq]
    constructor <;> rintro ⟨⟨a1, a2, a3, a4⟩, a5, a6, a7, a8, a9, a10, a11, a12⟩ <;> refine ⟨⟨?_, ?_, ?_, ?_⟩, ?_, ?_, ?_, ?_, ?_, ?_, ?_, ?_⟩ <;> omega
  · have e : cut1 f b = b := by simp [cut1, h]
    rw [e]
theorem near_cut {f T : Int} (hT : f ≤ T) (cs bs : List Bx) : ((List.range (cutL f cs).length).any fun i => (List.range bs.length).any fun j => wnB ((cutL f cs).getD i Bx.nil) (bs.getD j Bx.nil) T) = ((List.range cs.length).any fun i => (List.range bs.length).any fun j => wnB (cs.getD i Bx.nil) (bs.getD j Bx.nil) T) := by
  rw [any_list (cutL f cs) (fun b => (List.range bs.length).any fun j => wnB b (bs.getD j Bx.nil) T), any_list cs (fun b => (List.range bs.length).any fun j => wnB b (bs.getD j Bx.nil) T)]
  rw [Bool.eq_iff_iff, List.any_eq_true, List.any_eq_true]
  simp only [cutL, List.mem_map, List.mem_filter, decide_eq_true_eq]
  constructor
  · rintro ⟨b, ⟨c, ⟨hc, hf⟩, rfl⟩, hp⟩
    simp only [wn_cut hT] at hp
    exact ⟨c, hc, hp⟩
  · rintro ⟨c, hc, hp⟩
    refine ⟨cut1 f c, ⟨c, ⟨hc, ?_⟩, rfl⟩, ?_⟩
    · rw [List.any_eq_true] at hp
      obtain ⟨j, -, hw⟩ := hp
      simp only [wnB, timeB, Bool.and_eq_true, decide_eq_true_eq] at hw
      omega
    · simp only [wn_cut hT]
      exact hp
theorem cut_ahead {f : Int} {cs : List Bx} {i : Nat} (hi : i < (cutL f cs).length) : f ≤ ((cutL f cs).getD i Bx.nil).i := by
  rw [List.getD_eq_getElem?_getD, List.getElem?_eq_getElem hi]
  have hm := List.getElem_mem hi
  generalize (cutL f cs)[i] = b at hm
  simp only [cutL, List.mem_map] at hm
  obtain ⟨c, -, rfl⟩ := hm
  simp only [Option.getD_some, cut1]
  split <;> omega
end Go.Proofs.Ytpdcgjkfilohcaa
