import Derived.Test.YtpdcgjkfilohcaaDrawG
namespace Go.Proofs.Ytpdcgjkfilohcaa
open Go.RowKit
attribute [local go_sem ↓] Go.wp_at_zero Go.wp_at_succ

theorem bytes_gr {w w' : World} {a : Option Addr} {bs : List Int} (h : BytesAt w a bs) (g : Gr w w') : BytesAt w' a bs := fun k hk => by
  obtain ⟨q, o, e, hq, hc, r0, r1⟩ := h k hk
  exact ⟨q, o, e, Nat.lt_of_lt_of_le hq g.size, (g.cells.1 _ _ hq).trans hc, r0, r1⟩
theorem bytes_take {w : World} {a : Option Addr} {bs : List Int} (h : BytesAt w a bs) (n : Nat) : BytesAt w a (bs.take n) := fun k hk => by
  obtain ⟨q, o, e, hq, hc, r0, r1⟩ := h k (by simp at hk; omega)
  have e1 : (bs.take n).getD k 0 = bs.getD k 0 := by
    simp only [List.getD_eq_getElem?_getD]
    rw [List.getElem?_take_of_lt (by simp at hk; omega)]
  rw [e1]
  exact ⟨q, o, e, hq, hc, r0, r1⟩
theorem rd_new {w w1 : World} {a : Option Addr} {bs : List Int} {cap : Nat} {t : TypeId} (hb : BytesAt w a bs) (hl : bs.length ≤ 2000) (g : Gr (w.alloc (.cells #[.slice a bs.length cap, .int .i64 0] t)) w1) : Rd ⟨w.heap.size, a, cap, bs⟩ w1 0 := by
  have gg : Gr w w1 := ((Gr.refl w).alloc _).trans g
  refine ⟨bytes_gr hb gg, hl, (g.cells.1 _ _ (by simp)).trans (by simp), (g.cells.1 _ _ (by simp)).trans (by simp), (g.cells.2 _ _ (by simp)).trans (by simp), by have := g.size; simp at this; exact this, fun hne q o sp e => ?_⟩
  obtain ⟨q', o', e', hq, -⟩ := hb 0 (by cases bs with | nil => exact absurd rfl hne | cons x xs => simp)
  dsimp only at e
  rw [e] at e'
  cases e'
  exact hq

set_option maxHeartbeats 1000000 in
theorem open_any (a : Option Addr) (cap : Nat) (bs : List Int) (w : World) (hb : BytesAt w a bs) (hl : bs.length ≤ 1048576) (hcap : bs.length ≤ cap) :
    Calls Try.prog 40 #[.slice a bs.length cap] w fun e w' => (∃ d : Rdr, e = .returned (.pointer (some ⟨d.r, 0, none⟩)) ∧ d.r = w.heap.size ∧ Rd d w' 0) ∧ Gr w w' := by
  by_cases h : 2000 < bs.length
  · have h2 : (bs.take 2000).length = 2000 := by simp; omega
    obtain ⟨q, o, rfl, -, -⟩ := hb 0 (by omega)
    have HR : Hid (Rd ⟨w.heap.size, some ⟨q, o, none⟩, cap, bs.take 2000⟩ (w.alloc (.cells #[.slice (some ⟨q, o, none⟩) 2000 cap, .int .i64 0] 115)) 0) := by
      have := rd_new (cap := cap) (t := 115) (bytes_take hb 2000) (by omega) (Gr.refl _)
      rw [h2] at this
      exact this
    have hi : (2000 : Int) < (bs.length : Int) := by omega
    have hc : (2000 : Int) ≤ (cap : Int) := by omega
    have hc2 : 2000 ≤ cap := by omega
    clear h2
    go_enter Try.func40, Try.ntmps40
    go_wp2
    go_ret
    exact ⟨⟨_, rfl, rfl, HR⟩, (Gr.refl _).alloc _⟩
  · have HR : Hid (Rd ⟨w.heap.size, a, cap, bs⟩ (w.alloc (.cells #[.slice a bs.length cap, .int .i64 0] 115)) 0) := rd_new hb (by omega) (Gr.refl _)
    go_enter Try.func40, Try.ntmps40
    go_wp2
    go_ret
    exact ⟨⟨_, rfl, rfl, HR⟩, (Gr.refl _).alloc _⟩

/-- Texts that lie one behind the other. -/
def StrsAt (w : World) (g : Nat) (ss : List ByteArray) : Prop := g < w.heap.size ∧ ∀ k, k < ss.length → w.cell? ⟨g, k, none⟩ = some (.string (ss.getD k ⟨#[]⟩))

set_option maxHeartbeats 1000000 in
theorem of_any (d : Rdr) (p g cap : Nat) (ss : List ByteArray) (w : World) (h : Rd d w p) (hp : p ≤ 900000) (hS : StrsAt w g ss) (hg : d.r ≠ g) (h1 : 1 ≤ ss.length) (h2 : ss.length ≤ 1000) :
    Calls Try.prog 78 #[.pointer (some ⟨d.r, 0, none⟩), .slice (some ⟨g, 0, none⟩) ss.length cap] w fun e w' => (∃ k, k < ss.length ∧ e = .returned (.string (ss.getD k ⟨#[]⟩))) ∧ Rd d w' (p + 1) ∧ But d.r w w' := by
  go_enter Try.func78, Try.ntmps78
  go_wp2_with fail
  refine (rd_pickB d p _ _ h (by omega) (by omega) (by omega)).mono ?_
  rintro e w1 ⟨⟨x, rfl, x0, x1⟩, R1, M1⟩
  obtain ⟨k, rfl⟩ := Int.eq_ofNat_of_zero_le x0
  have hk : k < ss.length := by omega
  have hc : w1.cell? ⟨g, k, none⟩ = some (.string (ss.getD k ⟨#[]⟩)) := (M1.cell hS.1 (fun e => hg e.symm) k).trans (hS.2 k hk)
  obtain ⟨t, ht⟩ : ∃ t, ss.getD k ⟨#[]⟩ = t := ⟨_, rfl⟩
  have HT : Hid (ss.getD k ⟨#[]⟩ = t) := ht
  rw [ht] at hc
  clear ht hS
  have hk0 : (0 : Int) ≤ (k : Int) := by omega
  have hk1 : (k : Int) < (ss.length : Int) := by omega
  go_wp2
  go_ret
  exact ⟨⟨k, hk, congrArg (fun z => Ending.returned (Value.string z)) HT.out.symm⟩, R1, M1⟩

set_option maxHeartbeats 1000000 in
theorem many_any (s : ByteArray) (n : Nat) (w : World) (hs : s.size ≤ 1) (hn : n ≤ 9) :
    Calls Try.prog 88 #[.string s, .int .i64 n] w fun e w' => (∃ t : ByteArray, e = .returned (.string t) ∧ t.size ≤ 64) ∧ w' = w := by
  go_enter Try.func88, Try.ntmps88
  go_wp2
  go_loopw [0, 1, 5] (fun a b c wr => ∃ (s t : ByteArray) (k : Nat), a = .string s ∧ b = .int .i64 k ∧ c = .string t ∧ wr = w ∧ ((k ≤ 9 ∧ s.size ≤ 1 ∧ t.size ≤ 0) ∨ (k ≤ 4 ∧ s.size ≤ 2 ∧ t.size ≤ 1) ∨ (k ≤ 2 ∧ s.size ≤ 4 ∧ t.size ≤ 3) ∨ (k ≤ 1 ∧ s.size ≤ 8 ∧ t.size ≤ 7) ∨ (k = 0 ∧ s.size ≤ 16 ∧ t.size ≤ 15))) (fun _ b _ _ => (intOf b).toNat)
  case atStart => exact ⟨s, ⟨#[]⟩, n, rfl, rfl, rfl, rfl, Or.inl ⟨hn, hs, by show (0 : Nat) ≤ 0; omega⟩⟩
  case round =>
    obtain ⟨s, t, k, rfl, rfl, rfl, rfl, H⟩ := hrel
    have HH : Hid ((k ≤ 9 ∧ s.size ≤ 1 ∧ t.size ≤ 0) ∨ (k ≤ 4 ∧ s.size ≤ 2 ∧ t.size ≤ 1) ∨ (k ≤ 2 ∧ s.size ≤ 4 ∧ t.size ≤ 3) ∨ (k ≤ 1 ∧ s.size ≤ 8 ∧ t.size ≤ 7) ∨ (k = 0 ∧ s.size ≤ 16 ∧ t.size ≤ 15)) := H
    clear H
    by_cases hk : 0 < k
    · have hki : (0 : Int) < (k : Int) := by omega
      have hk9 : k ≤ 9 := by have := HH.out; omega
      have hs1 : s.size ≤ 16 := by have := HH.out; omega
      have ht1 : t.size ≤ 16 := by have := HH.out; omega
      by_cases hp : k % 2 = 1
      · have e1 : ((k : Int) % 2 == 1) = true := by simp; omega
        clear hp
        go_wp2
        go_roundw
        case rel => exact ⟨s ++ s, t ++ s, k / 2, rfl, by go_num, rfl, trivial, by have := HH.out; simp only [ByteArray.size_append]; omega⟩
        case measure => simp [intOf]; omega
      · have e1 : ((k : Int) % 2 == 1) = false := by simp; omega
        clear hp
        go_wp2
        go_roundw
        case rel => exact ⟨s ++ s, t, k / 2, rfl, by go_num, rfl, trivial, by have := HH.out; simp only [ByteArray.size_append]; omega⟩
        case measure => simp [intOf]; omega
    · obtain rfl : k = 0 := by omega
      go_wp2
      go_ret
      exact ⟨⟨t, rfl, by have := HH.out; omega⟩, rfl⟩
end Go.Proofs.Ytpdcgjkfilohcaa
