import Derived.Test.YtpdcgjkfilohcabGreatMem
namespace Go.Proofs.YtpdcgjkfilohcabGreat
open Go.RowKit

/-- A byte of a name. -/
def byteB (n : Int) : Bool := decide (97 ≤ n ∧ n ≤ 122 ∨ 48 ≤ n ∧ n ≤ 57 ∨ n = 45)
def bytesB (l : List UInt8) : Bool := l.all fun c => byteB (c.toNat : Int)
def sizeB (n : Nat) : Bool := decide (1 ≤ n ∧ n ≤ 8)
/-- A name that is ok. -/
def nameB (s : ByteArray) : Bool := sizeB s.size && bytesB s.data.toList

theorem take_snoc (s : ByteArray) (k : Nat) (h : k < s.size) : s.data.toList.take (k + 1) = s.data.toList.take k ++ [s[k]] := by
  rw [List.take_succ_eq_append_getElem (by simpa using h)]; rfl
theorem bytesB_snoc (s : ByteArray) (k : Nat) (h : k < s.size) : bytesB (s.data.toList.take (k + 1)) = (bytesB (s.data.toList.take k) && byteB (s[k].toNat : Int)) := by
  rw [take_snoc s k h]; simp [bytesB]
theorem bytesB_stop (s : ByteArray) (k : Nat) (h : k < s.size) (hb : byteB (s[k].toNat : Int) = false) : bytesB s.data.toList = false := by
  unfold bytesB
  rw [List.all_eq_false]
  exact ⟨s[k], by show s.data[k] ∈ s.data.toList; simp, by simp [hb]⟩
theorem bytesB_all (s : ByteArray) (k : Nat) (h : ¬ k < s.size) : bytesB (s.data.toList.take k) = bytesB s.data.toList := by
  rw [List.take_of_length_le (by simp; omega)]

theorem byte_cases (n : Int) : (97 ≤ n ∧ n ≤ 122) ∨ (97 ≤ n ∧ decide (n ≤ 122) = false ∧ decide (n ≤ 57) = false ∧ 48 ≤ n ∧ (n == 45) = false) ∨ (n < 97 ∧ 48 ≤ n ∧ n ≤ 57) ∨ (n < 97 ∧ 48 ≤ n ∧ decide (n ≤ 57) = false ∧ (n == 45) = false) ∨ (n < 97 ∧ n < 48 ∧ (n == 45) = true) ∨ (n < 97 ∧ n < 48 ∧ (n == 45) = false) := by
  simp
  omega

set_option maxHeartbeats 1000000 in
theorem nameByte_any (n : Int) (w : World) :
    Calls Tryz.prog 132 #[.int .u8 n] w fun e w' => e = .returned (.bool (byteB n)) ∧ w' = w := by
  rcases byte_cases n with ⟨h1, h2⟩ | ⟨h1, h2, h3, h4, h5⟩ | ⟨h1, h2, h3⟩ | ⟨h1, h2, h3, h5⟩ | ⟨h1, h2, h5⟩ | ⟨h1, h2, h5⟩
  all_goals
    go_enter Tryz.func132, Tryz.ntmps132
    go_wp2
    go_ret
    refine ⟨?_, rfl⟩
    first
      | (have hb : byteB n = true := by simp [byteB] at *; omega
         rw [hb]
         rfl)
      | (have hb : byteB n = false := by simp [byteB] at *; omega
         rw [hb]
         rfl)

set_option maxHeartbeats 1000000 in
theorem specName_any (s : ByteArray) (w : World) (hs : s.size ≤ maxLen) :
    Calls Tryz.prog 74 #[.string s] w fun e w' => e = .returned (.bool (nameB s)) ∧ w' = w := by
  unfold maxLen at hs
  cases hz : lieB (s.size : Int) s.size 1 8
  · have HZ : Hid (nameB s = false) := by
      show nameB s = false
      have : sizeB s.size = false := by simp [lieB] at hz; simp [sizeB]; omega
      simp [nameB, this]
    go_enter Tryz.func74, Tryz.ntmps74
    go_wp2_with (go_at_call 108; refine (l1In_any _ _ _ _).mono ?_; rintro e w' ⟨rfl, rfl⟩)
    go_ret
    exact ⟨by rw [HZ.out]; rfl, rfl⟩
  · have HZ : Hid (nameB s = bytesB s.data.toList) := by
      show nameB s = bytesB s.data.toList
      have : sizeB s.size = true := by simp [lieB] at hz; simp [sizeB]; omega
      simp [nameB, this]
    go_enter Tryz.func74, Tryz.ntmps74
    go_wp2_with (go_at_call 108; refine (l1In_any _ _ _ _).mono ?_; rintro e w' ⟨rfl, rfl⟩)
    go_loop [3] (fun i => ∃ k : Nat, k ≤ s.size ∧ i = .int .i64 k ∧ Hid (bytesB (s.data.toList.take k) = true)) (fun i => s.size - (intOf i).toNat)
    case atStart => exact ⟨0, Nat.zero_le _, rfl, by show bytesB _ = true; simp [bytesB]⟩
    case round =>
      obtain ⟨k, hk, rfl, hb⟩ := hrel
      by_cases hlt : k < s.size
      · have HN : Hid (byteB (s[k].toNat : Int) = true → bytesB (s.data.toList.take (k + 1)) = true) := fun h => by rw [bytesB_snoc s k hlt, hb.out, h]; rfl
        have HF : Hid (byteB (s[k].toNat : Int) = false → bytesB s.data.toList = false) := fun h => bytesB_stop s k hlt h
        rcases byte_cases (s[k].toNat : Int) with ⟨h1, h2⟩ | ⟨h1, h2, h3, h4, h5⟩ | ⟨h1, h2, h3⟩ | ⟨h1, h2, h3, h5⟩ | ⟨h1, h2, h5⟩ | ⟨h1, h2, h5⟩
        all_goals
          go_wp2
          first
            | (go_round
               case rel => exact ⟨k + 1, by omega, by go_num, HN.out (by simp [byteB] at *; omega)⟩
               case measure => simp [intOf]; omega)
            | (go_ret
               exact ⟨by rw [HZ.out, HF.out (by simp [byteB] at *; omega)]; rfl, rfl⟩)
      · go_wp2
        go_ret
        exact ⟨by rw [HZ.out, ← bytesB_all s k hlt, hb.out]; rfl, rfl⟩

end Go.Proofs.YtpdcgjkfilohcabGreat
