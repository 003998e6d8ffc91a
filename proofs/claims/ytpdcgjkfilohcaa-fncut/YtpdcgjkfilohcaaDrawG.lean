import Derived.Test.YtpdcgjkfilohcaaDrawF
import Derived.Deep.LoopGhost
import Derived.Deep.CutRange
import Derived.Deep.RegionLaw
namespace Go.Proofs.Ytpdcgjkfilohcaa
open Go.RowKit
attribute [local go_sem ↓] Go.wp_at_zero Go.wp_at_succ

theorem step_append_own {P : Program} {ops : Array Oper} {o : Oper} {a : Act} {w : World} {K : Act → World → Prop} {Q : Exit → Act → World → Prop} {E : Prop}
    (hg : o.guard = none) (s x : Operand) (t : TypeId) (hop : o.op = Op.call { callee := Callee.builtin Builtin.append, args := #[s, x], argTypes := #[t, t] })
    (base : Nat) (e : TypeId) (i : TypeInfo) (z : Value) (size bytes : Nat) (h1 : P.underlying t = some (.slice e)) (h2 : P.info? e = some i) (h3 : i.zero = some z) (h4 : i.size = size) (h5 : i.bytes = bytes) (h6 : z.cells.size = size) (h7 : 0 < size)
    (v : Value) (n : Nat) (xs : List Value) (hs : a.eval s = v) (hown : w.ownsRow base e size v n xs)
    (ad : Addr) (m c : Nat) (news : List Value) (hx : a.eval x = .slice (some ad) m c) (hn : news.length = m * size) (hc : ∀ j u, news[j]? = some u → w.cell? (ad.add j) = some u) (h1c : ∀ u ∈ news, u.oneCell' = true)
    (b1 : n + m ≤ maxLen) (b2 : (n + m) * bytes ≤ 140737488355328) (hb : base ≤ w.heap.size)
    (hK : ∀ v' w', w'.ownsRow base e size v' (n + m) (xs ++ news) → w.grownBy w' v.ownBlock → K (a.put o.dst v') w') :
    if Region.wanted o (yielded ops a.tmps) = true then Oper.wp P o a w K Q else E := by
  have hw : Region.wanted o (yielded ops a.tmps) = true := by simp [Region.wanted, hg]
  rw [if_pos hw]
  obtain ⟨v', w', hrun, r1, r2, _⟩ := run_append_own (P := P) w base t o.type e i z size bytes h1 h2 h3 h4 h5 h6 h7 v n xs hown ad m c news hn hc h1c b1 b2 hb
  unfold Oper.wp
  simp [execOp, hop, resolve, invoke, builtin, hs, hx, hrun, Result.andThen]
  exact hK v' w' r1 r2
theorem step_call {P : Program} {ops : Array Oper} {o : Oper} {a : Act} {w : World} {K : Act → World → Prop} {Q : Exit → Act → World → Prop} {E : Prop} {R : Ending → World → Prop}
    (hg : o.guard = none) (f : Nat) (args : Array Value) (hop : (execOp a.eval o).run P w = .ok (.enter f args) w) (h : Calls P f args w R) (hR : ∀ e w', R e w' → ∃ v, e = .returned v ∧ K (a.put o.dst v) w') :
    if Region.wanted o (yielded ops a.tmps) = true then Oper.wp P o a w K Q else E := by
  have hw : Region.wanted o (yielded ops a.tmps) = true := by simp [Region.wanted, hg]
  rw [if_pos hw]
  unfold Oper.wp
  rw [hop, Oper.upon_enter]
  refine h.mono fun e w' he => ?_
  obtain ⟨v, rfl, hk⟩ := hR e w' he
  exact hk
theorem fin_pair {d : Rdr} {w B : World} {s : ByteArray} {q P N : Nat} {wx : World} {v : Value} {L : List Bx} (u0 u1 : Value) (h : TA d w s q P N wx) (hL : OwnL B wx v L) (hB : w.heap.size < B.heap.size) : (∃ p, Rd d ((wx.setCell ⟨w.heap.size, 0, none⟩ u0).setCell ⟨w.heap.size, 1, none⟩ u1) p ∧ p ≤ P) ∧ But d.r w ((wx.setCell ⟨w.heap.size, 0, none⟩ u0).setCell ⟨w.heap.size, 1, none⟩ u1) ∧ OwnL w ((wx.setCell ⟨w.heap.size, 0, none⟩ u0).setCell ⟨w.heap.size, 1, none⟩ u1) v L := by
  obtain ⟨⟨p, hp, hR⟩, hM, -, -, -, -, hr⟩ := h
  exact ⟨⟨p, rd_set (rd_set hR _ _ (by dsimp only; omega)) _ _ (by dsimp only; omega), hp⟩, but_set _ (but_set _ hM (by omega)) (by omega), ownL_old (ownL_set (ownL_set hL _ _ (by dsimp only; omega)) _ _ (by dsimp only; omega)) (by omega)⟩

set_option maxRecDepth 100000 in
set_option maxHeartbeats 4000000 in
theorem l2Tube_any (d : Rdr) (p : Nat) (s : ByteArray) (w : World) (h : Rd d w p) (hp : p ≤ 500000) :
    Calls Try.prog 77 #[.pointer (some ⟨d.r, 0, none⟩), .string s] w fun e w' => (∃ v L, e = .returned (.agg #[.string s, v]) ∧ L.length ≤ 48 ∧ OwnL w w' v L ∧ (v = .slice none 0 0 ∨ ∃ g c, v = .slice (some ⟨g, 0, none⟩) L.length c)) ∧ (∃ p', Rd d w' p' ∧ p' ≤ p + 2000) ∧ But d.r w w' := by
  obtain ⟨i0, hi, hz0, hz1, hz2⟩ := info_parts Try.info36
  have hr : d.r < w.heap.size := h.2.2.2.2.2.1
  have GG : Gr w ((w.alloc (.cells #[.string ⟨#[]⟩, .slice none 0 0] 25)).alloc (.cells #[.string s, .slice none 0 0] 25)) := ((Gr.refl w).alloc _).alloc _
  have R := rd_gr h GG
  have PA : PairAt ((w.alloc (.cells #[.string ⟨#[]⟩, .slice none 0 0] 25)).alloc (.cells #[.string s, .slice none 0 0] 25)) w.heap.size := pair_new ((Gr.refl _).alloc _)
  have eT : (w.alloc (.cells #[.string ⟨#[]⟩, .slice none 0 0] 25)).heap.size = w.heap.size + 1 := by simp
  have TV : ∀ base, TubV ((w.alloc (.cells #[.string ⟨#[]⟩, .slice none 0 0] 25)).alloc (.cells #[.string s, .slice none 0 0] 25)) (w.heap.size + 1) base s (.slice none 0 0) [] := fun base => by
    have hn := pair_new (Gr.refl ((w.alloc (.cells #[.string ⟨#[]⟩, .slice none 0 0] 25)).alloc (.cells #[.string s, .slice none 0 0] 25)))
    rw [eT] at hn
    refine ⟨?_, ?_, hn.2.2.2.1, hn.2.2.2.2, hn.1, World.ownsRow_nil _ _ _ _⟩
    · simp
    · simp
  clear h
  have HTV : Hid (∀ base, TubV ((w.alloc (.cells #[.string ⟨#[]⟩, .slice none 0 0] 25)).alloc (.cells #[.string s, .slice none 0 0] 25)) (w.heap.size + 1) base s (.slice none 0 0) []) := TV
  clear TV
  go_enter Try.func77, Try.ntmps77
  go_wp2_with fail
  refine (drawBox_but d p _ R (by omega)).mono ?_
  rintro e w1 ⟨⟨b, rfl⟩, ⟨p1, R1, hp1⟩, M1⟩
  have hs1 := M1.size
  simp only [World.size_alloc] at hs1
  go_wp2_with fail
  refine (rd_pickB d p1 _ _ (rd_gr R1 ((Gr.refl _).alloc _)) (by omega) (by omega) (by omega)).mono ?_
  rintro e w2 ⟨⟨x, rfl, x0, x1⟩, R2, M2⟩
  have MM : But d.r ((w.alloc (.cells #[.string ⟨#[]⟩, .slice none 0 0] 25)).alloc (.cells #[.string s, .slice none 0 0] 25)) w2 := M1.trans ((But.of_gr ((Gr.refl _).alloc _)).trans M2)
  have A : TA d w s w1.heap.size (p + 13) 0 w2 := ⟨⟨_, by omega, R2⟩, (But.of_gr GG).trans MM, ⟨b, var_but (var_new (b := b) (Gr.refl _)) M2 (by omega)⟩, pair_but PA MM (by omega), ⟨_, [], tubV_but (HTV.out _) MM (by omega) (by omega), rfl⟩, by omega, hr⟩
  clear R R1 R2 M1 M2 MM PA HTV
  obtain ⟨k, rfl⟩ := Int.eq_ofNat_of_zero_le x0
  go_wp2_with fail
  go_loopw [7] (fun n wr => ∃ k N : Nat, k ≤ 6 ∧ n = .int .i64 k ∧ N ≤ 6 - k ∧ Hid (TA d w s w1.heap.size (p + 13 + (6 - k) * 60) N wr)) (fun n _ => (intOf n).toNat)
  case atStart => exact ⟨k, 0, by omega, rfl, by omega, ta_le A (by omega)⟩
  case round =>
    clear A
    obtain ⟨k, N, hk, rfl, hN, HA⟩ := hrel
    by_cases hk0 : 0 < k
    · have hki : (0 : Int) < (k : Int) := by omega
      have A := HA.out
      obtain ⟨v, L, hT, hL⟩ := A.2.2.2.2.1
      subst hL
      have hT' : Hid (TubV wr (w.heap.size + 1) (w1.heap.size + 1) s v L) := hT
      have HO : Hid (wr.ownsRow (w1.heap.size + 1) 36 6 v L.length (flat L)) := hT.2.2.2.2.2
      have hMw := A.2.1.size
      obtain ⟨t0, t1, tf0, tf1, tl, -⟩ := hT
      obtain ⟨b, ql, c0, c1, c2, c3, c4, c5, f0, f1, f2, f3, f4, f5⟩ := ta_q A
      clear A
      go_wp2_with (at_builtin; refine wpList_append_own _ rfl (.tmp 21) (.tmp 23) 23 rfl (w1.heap.size + 1) 36 i0 _ 6 48 Try.underlying23 hi hz0 hz1 hz2 rfl (by decide) _ _ _ rfl (HO.out.alloc _) ⟨wr.heap.size, 0, none⟩ 1 1 (Bx.vals b) rfl rfl (by exact news6 _ _ (by simp) b 36) (vals_one _) (by unfold maxLen; omega) (by omega) (by simp; omega) ?_; intro v' wa hown' hgrow hnil; obtain ⟨av, cv, hav⟩ := owns_form hown'; subst hav; have hbl := Below.grown (Below.refl (w1.heap.size + 1) _) hgrow (by simp; omega) (owns_block HO.out); have q1 := hbl.cell (p := ⟨w.heap.size + 1, 1, none⟩) (by simp; omega); have q2 := hbl.frozen (p := ⟨w.heap.size + 1, 1, none⟩) (by simp; omega))
      have A := ta_next (ta_gr HA.out ((Gr.refl wr).alloc (.cells #[.int .i64 b.x, .int .i64 b.y, .int .i64 b.l, .int .i64 b.h, .int .i64 b.i, .int .i64 b.o] 36))) (tubV_but hT'.out (But.of_gr (r := d.r) ((Gr.refl wr).alloc (.cells #[.int .i64 b.x, .int .i64 b.y, .int .i64 b.l, .int .i64 b.h, .int .i64 b.i, .int .i64 b.o] 36))) (by omega) (by omega)) rfl hown' hbl (but_grow (HA.out.2.1.trans (But.of_gr ((Gr.refl wr).alloc (.cells #[.int .i64 b.x, .int .i64 b.y, .int .i64 b.l, .int .i64 b.h, .int .i64 b.i, .int .i64 b.o] 36)))) hgrow (fun z hz => by have := owns_block HO.out z hz; omega))
      clear hown' hgrow hbl q1 q2 t0 t1 tf0 tf1 tl c0 c1 c2 c3 c4 c5 f0 f1 f2 f3 f4 f5 HO hT' HA
      obtain ⟨pp, hpp, hR⟩ := A.1
      refine (rd_pickB d _ _ _ hR (by omega) (by omega) (by omega)).mono ?_
      rintro e w3 ⟨⟨x3, rfl, -, -⟩, R3, M3⟩
      replace A := ta_but (P' := p + 13 + (6 - k) * 60 + 1) A R3 M3 (by omega)
      clear hR R3 M3 hpp pp
      by_cases hx3 : x3 = 0
      · have e3 : (x3 == 0) = true := by simp [hx3]
        clear hx3
        go_wp2_with fail
        obtain ⟨pp, hpp, hR⟩ := A.1
        refine (drawBox_but d _ _ hR (by omega)).mono ?_
        rintro e w4 ⟨⟨b', rfl⟩, ⟨p4, R4, hp4⟩, M4⟩
        replace A := ta_but (P' := p + 13 + (6 - k) * 60 + 13) A R4 M4 (by omega)
        clear hR R4 M4
        obtain ⟨b, ql, c0, c1, c2, c3, c4, c5, f0, f1, f2, f3, f4, f5⟩ := ta_q A
        have HB : Hid _ := ta_put6 b' A
        go_wp2
        go_roundw
        case rel => exact ⟨k - 1, L.length + 1, by omega, by go_num, by omega, ta_le HB.out (by omega)⟩
        case measure => simp [intOf]; omega
      · have e3 : (x3 == 0) = false := by simp [hx3]
        clear hx3
        go_upto_region 9 with fail
        go_cut [8] from 16 to 78 (fun s8 wx => (∃ x : Int, s8 = .int .i64 x) ∧ TA d w s w1.heap.size (p + 13 + (6 - k) * 60 + 2) (L.length + 1) wx)
        case first =>
          obtain ⟨pp, hpp, hR⟩ := A.1
          obtain ⟨b, ql, c0, c1, c2, c3, c4, c5, f0, f1, f2, f3, f4, f5⟩ := ta_q A
          go_region_with (first
            | (go_at_call 48; refine (rd_pickB d _ _ _ (rd_gr hR (Gr.refl _).drew) (by omega) (by omega) (by omega)).mono ?_; rintro e w9 ⟨⟨x9, rfl, -, -⟩, R9, M9⟩; have A9 := ta_but (P' := (p + 13 + (6 - k) * 60 + 2)) (ta_gr A (Gr.refl _).drew) R9 M9 (by omega); obtain ⟨b9, ql9, k0, k1, k2, k3, k4, k5, z0, z1, z2, z3, z4, z5⟩ := ta_q A9))
          all_goals (go_wp2_with fail; go_meet)
          all_goals exact ⟨⟨_, rfl⟩, A9⟩
        obtain ⟨⟨x8, rfl⟩, A'⟩ := hcut
        clear A
        have A := A'
        clear A'
        go_upto_region 10 with fail
        go_cut [9] from 16 to 78 (fun s9 wx => (∃ x : Int, s9 = .int .i64 x) ∧ TA d w s w1.heap.size (p + 13 + (6 - k) * 60 + 3) (L.length + 1) wx)
        case first =>
          obtain ⟨pp, hpp, hR⟩ := A.1
          obtain ⟨b, ql, c0, c1, c2, c3, c4, c5, f0, f1, f2, f3, f4, f5⟩ := ta_q A
          go_region_with (first
            | (go_at_call 48; refine (rd_pickB d _ _ _ (rd_gr hR (Gr.refl _).drew) (by omega) (by omega) (by omega)).mono ?_; rintro e w9 ⟨⟨x9, rfl, -, -⟩, R9, M9⟩; have A9 := ta_but (P' := (p + 13 + (6 - k) * 60 + 3)) (ta_gr A (Gr.refl _).drew) R9 M9 (by omega); obtain ⟨b9, ql9, k0, k1, k2, k3, k4, k5, z0, z1, z2, z3, z4, z5⟩ := ta_q A9))
          all_goals (go_wp2_with fail; go_meet)
          all_goals exact ⟨⟨_, rfl⟩, A9⟩
        obtain ⟨⟨x9, rfl⟩, A'⟩ := hcut
        clear A
        have A := A'
        clear A'
        go_upto_region 11 with fail
        go_cut [48] from 16 to 78 (fun s48 wx => (∃ z : Bool, s48 = .bool z) ∧ TA d w s w1.heap.size (p + 13 + (6 - k) * 60 + 3) (L.length + 1) wx)
        case first =>
          cases hl8 : lieB x8 x8 0 15
          · go_wp2_with (go_at_call 51; refine (l1In_any _ _ _ _).mono ?_; rintro e w' ⟨rfl, rfl⟩)
            go_meet
            exact ⟨⟨_, rfl⟩, A⟩
          · go_wp2_with (go_at_call 51; refine (l1In_any _ _ _ _).mono ?_; rintro e w' ⟨rfl, rfl⟩)
            go_meet
            exact ⟨⟨_, rfl⟩, A⟩
        obtain ⟨⟨z, rfl⟩, A'⟩ := hcut
        clear A
        have A := A'
        clear A'
        go_upto_if 48 with fail
        go_cut [] from 16 to 78 (fun wx => TA d w s w1.heap.size (p + 13 + (6 - k) * 60 + 3) (L.length + 1) wx)
        case first =>
          obtain ⟨b, ql, c0, c1, c2, c3, c4, c5, f0, f1, f2, f3, f4, f5⟩ := ta_q A
          have HB : Hid _ := ta_set 1 x9 (ta_set 0 x8 A (by omega)) (by omega)
          cases z
          · go_wp2_with fail
            go_meet
            exact A
          · go_wp2_with fail
            go_meet
            exact HB.out
        have A' := hcut
        clear A
        have A := A'
        clear A'
        go_upto_region 14 with fail
        go_cut [56] from 16 to 78 (fun s56 wx => (∃ z : Bool, s56 = .bool z) ∧ TA d w s w1.heap.size (p + 13 + (6 - k) * 60 + 3) (L.length + 1) wx)
        case first =>
          obtain ⟨b, ql, c0, c1, c2, c3, c4, c5, f0, f1, f2, f3, f4, f5⟩ := ta_q A
          go_wp2_with fail
          go_meet
          exact ⟨⟨_, rfl⟩, A⟩
        obtain ⟨⟨y, rfl⟩, A'⟩ := hcut
        clear A
        have A := A'
        clear A'
        cases y
        · have HB : Hid _ := A
          go_wp2
          go_roundw
          case rel => exact ⟨k - 1, L.length + 1, by omega, by go_num, by omega, ta_le HB.out (by omega)⟩
          case measure => simp [intOf]; omega
        · go_upto_region 15 with fail
          go_cut [] from 16 to 78 (fun wx => TA d w s w1.heap.size (p + 13 + (6 - k) * 60 + 4) (L.length + 1) wx)
          case first =>
            obtain ⟨pp, hpp, hR⟩ := A.1
            obtain ⟨b, ql, c0, c1, c2, c3, c4, c5, f0, f1, f2, f3, f4, f5⟩ := ta_q A
            go_region_with (first
              | (go_at_call 48; refine (rd_pickB d _ _ _ (rd_gr hR (Gr.refl _).drew) (by omega) (by omega) (by omega)).mono ?_; rintro e w9 ⟨⟨x9, rfl, -, -⟩, R9, M9⟩; have A9 := ta_but (P' := (p + 13 + (6 - k) * 60 + 4)) (ta_gr A (Gr.refl _).drew) R9 M9 (by omega); obtain ⟨b9, ql9, k0, k1, k2, k3, k4, k5, z0, z1, z2, z3, z4, z5⟩ := ta_q A9))
            all_goals (go_wp2_with fail; go_meet)
            all_goals exact ta_set 4 _ A9 (by omega)
          have A' := hcut
          clear A
          have A := A'
          clear A'
          go_upto_region 16 with fail
          go_cut [] from 16 to 78 (fun wx => TA d w s w1.heap.size (p + 13 + (6 - k) * 60 + 5) (L.length + 1) wx)
          case first =>
            obtain ⟨pp, hpp, hR⟩ := A.1
            obtain ⟨b, ql, c0, c1, c2, c3, c4, c5, f0, f1, f2, f3, f4, f5⟩ := ta_q A
            go_region_with (first
              | (go_at_call 48; refine (rd_pickB d _ _ _ (rd_gr hR (Gr.refl _).drew) (by omega) (by omega) (by omega)).mono ?_; rintro e w9 ⟨⟨x9, rfl, -, -⟩, R9, M9⟩; have A9 := ta_but (P' := (p + 13 + (6 - k) * 60 + 5)) (ta_gr A (Gr.refl _).drew) R9 M9 (by omega); obtain ⟨b9, ql9, k0, k1, k2, k3, k4, k5, z0, z1, z2, z3, z4, z5⟩ := ta_q A9))
            all_goals (go_wp2_with fail; go_meet)
            all_goals exact ta_set 5 _ A9 (by omega)
          have A' := hcut
          clear A
          have A := A'
          clear A'
          go_upto_region 17 with fail
          obtain ⟨b, ql, c0, c1, c2, c3, c4, c5, f0, f1, f2, f3, f4, f5⟩ := ta_q A
          by_cases hlt : b.o < b.i
          · have HB : Hid _ := ta_set 5 b.i A (by omega)
            go_wp2
            go_roundw
            case rel => exact ⟨k - 1, L.length + 1, by omega, by go_num, by omega, ta_le HB.out (by omega)⟩
            case measure => simp [intOf]; omega
          · have HB : Hid _ := A
            go_wp2
            go_roundw
            case rel => exact ⟨k - 1, L.length + 1, by omega, by go_num, by omega, ta_le HB.out (by omega)⟩
            case measure => simp [intOf]; omega
    · obtain rfl : k = 0 := by omega
      have A := ta_le (P' := p + 400) HA.out (by omega)
      clear HA
      go_wp2_with fail
      obtain ⟨pp, hpp, hR⟩ := A.1
      refine (rd_pickB d _ _ _ hR (by omega) (by omega) (by omega)).mono ?_
      rintro e w3 ⟨⟨x3, rfl, -, -⟩, R3, M3⟩
      replace A := ta_but (P' := p + 401) A R3 M3 (by omega)
      clear hR R3 M3 hpp pp
      by_cases hx3 : x3 = 0
      · have e3 : (x3 == 0) = true := by simp [hx3]
        clear hx3
        go_wp2_with fail
        go_loopg [] (40 - N) (fun gk wr => ∃ N : Nat, N ≤ 40 ∧ gk = 40 - N ∧ Hid (TA d w s w1.heap.size (p + 401 + N * 20) N wr))
        case atStart => exact ⟨N, by omega, rfl, ta_le A (by omega)⟩
        case round =>
          clear A
          obtain ⟨N, hN, hgk, HA⟩ := hrel
          have A := HA.out
          obtain ⟨v, L, hT, hL⟩ := A.2.2.2.2.1
          subst hL
          obtain ⟨av, cv, hav⟩ := owns_form hT.2.2.2.2.2
          subst hav
          have HT : Hid (∀ w', But d.r wr w' → TubV w' (w.heap.size + 1) (w1.heap.size + 1) s (.slice av L.length cv) L) := fun w' m => tubV_but hT m (by omega) (by omega)
          clear hT
          go_upto_region 20 with fail
          go_cut [88] from 82 to 95 (fun s88 wx => (∃ z : Bool, s88 = .bool z ∧ (z = true → L.length < 40)) ∧ TA d w s w1.heap.size (p + 401 + L.length * 20 + 1) L.length wx ∧ TubV wx (w.heap.size + 1) (w1.heap.size + 1) s (.slice av L.length cv) L)
          case first =>
            obtain ⟨pp, hpp, hR⟩ := A.1
            obtain ⟨t0, t1, -, -, -, -⟩ := HT.out wr (But.of_gr (Gr.refl _))
            go_region_with (first
              | (go_at_call 48; refine (rd_pickB d _ _ _ (rd_gr hR (Gr.refl _).drew) (by omega) (by omega) (by omega)).mono ?_; rintro e w9 ⟨⟨x9, rfl, y0, y1⟩, R9, M9⟩; have A9 := ta_but (P' := p + 401 + L.length * 20 + 1) (ta_gr A (Gr.refl _).drew) R9 M9 (by omega); have T9 := HT.out w9 ((But.of_gr (Gr.refl wr).drew).trans M9); obtain ⟨j0, j1, -, -, -, -⟩ := T9))
            all_goals (go_wp2_with fail; go_meet)
            all_goals exact ⟨⟨_, rfl, fun hz => by rw [IntWalk.i64_in (40 - x9) ⟨by omega, by omega⟩] at hz; simp at hz; omega⟩, A9, HT.out w9 ((But.of_gr (Gr.refl wr).drew).trans M9)⟩
          obtain ⟨⟨z, rfl, hz⟩, A', hT⟩ := hcut
          rename World => wd
          clear A HA HT
          have A := A'
          clear A'
          cases z
          · have HV : Hid ((.slice av L.length cv : Value) = .slice none 0 0 ∨ ∃ g c, (.slice av L.length cv : Value) = .slice (some ⟨g, 0, none⟩) L.length c) := by
              rcases hT.2.2.2.2.2.2 with ⟨h, -⟩ | ⟨g, cap, cur, h, -⟩
              · exact Or.inl h
              · exact Or.inr ⟨g, cap, h⟩
            have HL : OwnL ((w.alloc (.cells #[.string ⟨#[]⟩, .slice none 0 0] 25)).alloc (.cells #[.string s, .slice none 0 0] 25)) wd (.slice av L.length cv) L := by
              obtain ⟨a1, c1', hv, hr1, hb1⟩ := owns_boxes rfl hT.2.2.2.2.2
              exact ⟨a1, c1', hv, fun g o sp e => by obtain ⟨h0, h1, h2, h3, h4⟩ := hr1 g o sp e; exact ⟨h0, h1, by simp; omega, h3, h4⟩, hb1⟩
            obtain ⟨t0, t1, -, -, -, -⟩ := hT
            obtain ⟨hP1, ⟨u0, hu0⟩, ⟨u1, hu1⟩, fr0, fr1⟩ := A.2.2.2.1
            have HF : Hid _ := fin_pair (.string s) (.slice av L.length cv) A HL (by simp; omega)
            clear A HL
            go_wp2
            refine bodyPost_ret (v := .agg #[.string s, .slice av L.length cv]) (by simp [results, Try.results77, go_sem, *]) rfl ⟨⟨_, L, rfl, by omega, HF.out.2.2, HV.out⟩, ?_, HF.out.2.1⟩
            obtain ⟨p', hR', hp'⟩ := HF.out.1
            exact ⟨p', hR', by omega⟩
          · have hlt := hz rfl
            clear hz
            have HT : Hid (∀ w', But d.r wd w' → TubV w' (w.heap.size + 1) (w1.heap.size + 1) s (.slice av L.length cv) L) := fun w' m => tubV_but hT m (by omega) (by omega)
            obtain ⟨t0, t1, tf0, tf1, tl, -⟩ := hT
            go_upto_region 21 with fail
            obtain ⟨pp, hpp, hR⟩ := A.1
            go_region_law (first
              | (refine step_append_own rfl (.tmp 90) (.tmp 93) 23 rfl (w1.heap.size + 1) 36 i0 _ 6 48 Try.underlying23 hi hz0 hz1 hz2 rfl (by decide) _ _ _ (by simp [Act.eval]) (HO9.out.alloc _) ⟨w9.heap.size, 0, none⟩ 1 1 (Bx.vals b9) (by simp [Act.eval]) rfl (by exact news6 _ _ (by simp) b9 36) (vals_one _) (by unfold maxLen; omega) (by omega) (by simp; omega) ?_; intro v' wa hown' hgrow; obtain ⟨av', cv', hav'⟩ := owns_form hown'; subst hav'; have hbl := Below.grown (Below.refl (w1.heap.size + 1) _) hgrow (by simp; omega) (owns_block HO9.out); have q1 := hbl.cell (p := ⟨w.heap.size + 1, 1, none⟩) (by simp; omega); have q2 := hbl.frozen (p := ⟨w.heap.size + 1, 1, none⟩) (by simp; omega))
              | (refine step_call rfl 86 #[.pointer (some ⟨d.r, 0, none⟩)] (by go_simp) (drawBox_but d _ _ (rd_gr hR (Gr.refl _).drew) (by omega)) ?_; rintro e w9 ⟨⟨b9, rfl⟩, ⟨p9, R9, hp9⟩, M9⟩; refine ⟨_, rfl, ?_⟩; have A9 := ta_but (P' := p + 401 + (L.length + 1) * 20) (ta_gr A (Gr.refl _).drew) R9 M9 (by omega); have HT9 : Hid _ := HT.out w9 ((But.of_gr (Gr.refl wd).drew).trans M9); have HO9 : Hid (w9.ownsRow (w1.heap.size + 1) 36 6 (.slice av L.length cv) L.length (flat L)) := HT9.out.2.2.2.2.2; obtain ⟨j0, j1, jf0, jf1, jl, -⟩ := HT9.out; have hq9 := A9.2.2.1.choose_spec.1))
            all_goals (have HB : Hid (TA d w s w1.heap.size (p + 401 + (L.length + 1) * 20) (L.length + 1) _) := ta_next (ta_gr A9 ((Gr.refl w9).alloc (.cells #[.int .i64 b9.x, .int .i64 b9.y, .int .i64 b9.l, .int .i64 b9.h, .int .i64 b9.i, .int .i64 b9.o] 36))) (tubV_but HT9.out (But.of_gr (r := d.r) ((Gr.refl w9).alloc (.cells #[.int .i64 b9.x, .int .i64 b9.y, .int .i64 b9.l, .int .i64 b9.h, .int .i64 b9.i, .int .i64 b9.o] 36))) (by omega) (by omega)) rfl hown' hbl (but_grow (A9.2.1.trans (But.of_gr ((Gr.refl w9).alloc (.cells #[.int .i64 b9.x, .int .i64 b9.y, .int .i64 b9.l, .int .i64 b9.h, .int .i64 b9.i, .int .i64 b9.o] 36)))) hgrow (fun z hz => by have := owns_block HO9.out z hz; omega)))
            all_goals clear hown' hgrow hbl q1 q2 HT9 HO9 A9 A hR
            all_goals go_wp2
            all_goals go_roundg (40 - (L.length + 1))
            all_goals first | exact ⟨L.length + 1, by omega, rfl, HB⟩ | omega
      · have e3 : (x3 == 0) = false := by simp [hx3]
        clear hx3
        obtain ⟨v, L, hT, hL⟩ := A.2.2.2.2.1
        subst hL
        obtain ⟨av, cv, hav⟩ := owns_form hT.2.2.2.2.2
        subst hav
        have HV : Hid ((.slice av L.length cv : Value) = .slice none 0 0 ∨ ∃ g c, (.slice av L.length cv : Value) = .slice (some ⟨g, 0, none⟩) L.length c) := by
          rcases hT.2.2.2.2.2.2 with ⟨h, -⟩ | ⟨g, cap, cur, h, -⟩
          · exact Or.inl h
          · exact Or.inr ⟨g, cap, h⟩
        have HL : OwnL ((w.alloc (.cells #[.string ⟨#[]⟩, .slice none 0 0] 25)).alloc (.cells #[.string s, .slice none 0 0] 25)) w3 (.slice av L.length cv) L := by
          obtain ⟨a1, c1', hv, hr1, hb1⟩ := owns_boxes rfl hT.2.2.2.2.2
          exact ⟨a1, c1', hv, fun g o sp e => by obtain ⟨h0, h1, h2, h3, h4⟩ := hr1 g o sp e; exact ⟨h0, h1, by simp; omega, h3, h4⟩, hb1⟩
        obtain ⟨t0, t1, -, -, -, -⟩ := hT
        obtain ⟨hP1, ⟨u0, hu0⟩, ⟨u1, hu1⟩, fr0, fr1⟩ := A.2.2.2.1
        have HF : Hid _ := fin_pair (.string s) (.slice av L.length cv) A HL (by simp; omega)
        clear A HL
        go_wp2
        refine bodyPost_ret (v := .agg #[.string s, .slice av L.length cv]) (by simp [results, Try.results77, go_sem, *]) rfl ⟨⟨_, L, rfl, by omega, HF.out.2.2, HV.out⟩, ?_, HF.out.2.1⟩
        obtain ⟨p', hR', hp'⟩ := HF.out.1
        exact ⟨p', hR', by omega⟩
end Go.Proofs.Ytpdcgjkfilohcaa
