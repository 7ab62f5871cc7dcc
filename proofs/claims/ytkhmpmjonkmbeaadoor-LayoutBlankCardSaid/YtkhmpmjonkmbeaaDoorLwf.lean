/- LayoutBlank: its walk. -/
import Derived.Test.YtkhmpmjonkmbeaaDoorLwe
import Derived.Test.YtkhmpmjonkmbeaaDoorSlc
set_option linter.unusedVariables false
set_option linter.unusedSimpArgs false
namespace Go.Proofs.YtkhmpmjonkmbeaaDoor
open Go Go.RowKit L7

theorem cut_min (l : Bs) (k : Nat) (W : World) : (Instr.slice 9 (.string (strOf l)) none (some (.int .i64 (min (l.length : Int) (k : Int)))) none).run Tryd.prog W = .ok (.string (strOf (l.take k))) W := by
  by_cases h3 : l.length ≤ k
  · have e : min (l.length : Int) (k : Int) = (l.length : Int) := by omega
    rw [e, cut_to l l.length (Nat.le_refl _) W, List.take_length, List.take_of_length_le h3]
  · have e : min (l.length : Int) (k : Int) = ((k : Nat) : Int) := by omega
    rw [e, cut_to l k (by omega) W]
theorem kb2 {X w3 : World} {n : Nat} {t : TypeId} {cs : Array Value} (G : BoxS X (n + 1) t cs) (g : X.grownBy w3 (Value.slice (some ⟨n, 0, none⟩) 0 0).ownBlock) : BoxS w3 (n + 1) t cs :=
  G.kept g (fun e => absurd (show n + 1 = n from Option.some.inj e) (by omega))
theorem kb3 {X w3 : World} {n : Nat} {t : TypeId} {cs : Array Value} (G : BoxS X n t cs) (g : X.grownBy w3 (Value.slice (some ⟨n + 1, 0, none⟩) 0 0).ownBlock) : BoxS w3 n t cs :=
  G.kept g (fun e => absurd (show n = n + 1 from Option.some.inj e) (by omega))
set_option maxRecDepth 100000 in
set_option maxHeartbeats 16000000 in
theorem walkLayoutBlank (a0 : ByteArray) (w0 : a0.size ≤ maxLen) (a1 : Int) (w1 : (Lit.int .u16 a1).wf = true) (a2 : Int) (w2 : (Lit.int .u8 a2).wf = true) (a3 : ByteArray) (w3 : a3.size ≤ maxLen) (w : World) (hm : MaxIs w) :
    Calls Tryd.prog 7 #[.string a0, .int .u16 a1, .int .u8 a2, .string a3] w fun e w' => e = .returned (.bool true) ∧ Below w.heap.size w w' := by
  obtain ⟨l0, rfl⟩ : ∃ l : Bs, a0 = strOf l := ⟨_, str_self a0⟩
  obtain ⟨c0, rfl⟩ : ∃ l : Bs, a3 = strOf l := ⟨_, str_self a3⟩
  have hz0 := size_strOf l0
  have hz3 := size_strOf c0
  rw [hz0] at w0
  rw [hz3] at w3
  unfold maxLen at w0 w3
  obtain ⟨x1, rfl⟩ := Int.eq_ofNat_of_zero_le (u16_bd w1).1
  obtain ⟨x2, rfl⟩ := Int.eq_ofNat_of_zero_le (u8_bd w2).1
  have y1 := (u16_bd w1).2
  have y2 := (u8_bd w2).2
  have z1 : (0 : Int) ≤ (x1 : Int) := by omega
  have z2 : (0 : Int) ≤ (x2 : Int) := by omega
  clear w1 w2
  obtain ⟨s, hs⟩ : ∃ s, l0.take 2000 = s := ⟨_, rfl⟩
  obtain ⟨cm, hcm⟩ : ∃ c, c0.take 50 = c := ⟨_, rfl⟩
  have hsl : s.length ≤ 2000 := by rw [← hs, List.length_take]; omega
  have hcl : cm.length ≤ 50 := by rw [← hcm, List.length_take]; omega
  have m1 : ∀ W : World, (Instr.slice 9 (.string (strOf l0)) none (some (.int .i64 (min (l0.length : Int) 2000))) none).run Tryd.prog W = .ok (.string (strOf s)) W := fun W => by rw [← hs]; exact cut_min l0 2000 W
  have m2 : ∀ W : World, (Instr.slice 9 (.string (strOf c0)) none (some (.int .i64 (min (c0.length : Int) 50))) none).run Tryd.prog W = .ok (.string (strOf cm)) W := fun W => by rw [← hcm]; exact cut_min c0 50 W
  have HX := Lib.hid hm
  have CW := Lib.hid (fun (W : World) (h : MaxIs W) => works_any W h)
  have hzs := size_strOf s
  have hzc := size_strOf cm
  clear hs hcm hm
  obtain ⟨n, hn⟩ : ∃ n, cm.length = n := ⟨_, rfl⟩
  rw [hn] at hzc hcl
  have hn0 : (0 : Int) ≤ (n : Int) := by omega
  have hn50 : (n : Int) ≤ 50 := by omega
  have HN := Lib.hid hn
  have HD := Lib.hid (fun nq => bdrew (b0 w) nq)
  clear hn hzs
  go_enter Tryd.func7, Tryd.ntmps7
  go_wp2
  go_quiet (fail)
  have HV := Lib.hid (HD.out nq)
  clear HD m1 m2
  generalize w.drewN nq = V at *
  go_wp2
  go_loopw [9] (fun i wr => ∃ k : Nat, k ≤ n ∧ i = .int .i64 k ∧ V = wr ∧ Hid ((cm.take k).all plainB = true)) (fun i _ => n - (intOf i).toNat)
  case atStart => exact ⟨0, by omega, rfl, rfl, Lib.hid (by rw [List.take_zero]; rfl)⟩
  case round =>
    obtain ⟨k, hk, rfl, rfl, H⟩ := hrel
    have hk0 : (0 : Int) ≤ (k : Int) := by omega
    by_cases hk1 : (k : Int) < (n : Int)
    · have hkn : k < cm.length := by have := HN.out; omega
      have hi := index_l cm k hkn
      have hpl := plain_int (cm.getD k 0) (cm.getD k 0).toNat rfl
      have HSn := Lib.hid (fun h => all_snoc (l := cm) (k := k) (f := plainB) hkn H.out h)
      generalize cm.getD k 0 = c at *
      obtain ⟨N, hN⟩ : ∃ N, c.toNat = N := ⟨_, rfl⟩
      rw [hN] at hi hpl
      clear hN
      by_cases hlo : (N : Int) < 32
      · clear hpl HSn H
        go_wp2_with (first
          | (go_at_call 13; (with_reducible refine (CW.out _ (HX.out.below HV.out)).mono ?_); rintro e v1 ⟨rfl, b⟩; have H1 := Lib.hid (blw HV.out b); clear b))
        go_ret
        exact ⟨rfl, H1.out⟩
      · by_cases hhi : (126 : Int) < (N : Int)
        · clear hpl HSn H
          go_wp2_with (first
            | (go_at_call 13; (with_reducible refine (CW.out _ (HX.out.below HV.out)).mono ?_); rintro e v1 ⟨rfl, b⟩; have H1 := Lib.hid (blw HV.out b); clear b))
          go_ret
          exact ⟨rfl, H1.out⟩
        · have hpt : plainB c = true := by rw [hpl, decide_eq_true (by omega), decide_eq_true (by omega)]; rfl
          have HH := Lib.hid (HSn.out hpt)
          clear hpl HSn H hpt
          go_wp2
          go_roundw
          case rel => exact ⟨k + 1, by omega, by go_num, trivial, HH⟩
          case measure => simp [intOf]; omega
    · obtain rfl : k = n := by omega
      have hall : cm.all plainB = true := by
        have h := H.out
        rwa [List.take_of_length_le (by have := HN.out; omega)] at h
      clear H hk hk1
      have CSp := Lib.hid (cSplit s (by omega) V (HX.out.below HV.out))
      have hln := lns_len s
      have HLn := Lib.hid (Eq.refl (lnsOf s).length)
      obtain ⟨N, hN⟩ : ∃ N, (lnsOf s).length = N := ⟨_, rfl⟩
      rw [hN] at CSp hln
      have HNN := Lib.hid hN
      clear hN HLn
      obtain ⟨j, hj⟩ : ∃ j, x1 % (N + 1) = j := ⟨_, rfl⟩
      have e1 := tmod_nat x1 (N + 1)
      rw [hj] at e1
      have e1' : (x1 : Int).tmod ((N : Int) + 1) = (j : Int) := e1
      have hjN : j ≤ N := by have := Nat.mod_lt x1 (show 0 < N + 1 by omega); omega
      obtain ⟨d, hd⟩ : ∃ d, x2 % 80 = d := ⟨_, rfl⟩
      have e2 := tmod_nat x2 80
      rw [hd] at e2
      have e2' : (x2 : Int).tmod 80 = (d : Int) := e2
      have hd80 : d ≤ 80 := by omega
      have CR := Lib.hid (fun (W : World) => cRepeatSp d (by omega) W)
      have p1 : (N : Int) ≤ 2001 := by omega
      have p2 : (0 : Int) ≤ (N : Int) := by omega
      have p3 : (j : Int) ≤ (N : Int) := by omega
      have p4 : (0 : Int) ≤ (j : Int) := by omega
      have p5 : ((N : Int) + 1 == 0) = false := by simp; omega
      have p6 : ¬ ((N : Int) + 1 = 0) := by omega
      have HF := Lib.hid (And.intro hall (And.intro hsl (And.intro hcl (And.intro hjN (And.intro hd80 hln)))))
      obtain ⟨B, hB⟩ : ∃ B, blankL d cm = B := ⟨_, rfl⟩
      have HB := Lib.hid hB
      obtain ⟨Z, hZ⟩ : ∃ Z, strOf (List.replicate d 32) = Z := ⟨_, rfl⟩
      obtain ⟨Y, hY⟩ : ∃ Y, strOf (List.replicate d 32 ++ [45, 45]) = Y := ⟨_, rfl⟩
      rw [hZ] at CR
      have key : (¬ (0 : Int) < (k : Int) ∧ Z = strOf B) ∨ ((0 : Int) < (k : Int) ∧ Op.stringOp .add Z ⟨#[45, 45]⟩ = pure (.string Y) ∧ Op.stringOp .add Y (strOf cm) = pure (.string (strOf B))) := by
        by_cases hc0 : cm = []
        · refine .inl ⟨by have := HN.out; rw [hc0] at this; simp at this; omega, ?_⟩
          rw [← hZ, ← hB]
          unfold blankL
          rw [if_pos hc0]
        · have hcp := List.length_pos_iff.2 hc0
          refine .inr ⟨by have := HN.out; omega, ?_, ?_⟩
          · rw [← hZ, ← hY]
            exact cat_str (List.replicate d 32) [45, 45] (by rw [List.length_replicate]; simp; omega)
          · rw [← hY, ← hB]
            have h := cat_str (List.replicate d 32 ++ [45, 45]) cm (by have := HN.out; simp; omega)
            rw [h]
            unfold blankL
            rw [if_neg hc0]
            simp
      clear hj e1 hd e2 hB hZ hY hall hsl hcl hjN hd80 hln
      obtain ⟨Dp, hD1, hD2⟩ := slice_from V.heap.size N j (by omega)
      have hT1 := slice_to V.heap.size N j (by omega)
      have HDp := Lib.hid hD2
      clear hD2
      obtain ⟨rs, nn, er, hr⟩ : ∃ rs nn er, rows s = (rs, nn, er) := ⟨_, _, _, rfl⟩
      have hBp : B.all plainB = true := by rw [← HB.out]; exact blank_plain HF.out.1
      have hBe : (cutL B).2.isEmpty = true := by rw [← HB.out]; exact blank_empty d cm
      have hBl : B.length ≤ 200 := by
        rw [← HB.out]
        have h1 := blank_len (n := d) (c := cm)
        have h2 := HN.out
        have h3 := HF.out.2.2.1
        have h4 := HF.out.2.2.2.2.1
        omega
      have hput := putS_rows (s := s) (b := B) (j := j) hBp hBe (by have := HF.out.2.1; omega)
      have hpl := putS_len (s := s) (b := B) (j := j) (plain_no hBp)
      rw [hr] at hput
      dsimp only at hput
      have hag := rows_again (by have := HF.out.2.1; omega) hr
      rw [HNN.out] at hag
      have hsm : OKL rs := by have := rows_small s; rw [hr] at this; exact this
      have hsm2 : OKL (rs.map (upR j)) := fun x hx => by
        obtain ⟨y, hy, rfl⟩ := List.mem_map.1 hx
        exact hsm y hy
      have hnb : (0 : Int) ≤ nn ∧ nn ≤ (N : Int) := by
        rcases hag with ⟨_, h, _⟩ | ⟨_, _, h1, h2⟩
        · omega
        · omega
      have hnb1 := hnb.1
      have hnb2 := hnb.2
      have hzb : ∀ i, i < rs.length → 0 ≤ (rs.getD i r0).no ∧ (rs.getD i r0).no ≤ (N : Int) := by
        intro i hi
        rcases hag with ⟨_, _, hm, _, hno⟩ | ⟨_, h, _⟩
        · obtain ⟨_, hok, _⟩ := may_ok hm
          have h1 := ok_bounds (hok i hi)
          have h2 := pv_bounds (l := rs) (k := i) (fun q hq => hok q (by omega)) (by omega)
          have h3 : 0 ≤ (rs.getD i r0).no := Int.le_of_lt (Int.lt_of_le_of_lt h2.1 h1.1)
          exact ⟨h3, hno _ (getD_mem hi)⟩
        · rw [h] at hi; simp at hi
      have hM0 : rs.length ≤ 2048 := by
        rcases hag with ⟨_, _, hm, _⟩ | ⟨_, h, _⟩
        · exact (may_ok hm).1
        · rw [h]; simp
      obtain ⟨M, hM⟩ : ∃ M, rs.length = M := ⟨_, rfl⟩
      rw [hM] at hM0
      have hM1 : (M : Int) ≤ 2048 := by omega
      have CA := Lib.hid (fun (W : World) (h : MaxIs W) => show Calls Tryd.prog 10 #[.string (strOf s)] W fun en w' => ∃ A c, en = .returned (.tuple #[.slice A M c, .int .i64 nn, .int .i64 er]) ∧ RR w' A c rs ∧ Below W.heap.size W w' from ((rows_at (by have := HF.out.2.1; unfold maxLen; omega) W h hr).mono (by
        rintro e w' ⟨A, c, h1, h2, h3⟩
        rw [hM] at h1 h2
        exact ⟨A, c, h1, h2.rr hsm, h3⟩)))
      have CB := Lib.hid (fun (W : World) (h : MaxIs W) => show Calls Tryd.prog 10 #[.string (strOf (putS s B j))] W fun en w' => ∃ A c, en = .returned (.tuple #[.slice A M c, .int .i64 (upZ j nn), .int .i64 er]) ∧ RR w' A c (rs.map (upR j)) ∧ Below W.heap.size W w' from ((rows_at (by have := HF.out.2.1; unfold maxLen; omega) W h hput).mono (by
        rintro e w' ⟨A, c, h1, h2, h3⟩
        rw [List.length_map, hM] at h1 h2
        exact ⟨A, c, h1, h2.rr hsm2, h3⟩)))
      have CE := Lib.hid (fun (W : World) (A B : Option Addr) (c d : Nat) (R : RR W A c (rs.map (upR j))) (S : RR W B d rs) => show Calls Tryd.prog 19 #[.slice A M c, .slice B M d] W fun e w' => e = .returned (.bool true) ∧ Below W.heap.size W w' from (by
        have := RAlike_any R S (by rw [List.length_map, hM]) hM
        rw [decide_eq_true (show kern (rs.map (upR j)) = kern rs by unfold kern; rw [List.map_map]; rfl)] at this
        exact this))
      have CJ := Lib.hid (fun (W : World) (A : Option Addr) (c : Nat) (B0 : Nat) (o : OwnS W B0 A (N + 1) c ((lnsOf s).take j ++ [B] ++ (lnsOf s).drop j)) => show Calls Tryd.prog 23 #[.slice A (N + 1) c, .string ⟨#[10]⟩] W fun e w' => e = .returned (.string (strOf (putS s B j))) ∧ Below W.heap.size W w' from (by
        have e0 : (lnsOf s).take j ++ [B] ++ (lnsOf s).drop j = (lnsOf s).take j ++ B :: (lnsOf s).drop j := by rw [List.append_assoc, List.singleton_append]
        rw [e0] at o
        exact cJoin o 10 (by omega) (by show (putS s B j).length ≤ _; have := HF.out.2.1; omega)))
      have HZ := Lib.hid (And.intro hzb (fun i hi => up_get (l := rs) (i := i) (k := j) hi))
      have HMl := Lib.hid hM
      have q5 : (er != er) = false := by simp
      obtain ⟨u, hu⟩ : ∃ u, upZ j nn = u := ⟨_, rfl⟩
      rw [hu] at CB
      have hup : ((j : Int) < nn ∧ u = nn + 1) ∨ (¬ (j : Int) < nn ∧ u = nn) := by
        rw [← hu]
        unfold upZ
        by_cases h : (j : Int) < nn
        · exact .inl ⟨h, if_pos h⟩
        · exact .inr ⟨h, if_neg h⟩
      clear hr hBp hBe hBl hput hpl hag hsm hsm2 hnb hzb hM0 hM hu
      generalize strOf (putS s B j) = PS at *
      rcases key with ⟨q1, rfl⟩ | ⟨q1, q2, q3⟩
      all_goals (
        go_wp2_with (first
          | (go_at_call 21; (with_reducible refine (CSp.out).mono ?_); clear CSp; rintro e v1 ⟨rfl, o1, b1⟩; have H1 := Lib.hid (And.intro (blw HV.out b1) o1); clear b1 o1)
          | (go_at_call 22; (with_reducible refine (CR.out _).mono ?_)))
        clear CR
        rintro e v2 ⟨rfl, b2⟩
        have H2 := Lib.hid (And.intro (blw H1.out.1 b2) (H1.out.2.keep b2))
        clear b2 y1 y2 z1 z2 hn0 hn50 hk0 H1
        go_wp2
        have hlj : ((lnsOf s).take j).length = j := by rw [List.length_take, HNN.out]; omega
        have hld : ((lnsOf s).drop j).length = N - j := by rw [List.length_drop, HNN.out]
        have SA := Lib.hid (H2.out.2.ss)
        have L1 : Below v2.heap.size v2 (v2.alloc (.cells #[] 9)).drew := bdrew (bal (b0 v2) _) 1
        have L2 : Below v2.heap.size v2 ((v2.alloc (.cells #[] 9)).alloc (.cells #[.string (strOf B)] 9)).drew := bdrew (bal (bal (b0 v2) _) _) 1
        have L3 : Below v2.heap.size v2 ((v2.alloc (.cells #[.string (strOf B)] 9)).alloc (.cells #[] 9)).drew := bdrew (bal (bal (b0 v2) _) _) 1
        have e3 := boxS_new (v2.alloc (.cells #[.string (strOf B)] 9)) 9 #[]
        have g2 := boxS_new (v2.alloc (.cells #[] 9)) 9 #[.string (strOf B)]
        rw [World.size_alloc] at e3 g2
        have E1 := Lib.hid (ownS_e (boxS_new v2 9 #[]) (Nat.le_refl _))
        have E2 := Lib.hid (ownS_e ((boxS_new v2 9 #[]).alloc (.cells #[.string (strOf B)] 9)) (Nat.le_refl _))
        have E3 := Lib.hid (ownS_e (B := v2.heap.size) e3 (by omega))
        have G2 : Hid (BoxS ((v2.alloc (.cells #[] 9)).alloc (.cells #[.string (strOf B)] 9)).drew (v2.heap.size + 1) 9 #[.string (strOf B)]) := Lib.hid g2
        have G3 : Hid (BoxS ((v2.alloc (.cells #[.string (strOf B)] 9)).alloc (.cells #[] 9)).drew v2.heap.size 9 #[.string (strOf B)]) := Lib.hid ((boxS_new v2 9 #[.string (strOf B)]).alloc (.cells #[] 9))
        have S1 := Lib.hid (And.intro L1 ((SA.out.keep L1).take j))
        have S2 := Lib.hid (And.intro L2 ((SA.out.keep L2).take j))
        have S3 := Lib.hid (And.intro L3 ((SA.out.keep L3).take j))
        have HLj := Lib.hid (And.intro hlj hld)
        clear L1 L2 L3 e3 g2 hlj hld
        go_region_law (first
          | ((refine step_strs rfl (.tmp 68) (.tmp 71) rfl v2.heap.size 0 0 j N j _ _ [] ((lnsOf s).take j) rfl rfl (by first | exact E1.out | exact E2.out | exact E3.out) HLj.out.1 (by first | exact S1.out.2 | exact S2.out.2 | exact S3.out.2) (by omega) (by omega) (by first | exact S1.out.1.size | exact S2.out.1.size | exact S3.out.1.size) ?_; intro A3 c3 w3 o3 g3; have H3 : Hid (Below v2.heap.size v2 w3 ∧ OwnS w3 v2.heap.size A3 j c3 ((lnsOf s).take j)) := (by first | exact Lib.hid ⟨bgrow S1.out.1 E1.out (Nat.le_refl _) g3, o3⟩ | exact Lib.hid ⟨bgrow S2.out.1 E2.out (Nat.le_refl _) g3, o3⟩ | exact Lib.hid ⟨bgrow S3.out.1 E3.out (Nat.le_refl _) g3, o3⟩)))
          | (((refine step_strs rfl (.tmp 72) (.tmp 74) rfl v2.heap.size j c3 1 1 (j + 1) A3 _ ((lnsOf s).take j) [B] rfl rfl (by first | exact H3.out.2 | exact H3.out.2.keep (bal (b0 w3) _)) rfl (by first | exact ss_one (boxS_new w3 _ _) | exact ss_one (kb2 G2.out g3) | exact ss_one (kb3 G3.out g3)) rfl (by omega) (by first | exact H3.out.1.size | exact (bal H3.out.1 _).size) ?_); intro A4 c4 w4 o4 g4; have H4 : Hid (Below v2.heap.size v2 w4 ∧ OwnS w4 v2.heap.size A4 (j + 1) c4 ((lnsOf s).take j ++ [B])) := (by first | exact Lib.hid ⟨bgrow H3.out.1 H3.out.2 (Nat.le_refl _) g4, o4⟩ | exact Lib.hid ⟨bgrow (bal H3.out.1 _) (H3.out.2.keep (bal (b0 w3) _)) (Nat.le_refl _) g4, o4⟩)))
          | (((refine step_strs rfl (.tmp 75) (.tmp 78) rfl v2.heap.size (j + 1) c4 (N - j) (N - j) (N + 1) A4 Dp ((lnsOf s).take j ++ [B]) ((lnsOf s).drop j) rfl rfl H4.out.2 HLj.out.2 (HDp.out _ _ HNN.out (SA.out.keep H4.out.1)) (by omega) (by omega) H4.out.1.size ?_); intro A5 c5 w5 o5 g5; have H5 := Lib.hid (And.intro (bgrow H4.out.1 H4.out.2 (Nat.le_refl _) g5) o5)))
          | fail)
        all_goals (
          have HH5 := Lib.hid (And.intro (blw H2.out.1 H5.out.1) (And.intro (HX.out.below (blw H2.out.1 H5.out.1)) H5.out.2))
          clear E1 E2 E3 G2 G3 S1 S2 S3 SA H2 g3 g4 g5 o3 o4 o5 hD1 hT1 HDp HLj H3 H4 H5
          rcases hup with ⟨q7, rfl⟩ | ⟨q7, rfl⟩
          all_goals (
            go_wp2_with (first
              | (go_at_call 10; (with_reducible refine (CA.out _ HH5.out.2.1).mono ?_); clear CA; rintro e w6 ⟨A6, c6, rfl, r6, b6⟩; have H6 := Lib.hid (And.intro (blw HH5.out.1 b6) (And.intro (HH5.out.2.1.below b6) (And.intro (HH5.out.2.2.keep b6) r6))); clear r6 b6)
              | (go_at_call 23; (with_reducible refine (CJ.out _ _ _ _ H6.out.2.2.1).mono ?_); clear CJ; rintro e w7 ⟨rfl, b7⟩; have H7 := Lib.hid (keep3 (And.intro H6.out.1 (And.intro H6.out.2.1 H6.out.2.2.2)) b7); clear b7)
              | (go_at_call 10; (with_reducible refine (CB.out _ H7.out.2.1).mono ?_); clear CB; rintro e w8 ⟨A8, c8, rfl, r8, b8⟩; have H8 := Lib.hid (And.intro (keep3 H7.out b8) r8); clear r8 b8)
              | (go_at_call 19; (with_reducible refine (CE.out _ _ _ _ _ H8.out.2 H8.out.1.2.2).mono ?_); clear CE; rintro e w9 ⟨rfl, b9⟩; have H9 := Lib.hid (And.intro (keep3 H8.out.1 b9) (H8.out.2.keep b9)); clear b9))
            go_loopw [114] (fun i wr => ∃ k2 : Nat, k2 ≤ M ∧ i = .int .i64 k2 ∧ w9 = wr) (fun i _ => M - (intOf i).toNat)
            case atStart => exact ⟨0, Nat.zero_le _, rfl, rfl⟩
            case round =>
              obtain ⟨k2, hk2, rfl, rfl⟩ := hrel
              have hk20 : (0 : Int) ≤ (k2 : Int) := by omega
              by_cases hk21 : (k2 : Int) < (M : Int)
              · have hkr : k2 < rs.length := by have := HMl.out; omega
                obtain ⟨ad1, ea1, f1, _, _⟩ := H9.out.1.2.2.rd k2 hkr
                obtain ⟨ad2, ea2, f2, _, _⟩ := H9.out.2.rd k2 (by rw [List.length_map]; exact hkr)
                obtain ⟨hz1, hz2⟩ := HZ.out.1 k2 hkr
                rw [show ((rs.map (upR j)).getD k2 r0).no = upZ j (rs.getD k2 r0).no from HZ.out.2 k2 hkr] at f2
                generalize (rs.getD k2 r0).no = z at *
                subst ea1 ea2
                by_cases hjz : (j : Int) < z
                · rw [show upZ j z = z + 1 from if_pos hjz] at f2
                  go_wp2
                  go_roundw
                  case rel => exact ⟨k2 + 1, by omega, by go_num, trivial⟩
                  case measure => simp [intOf]; omega
                · rw [show upZ j z = z from if_neg hjz] at f2
                  go_wp2
                  go_roundw
                  case rel => exact ⟨k2 + 1, by omega, by go_num, trivial⟩
                  case measure => simp [intOf]; omega
              · obtain rfl : k2 = M := by omega
                go_wp2_with (go_at_call 13; (with_reducible refine (CW.out _ H9.out.1.2.1).mono ?_); rintro e wx ⟨rfl, b⟩; have HXX := Lib.hid (blw H9.out.1.1 b); clear b)
                go_ret
                exact ⟨rfl, HXX.out⟩)))
end Go.Proofs.YtkhmpmjonkmbeaaDoor
