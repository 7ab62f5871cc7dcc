/- The laws: FoldChain. -/
import Derived.Test.YtimbiobonigdmaaDoorChp
import Derived.Test.YtimbiobonigdmaaDoorM16
import Derived.Deep.CutRange
set_option linter.unusedVariables false
set_option linter.unusedSimpArgs false
namespace Go.Proofs.YtimbiobonigdmaaDoor
open Go Go.RowKit L8 L10 L14

theorem lastD_l (v : Int) (j : Nat) : (lastD v j).l = [] := by cases j <;> rfl
theorem lastD_ok (v : Int) (hv : inW v) (j : Nat) : OKe (lastD v j) := by
  cases j with
  | zero => exact litE_ok hv
  | succ j => exact nameE_ok (nmD_len j)
theorem chD_len (v : Int) : ∀ j, (chD v j).length = j
  | 0 => rfl
  | j + 1 => by rw [chD, List.length_cons, chD_len v j]
theorem chC_len (v : Int) : ∀ j, (chC v j).length = j
  | 0 => rfl
  | j + 1 => by rw [chC, List.length_cons, chC_len v j]
theorem far_pt {w X Y : World} {q n c m d g : Nat} {bx cs : Array Value} {t : TypeId} {A B : Option Addr} {L K : List Sx} (h : Two w X q bx A n c L B m d K) (b : Below X.heap.size X Y) (hb : BoxS Y X.heap.size t cs) (hg : Y.heap.size ≤ g) : Pt q A B g ∧ g ≠ X.heap.size := by
  have := (Array.getElem?_eq_some_iff.1 (show Y.heap[X.heap.size]? = _ from hb)).1
  exact ⟨h.pt (by omega), by omega⟩
set_option maxRecDepth 100000 in
set_option maxHeartbeats 32000000 in
theorem walkFoldChain (v : Int) (hv : inW v) (n : Nat) (hn : n < 256) (w : World) (T : T10 w) : Calls Tryd.prog 7 #[.int .i32 v, .int .u8 (n : Int)] w fun en w' => en = .returned (.bool true) ∧ Below w.heap.size w w' := by
  obtain ⟨m, hm, hm2⟩ : ∃ m : Nat, (n : Int).tmod 201 = (m : Int) ∧ m ≤ 200 := ⟨n % 201, by rw [Int.tmod_eq_emod_of_nonneg (by omega)]; omega, by omega⟩
  have hn0 : wrap64 (n : Int) = (n : Int) := by unfold wrap64; omega
  have J0 := Lib.hid (b0 ((w.alloc (.cells #[] 51)).alloc (.cells #[] 51)))
  have HT := Lib.hid fun X (b : Below w.heap.size w X) => T.below b
  clear T hn
  go_enter Tryd.func7, Tryd.ntmps7
  go_wp2_with (go_at_call 18; (with_reducible refine (num_is v _).mono ?_); rintro e1 w1 ⟨rfl, b1⟩; have H1 := Lib.hid (two_new (v := w1) #[.int .u8 1, .int .u8 0, .int .u8 0, .int .i32 v, .string ⟨#[]⟩, .slice none 0 0] b1); clear b1)
  have H1 := Lib.hid (show Two w (w1.alloc (.cells #[.int .u8 1, .int .u8 0, .int .u8 0, .int .i32 v, .string ⟨#[]⟩, .slice none 0 0] 31)) w1.heap.size (exC (lastD v 0) none 0 0) (some ⟨w.heap.size, 0, none⟩) 0 0 [] (some ⟨w.heap.size + 1, 0, none⟩) 0 0 [] from H1.out)
  generalize w1.alloc (.cells #[.int .u8 1, .int .u8 0, .int .u8 0, .int .i32 v, .string ⟨#[]⟩, .slice none 0 0] 31) = V at *
  generalize w1.heap.size = q at *
  go_loopw [6, 7, 9, 22] (fun dv cv wt i wr => ∃ (j cd cc : Nat) (Ad Ac : Option Addr) (Ld Lc : List Sx), j ≤ m ∧ i = .int .i64 (j : Int) ∧ dv = .slice Ad j cd ∧ cv = .slice Ac j cc ∧ wt = .int .i32 (wantD v j) ∧ Hid (Two w wr q (exC (lastD v j) none 0 0) Ad j cd Ld Ac j cc Lc) ∧ Hid ((Ld.map Sx.x).reverse = chD v j ∧ (Lc.map Sx.x).reverse = chC v j)) (fun _ _ _ i _ => m - (intOf i).toNat)
  case atStart => exact ⟨0, 0, 0, _, _, [], [], Nat.zero_le _, rfl, rfl, rfl, rfl, H1, Lib.hid ⟨rfl, rfl⟩⟩
  case round =>
    obtain ⟨j, cd, cc, Ad, Ac, Ld, Lc, hj, rfl, rfl, rfl, rfl, K, C⟩ := hrel
    have hj0 : (0 : Int) ≤ (j : Int) := by omega
    by_cases hlt : (j : Int) < (m : Int)
    · obtain ⟨p, hp, hp2, hp3⟩ : ∃ p : Nat, (j : Int).tdiv 26 = (p : Int) ∧ p ≤ 7 ∧ p = j / 26 := ⟨j / 26, by rw [Int.tdiv_eq_ediv_of_nonneg hj0]; omega, by omega, rfl⟩
      obtain ⟨r, hr, hr2, hr3⟩ : ∃ r : Nat, (j : Int).tmod 26 = (r : Int) ∧ r ≤ 25 ∧ r = j % 26 := ⟨j % 26, by rw [Int.tmod_eq_emod_of_nonneg hj0]; omega, by omega, rfl⟩
      have hcv := conv_two (97 + p) (97 + r) wr
      rw [show ((97 + p : Nat) : Int) = 97 + (p : Int) by omega, show ((97 + r : Nat) : Int) = 97 + (r : Int) by omega] at hcv
      have hcat : (⟨#[120]⟩ : ByteArray) ++ strOf [UInt8.ofNat (97 + p), UInt8.ofNat (97 + r)] = strOf (nmD j) := by
        rw [cat_x, hp3, hr3]
        rfl
      have hs2 : (strOf [UInt8.ofNat (97 + p), UInt8.ofNat (97 + r)]).size = 2 := size_strOf _
      generalize strOf [UInt8.ofNat (97 + p), UInt8.ofNat (97 + r)] = S2 at *
      obtain ⟨S, hS⟩ : ∃ S, strOf (nmD j) = S := ⟨_, rfl⟩
      rw [hS] at hcat
      have HS := Lib.hid hS
      have NJ := Lib.hid (nm_is (nmD j) S hS)
      have HL := lastD_l v j
      have OE := lastD_ok v hv j
      have HD := Lib.hid (fun (L : List Sx) (y : Sx) h hy => chD_cat (v := v) (j := j) (L := L) (y := y) h hy)
      obtain ⟨e, he⟩ : ∃ e, lastD v j = e := ⟨_, rfl⟩
      rw [he] at K HL OE HD
      have D2 := Lib.hid (two_f6 e e HL HL OE OE)
      have D3 := Lib.hid (fun g w R => (hS ▸ val_f2 (nmD j) e e g w R : Calls Tryd.prog 17 #[.string S, .agg #[.int .u8 7, .int .u8 6, .int .u8 0, .int .i32 0, .string ⟨#[]⟩, .slice (some ⟨g, 0, none⟩) 2 2]] w fun en w' => ∃ g2, w.heap.size ≤ g2 ∧ en = .returned (.agg #[.int .u8 2, .int .u8 1, .int .i64 0, .int .u8 0, .string ⟨#[]⟩, .slice (some ⟨g2, 0, none⟩) 1 1, .int .u8 7, .int .u8 6, .int .u8 0, .int .i32 0, .string ⟨#[]⟩, .slice (some ⟨g, 0, none⟩) 2 2, .bool false, .slice none 0 0, .slice none 0 0, .slice none 0 0]) ∧ SS w' (some ⟨g2, 0, none⟩) 1 [nmD j] ∧ Below w.heap.size w w'))
      have K8 := Lib.hid (K.out.step (bal (b0 wr) (.cells #[.int .u8 (97 + (p : Int)), .int .u8 (97 + (r : Int))] 5)))
      have hw : wrap32 (wantD v j + wantD v j) = wantD v (j + 1) := w32_is _
      generalize wantD v j = W0 at *
      obtain ⟨W1, hW1⟩ : ∃ W1, wantD v (j + 1) = W1 := ⟨_, rfl⟩
      rw [hW1] at hw
      have HW1 := Lib.hid hW1
      clear hW1
      clear he HL OE hp3 hr3 hS K
      dsimp only [exV, exC] at D2 K8
      generalize strOf e.s = SE at *
      go_upto_region 9 with fail
      clear hcv hcat hp hr hs2
      generalize wr.alloc (.cells #[.int .u8 (97 + (p : Int)), .int .u8 (97 + (r : Int))] 5) = X8 at *
      obtain ⟨p0, p1, p2, p3, p4, p5⟩ := box6 K8.out.box
      go_upto_region 10 with (first
        | (go_at_call 23; (with_reducible refine (D2.out _).mono ?_); rintro e1 w3 ⟨g1, h1, rfl, t1, b1⟩; have K9 := Lib.hid (K8.out.step b1); have R1 := Lib.hid (t1 (fun _ => True) trivial).tr; have T1 := Lib.hid (t1 _ (K8.out.pt h1)); clear h1 t1 b1)
        | (go_at_call 17; (with_reducible refine (D3.out _ _ R1.out).mono ?_); rintro e1 w4 ⟨g2, h1, rfl, s1, b1⟩; have Y1 := Lib.hid (new_v (nmD_len j) s1 (K9.out.pt h1) (T1.out.keep b1)); have K10 := Lib.hid (K9.out.step b1); have AP := Lib.hid (K10.out.app1 Y1.out); clear h1 s1 b1)
        | (at_builtin; refine app_sx rfl (.tmp 36) (.tmp 42) rfl w.heap.size j cd 1 1 (j + 1) Ad (some ⟨w4.heap.size, 0, none⟩) Ld [(sxOf (valS (nmD j) (twoE 6 e e)) (some ⟨g2, 0, none⟩) 1 (some ⟨g1, 0, none⟩) 2)] rfl rfl AP.out.1 rfl AP.out.2.1 AP.out.2.2.1 rfl (by omega) AP.out.2.2.2.1 ?_; intro A2 c2 X9 o g hN; have K11 := Lib.hid (AP.out.2.2.2.2 X9 A2 c2 o g hN); clear o g hN; clear p0 p1 p2 p3 p4 p5))
      clear K8 K9 K10 AP R1 T1 D2 D3
      go_upto_region 11 with (go_at_call 24; (with_reducible refine (NJ.out _).mono ?_); rintro e1 w6 ⟨rfl, b1⟩; have K12 := Lib.hid (K11.out.step b1); clear b1; obtain ⟨r0, r1, r2, r3, r4, r5⟩ := box6 K12.out.box; obtain ⟨f0, f1, f2, f3, f4, f5⟩ := box6f K12.out.box)
      have K13 := Lib.hid (K12.out.set (.int .u8 4) (.int .u8 0) (.int .u8 0) (.int .i32 0) (.string S) (.slice none 0 0))
      unfold set6 at K13
      clear r0 r1 r2 r3 r4 r5 f0 f1 f2 f3 f4 f5 K12 K11
      generalize (((((w6.setCell ⟨q, 0, none⟩ (.int .u8 4)).setCell ⟨q, 1, none⟩ (.int .u8 0)).setCell ⟨q, 2, none⟩ (.int .u8 0)).setCell ⟨q, 3, none⟩ (.int .i32 0)).setCell ⟨q, 4, none⟩ (.string S)).setCell ⟨q, 5, none⟩ (.slice none 0 0) = X10 at *
      go_upto_region 13 with (go_at_call 18; (with_reducible refine (num_is v _).mono ?_); rintro e1 w8 ⟨rfl, b1⟩; have K14 := Lib.hid (K13.out.step b1); clear b1)
      clear K13
      have C2 := Lib.hid (HD.out Ld (sxOf (valS (nmD j) (twoE 6 e e)) (some ⟨g2, 0, none⟩) 1 (some ⟨g1, 0, none⟩) 2) C.out.1 rfl)
      have hq := Lib.hid (boxS_new w8 31 #[.int .u8 1, .int .u8 0, .int .u8 0, .int .i32 v, .string ⟨#[]⟩, .slice none 0 0])
      rcases Nat.eq_zero_or_pos j with hz | hz
      · have hj1 : ¬ (0 : Int) < (j : Int) := by omega
        obtain ⟨x0, x1, x2, x3, x4, x5⟩ := box6 hq.out
        have K15 := Lib.hid (K14.out.step (bal (b0 w8) (.cells #[.int .u8 1, .int .u8 0, .int .u8 0, .int .i32 v, .string ⟨#[]⟩, .slice none 0 0] 31)))
        have HC := Lib.hid (fun (y : Sx) (h : y.x = valS nB (litE 1 v)) => chC_cat (v := v) (j := j) (L := Lc) (y := y) C.out.2 (by rw [h, hz]; rfl))
        clear hz
        generalize w8.alloc (.cells #[.int .u8 1, .int .u8 0, .int .u8 0, .int .i32 v, .string ⟨#[]⟩, .slice none 0 0] 31) = X11 at *
        go_wp2_with (first
          | (go_at_call 17; (with_reducible refine (val_n1 v _).mono ?_); rintro e1 w12 ⟨g4, h1, rfl, s1, b1⟩; have Y2 := Lib.hid (new_1 (N := Pt q A2 Ac) hv s1 (K15.out.pt h1)); have K16 := Lib.hid (K15.out.step b1); have AP := Lib.hid (K16.out.swap.app1 (Y2.out.mono fun _ _ k => ⟨k.1, k.2.2, k.2.1⟩)); clear h1 s1 b1)
          | (at_builtin; refine app_sx rfl (.tmp 56) (.tmp 59) rfl w.heap.size j cc 1 1 (j + 1) Ac (some ⟨w12.heap.size, 0, none⟩) Lc [(sxOf (valS nB (litE 1 v)) (some ⟨g4, 0, none⟩) 1 none 0)] rfl rfl AP.out.1 rfl AP.out.2.1 AP.out.2.2.1 rfl (by omega) AP.out.2.2.2.1 ?_; intro A3 c3 X13 o g hN; have K17 := Lib.hid (AP.out.2.2.2.2 X13 A3 c3 o g hN).swap; clear o g hN))
        go_roundw
        case rel =>
          have K18 := K17.out
          rw [← HS.out] at K18
          exact ⟨j + 1, c2, c3, A2, A3, _, _, by omega, by go_num, rfl, rfl, by rw [HW1.out], Lib.hid K18, Lib.hid ⟨C2.out, HC.out _ rfl⟩⟩
        case measure => simp [intOf]; omega
      · have hj1 : (0 : Int) < (j : Int) := by omega
        have HC := Lib.hid (fun (y : Sx) (h : y.x = valS nB (twoE 6 (nameE nB) (litE 1 1))) => chC_cat (v := v) (j := j) (L := Lc) (y := y) C.out.2 (by obtain ⟨j', rfl⟩ : ∃ j', j = j' + 1 := ⟨j - 1, by omega⟩; exact h))
        have BX := Lib.hid (bal (b0 w8) (.cells #[.int .u8 1, .int .u8 0, .int .u8 0, .int .i32 v, .string ⟨#[]⟩, .slice none 0 0] 31))
        clear hz
        go_upto_region 15 with (first
          | (go_at_call 24; (with_reducible refine (nm_is nB ⟨#[110]⟩ rfl _).mono ?_); rintro e1 w9 ⟨rfl, b1⟩; have B9 := Lib.hid (blw BX.out b1); have q9 := Lib.hid (hq.out.below b1); clear b1)
          | (go_at_call 18; (with_reducible refine (num_is 1 _).mono ?_); rintro e1 w10 ⟨rfl, b1⟩; have B10 := Lib.hid (blw B9.out b1); have q10 := Lib.hid (q9.out.below b1); clear b1)
          | (go_at_call 23; (with_reducible refine (two_n1 _).mono ?_); rintro e1 w11 ⟨g3, h1, rfl, t1, b1⟩; have B11 := Lib.hid (blw B10.out b1); have q11 := Lib.hid (q10.out.below b1); have T3 := Lib.hid (t1 (fun k => Pt q A2 Ac k ∧ k ≠ w8.heap.size) (far_pt K14.out B10.out q10.out h1)); clear h1 t1 b1; obtain ⟨r0, r1, r2, r3, r4, r5⟩ := box6 q11.out; obtain ⟨f0, f1, f2, f3, f4, f5⟩ := box6f q11.out))
        have K15 := Lib.hid (K14.out.step (bset6 B11.out (Nat.le_refl _) (.int .u8 7) (.int .u8 6) (.int .u8 0) (.int .i32 0) (.string ⟨#[]⟩) (.slice (some ⟨g3, 0, none⟩) 2 2)))
        have T4 := Lib.hid ((T3.out.fr (fr_set6 w11 w8.heap.size (.int .u8 7) (.int .u8 6) (.int .u8 0) (.int .i32 0) (.string ⟨#[]⟩) (.slice (some ⟨g3, 0, none⟩) 2 2)) fun k _ n e => n.2 e).mono fun k _ n => n.1)
        have q12 := Lib.hid (box6_all (.int .u8 7) (.int .u8 6) (.int .u8 0) (.int .i32 0) (.string ⟨#[]⟩) (.slice (some ⟨g3, 0, none⟩) 2 2) q11.out)
        unfold set6 at K15 T4 q12
        clear r0 r1 r2 r3 r4 r5 f0 f1 f2 f3 f4 f5 T3 B9 B10 B11 q9 q10 q11 hq BX K14
        generalize (((((w11.setCell ⟨w8.heap.size, 0, none⟩ (.int .u8 7)).setCell ⟨w8.heap.size, 1, none⟩ (.int .u8 6)).setCell ⟨w8.heap.size, 2, none⟩ (.int .u8 0)).setCell ⟨w8.heap.size, 3, none⟩ (.int .i32 0)).setCell ⟨w8.heap.size, 4, none⟩ (.string ⟨#[]⟩)).setCell ⟨w8.heap.size, 5, none⟩ (.slice (some ⟨g3, 0, none⟩) 2 2) = X11 at *
        obtain ⟨x0, x1, x2, x3, x4, x5⟩ := box6 q12.out
        have R4 := Lib.hid (T4.out.tr)
        go_wp2_with (first
          | (go_at_call 17; (with_reducible refine (val_n2 _ _ R4.out).mono ?_); rintro e1 w12 ⟨g4, h1, rfl, s1, b1⟩; have Y2 := Lib.hid (new_v (N := Pt q A2 Ac) (by decide) s1 (K15.out.pt h1) (T4.out.keep b1)); have K16 := Lib.hid (K15.out.step b1); have AP := Lib.hid (K16.out.swap.app1 (Y2.out.mono fun _ _ k => ⟨k.1, k.2.2, k.2.1⟩)); clear h1 s1 b1)
          | (at_builtin; refine app_sx rfl (.tmp 56) (.tmp 59) rfl w.heap.size j cc 1 1 (j + 1) Ac (some ⟨w12.heap.size, 0, none⟩) Lc [(sxOf (valS nB (twoE 6 (nameE nB) (litE 1 1))) (some ⟨g4, 0, none⟩) 1 (some ⟨g3, 0, none⟩) 2)] rfl rfl AP.out.1 rfl AP.out.2.1 AP.out.2.2.1 rfl (by omega) AP.out.2.2.2.1 ?_; intro A3 c3 X13 o g hN; have K17 := Lib.hid (AP.out.2.2.2.2 X13 A3 c3 o g hN).swap; clear o g hN))
        go_roundw
        case rel =>
          have K18 := K17.out
          rw [← HS.out] at K18
          exact ⟨j + 1, c2, c3, A2, A3, _, _, by omega, by go_num, rfl, rfl, by rw [HW1.out], Lib.hid K18, Lib.hid ⟨C2.out, HC.out _ rfl⟩⟩
        case measure => simp [intOf]; omega
    · obtain rfl : j = m := by omega
      have HL := lastD_l v j
      have OE := lastD_ok v hv j
      have hl1 : (Ld.map Sx.x).length = j := by rw [← List.length_reverse, C.out.1]; exact chD_len v j
      have hl2 : (Lc.map Sx.x).length = j := by rw [← List.length_reverse, C.out.2]; exact chC_len v j
      have A1 := Lib.hid (cm_is (wantD v j) (Ask.mk (e := lastD v j) (A := none) (n := 0) (c := 0) (l := Ld.map Sx.x) (E := Ad) (k := j) (d := cd) (by rw [HL]; exact TrR.nil _) (by rw [HL]; rfl) OE K.out.sx.r.sp hl1 (by omega) (HT.out _ K.out.b)) (by rw [C.out.1]; exact dbl_const v j hm2))
      generalize wantD v j = W0 at *
      have hp := box6 K.out.box
      generalize lastD v j = e at *
      dsimp only [exV, exC] at A1 hp
      generalize strOf e.s = SE at *
      obtain ⟨p0, p1, p2, p3, p4, p5⟩ := hp
      rcases Nat.eq_zero_or_pos j with hz | hz
      · subst hz
        go_wp2_with (first
          | (go_at_call 25; (with_reducible refine (A1.out).mono ?_); rintro e1 w2 ⟨rfl, b1⟩; have B2 := Lib.hid (blw K.out.b b1); clear b1)
          | (go_at_call 11; (with_reducible refine (awake_any _ (HT.out _ B2.out)).mono ?_); rintro e1 w3 ⟨rfl, b1⟩; have B3 := Lib.hid (blw B2.out b1); clear b1))
        go_ret
        exact ⟨rfl, B3.out⟩
      · obtain ⟨i, rfl⟩ : ∃ i, j = i + 1 := ⟨j - 1, by omega⟩
        have hj1 : (((i + 1 : Nat) : Int) == 0) = false := by simp; omega
        have e1 : wrap64 (((i + 1 : Nat) : Int) - 1) = (i : Int) := by unfold wrap64; omega
        have e2 : wrap32 (i : Int) = (i : Int) := by unfold wrap32; omega
        have A2 := Lib.hid (fun X (b : Below w.heap.size w X) (S : SpR X Ac cc (Lc.map Sx.x)) => cm_is (w32 (v + i)) (Ask.mk (w := X) (e := nameE nB) (A := none) (n := 0) (c := 0) (l := Lc.map Sx.x) (E := Ac) (k := i + 1) (d := cc) (TrR.nil _) rfl (nameE_ok (by decide)) S hl2 (by omega) (HT.out _ b)) (by rw [C.out.2]; exact cnt_const v hv i))
        have A2 := Lib.hid (fun X (b : Below w.heap.size w X) (S : SpR X Ac cc (Lc.map Sx.x)) => (show Calls Tryd.prog 25 #[.agg #[.int .u8 4, .int .u8 0, .int .u8 0, .int .i32 0, .string ⟨#[110]⟩, .slice none 0 0], .slice Ac (i + 1) cc, .int .i32 (w32 (v + i))] X fun en w' => en = .returned (.bool true) ∧ Below X.heap.size X w' from A2.out X b S))
        have e3 : wrap32 (v + (((i + 1 : Nat) : Int) - 1)) = w32 (v + i) := by rw [show (((i + 1 : Nat) : Int) - 1) = (i : Int) by omega]; exact w32_is _
        generalize w32 (v + (i : Int)) = G at *
        obtain ⟨j, hjj⟩ : ∃ j, i + 1 = j := ⟨_, rfl⟩
        rw [hjj] at hj1 e1 e3 A1 A2 K ⊢
        clear hz hl1 hl2 C
        go_wp2_with (first
          | (go_at_call 25; (with_reducible refine (A1.out).mono ?_); rintro e1 w2 ⟨rfl, b1⟩; have K2 := Lib.hid (K.out.step b1); clear A1; clear b1)
          | (go_at_call 24; (with_reducible refine (nm_is nB ⟨#[110]⟩ rfl _).mono ?_); rintro e1 w3 ⟨rfl, b1⟩; have K3 := Lib.hid (K2.out.step b1); clear b1)
          | (go_at_call 25; (with_reducible refine (A2.out _ K3.out.b K3.out.swap.sx.r.sp).mono ?_); rintro e1 w4 ⟨rfl, b1⟩; have B4 := Lib.hid (blw K3.out.b b1); clear b1)
          | (go_at_call 11; (with_reducible refine (awake_any _ (HT.out _ B4.out)).mono ?_); rintro e1 w5 ⟨rfl, b1⟩; have B5 := Lib.hid (blw B4.out b1); clear b1))
        go_ret
        exact ⟨rfl, B5.out⟩
end Go.Proofs.YtimbiobonigdmaaDoor
