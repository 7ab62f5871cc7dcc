/- The laws: FoldKeeps, where all is well. -/
import Derived.Test.YtimbiobonigdmaaDoorFkp
import Derived.Deep.CutRange
set_option linter.unusedVariables false
set_option linter.unusedSimpArgs false
namespace Go.Proofs.YtimbiobonigdmaaDoor
open Go Go.RowKit L8 L10 L14

/-- A new specification does not lie where the row lies. -/
theorem sx_new {w : World} {A : Option Addr} {s : Bs} {v : Int} {g c : Nat} (h : Ob A g) (y : SxV w (sxOf (vK s v) (some ⟨g, 0, none⟩) c none 0)) : ∀ z ∈ [sxOf (vK s v) (some ⟨g, 0, none⟩) c none 0], SxN w (Ob A) z := fun z hz => by
  rw [List.mem_singleton.1 hz]
  refine ⟨y.ok, y.one, y.ss, fun ad e _ => ?_, TrN.nil w _⟩
  injection e with e
  subst e
  exact h
theorem nmL_in {l : List Ex} {s : Bs} (h : s ∈ nmL l) : ∃ x ∈ l, s ∈ nmE x := by
  induction l with
  | nil => rw [nmL] at h; cases h
  | cons y r ih =>
    rw [nmL] at h
    rcases List.mem_append.1 h with h | h
    · exact ⟨y, List.mem_cons_self .., h⟩
    · obtain ⟨x, h1, h2⟩ := ih h
      exact ⟨x, List.mem_cons_of_mem _ h1, h2⟩
theorem nm_short : ∀ e : Ex, allE e = true → ∀ s ∈ nmE e, s.length ≤ 32 := by
  refine Ex.ind fun e ih h s hs => ?_
  rw [allE_eq, Bool.and_eq_true, allL_iff] at h
  rw [nmE_eq] at hs
  rcases List.mem_append.1 hs with h1 | h1
  · unfold ownNm at h1
    by_cases hk : e.k = 4 ∨ e.k = 5 ∨ e.k = 9
    · rw [if_pos hk] at h1
      rw [List.mem_singleton.1 h1]
      have ho := h.1
      unfold ownE at ho
      rw [Bool.and_eq_true] at ho
      have hf := ho.1
      unfold fineE at hf
      rw [if_neg (by omega), if_neg (by omega), if_neg (by omega), if_pos hk] at hf
      unfold isName at hf
      simp only [Bool.and_eq_true, decide_eq_true_eq] at hf
      exact hf.1.1.1.2
    · rw [if_neg hk] at h1; cases h1
  · obtain ⟨x, h2, h3⟩ := nmL_in h1
    exact ih x h2 (h.2 x h2) s h3
set_option maxRecDepth 100000 in
set_option maxHeartbeats 32000000 in
theorem keeps_ok (e : Ex) (A : Option Addr) (n c : Nat) (hn : e.l.length = n) (ok : OKe e) (E : Option Addr) (k d : Nat) (l : List Sx) (hk : l.length = k) (M : Option Addr) (ml mc : Nat) (more : List Int) (hml : more.length = ml) (w : World) (R : TrR w A c e.l) (S : SxR w E d l) (V : IwR w M mc more) (T : T10 w) (hg : grtX (l.map Sx.x) = false) (h8 : ml ≤ 8) (hm : mayE e = true) :
    Calls Tryd.prog 4 #[exV e A n c, .slice E k d, .slice M ml mc] w fun en w' => en = .returned (.bool true) ∧ Below w.heap.size w w' := by
  have hk2 := grt_len hg
  rw [List.length_map, hk] at hk2
  have hlm : (l.map Sx.x).length = k := by rw [List.length_map]; exact hk
  have hsz : szE e ≤ 999999 := by have := (may_parts.1 hm).2.1; omega
  obtain ⟨x, f1, mx, _⟩ := keeps_plain (l.map Sx.x).reverse [] hm (fun y hy => by cases hy)
  have HC : ∀ a : List Sp, (∀ y ∈ a, ∀ s ∈ y.ns, decl (l.map Sx.x) s = false) → constX x (a ++ (l.map Sx.x).reverse) = constX e (a ++ (l.map Sx.x).reverse) := fun a ha => by
    obtain ⟨x', f2, _, h⟩ := keeps_plain (l.map Sx.x).reverse a hm (fun y hy s hs => by rw [decl_rev]; exact ha y hy s hs)
    have : x = x' := congrArg Prod.fst (f1.symm.trans f2)
    rw [this]
    exact h
  have J0 : Hid (K0 w _ E d l M mc more e A n c) := K0.new R S V T
  have CG := great_any E k d (l.map Sx.x) _ J0.out.sp.sp hlm
  rw [hg] at CG
  have CG := Lib.hid CG
  have CF := Lib.hid (fold_is (Ask.mk (k := k) J0.out.tr hn ok J0.out.sp.sp hlm (by omega) J0.out.t) f1)
  have CN := Lib.hid fun X (J : K0 w X E d l M mc more e A n c) => PNamesO_any e A n c X J.tr hn ok hsz
  have CD := Lib.hid fun X (J : K0 w X E d l M mc more e A n c) s => declares_any E k d l hk s X J.sp
  have C1 := Lib.hid fun X (J : K0 w X E d l M mc more e A n c) Ao no co (L : List Sx) (hL : L.length = no) (SL : SxR X Ao co L) (h6 : no ≤ 1000000) r (hr : constX e (L.map Sx.x).reverse = r) => const_is (Ask.mk (k := no) J.tr hn ok SL.sp (by rw [List.length_map]; exact hL) h6 J.t) hr
  have C2 := Lib.hid fun X (J : K0 w X E d l M mc more e A n c) B f (t : TrR X B f x.l) (okx : OKe x) Ao no co (L : List Sx) (hL : L.length = no) (SL : SxR X Ao co L) (h6 : no ≤ 1000000) r (hr : constX x (L.map Sx.x).reverse = r) => const_is (Ask.mk (k := no) t rfl okx SL.sp (by rw [List.length_map]; exact hL) h6 J.t) hr
  have CM := Lib.hid fun X (J : K0 w X E d l M mc more e A n c) B f (t : TrR X B f x.l) (okx : OKe x) => PMayX_any x B _ f X t rfl okx J.t
  rw [mx] at CM
  have NB : Hid (∀ (X : World) (B : Option Addr) (g : Nat), TrR X B g x.l → Hid (AgT (X.alloc (.cells (exC x B x.l.length g) 31)) x B g X.heap.size)) := Lib.hid fun X B g t => Lib.hid ⟨t.keep (bal (b0 X) _), boxS_new X _ _⟩
  have EB := Lib.hid fun X (J : Hid (K0 w X E d l M mc more e A n c)) => box6 J.out.box
  have XB := Lib.hid fun X B g q (J : Hid (AgT X x B g q)) => box6 J.out.box
  have HQ := Lib.hid fun (X v0 : World) B2 d2 Ao no co (L : List Sx) (K : KpL v0 X B2 d2 (nmE e) l more Ao no co L (nmE e).length) => (show constX x (L.map Sx.x).reverse = constX e (L.map Sx.x).reverse by
    rw [K.eq, List.reverse_append]
    refine HC _ fun y hy s hs => ?_
    exact addK_in (l.map Sx.x) (nmE e) more vK (fun _ _ => rfl) _ y (List.mem_reverse.1 hy) s hs)
  have HP := box6 J0.out.box
  have h8' : ¬ (8 : Int) < (ml : Int) := by omega
  have HSN : Hid (∀ s ∈ nmE e, s.length ≤ maxLen) := Lib.hid fun s hs => by have := nm_short e (may_parts.1 hm).1 s hs; unfold maxLen; omega
  have HML := Lib.hid hml
  have HK := Lib.hid hk
  clear R S V T hk hg hn ok hm hsz mx HC hlm f1 hml
  obtain ⟨ns, hns⟩ : ∃ ns, nmE e = ns := ⟨_, rfl⟩
  rw [hns] at CN HQ HSN
  clear hns
  dsimp only [exV, exC] at *
  generalize strOf e.s = SE at *
  generalize strOf x.s = SX at *
  obtain ⟨p0, p1, p2, p3, p4, p5⟩ := HP
  go_enter Tryd.func4, Tryd.ntmps4
  go_upto_region 4 with (first
    | (go_at_call 12; (with_reducible refine (CG.out).mono ?_); rintro e1 w1 ⟨rfl, rfl⟩)
    | (go_at_call 13; (with_reducible refine (CF.out).mono ?_); rintro e1 w1 ⟨B1, g1, rfl, t1, o1, b1⟩; have J1 := K0.step J0 (bal b1 (.cells #[.int .u8 (x.k : Int), .int .u8 (x.o : Int), .int .u8 (x.t : Int), .int .i32 x.n, .string SX, .slice B1 x.l.length g1] 31)); have K1 := NB.out w1 B1 g1 t1; have O := Lib.hid o1; clear t1 o1 b1; clear p0 p1 p2 p3 p4 p5))
  generalize hv0 : w1.alloc (.cells #[.int .u8 (x.k : Int), .int .u8 (x.o : Int), .int .u8 (x.t : Int), .int .i32 x.n, .string SX, .slice B1 x.l.length g1] 31) = v0 at *
  generalize w1.heap.size = qx at *
  clear hv0
  go_wp2_with (first
    | (at_builtin; refine app_sx rfl (.tmp 42) (.tmp 43) rfl v0.heap.size 0 0 k d k (some ⟨v0.heap.size, 0, none⟩) E [] l rfl rfl (SxO.empty v0) HK.out (J1.out.sp.keep (bal (b0 v0) _)) (K0.parts J1) (by omega) (by omega) (bal (b0 v0) _).size ?_; intro A2 c2 Y o g hN; have bY := SxO.bel (bal (b0 v0) (.cells #[] 51)) (SxO.empty v0) (Nat.le_refl _) g; have J2 := K0.step J1 bY; have K2 := AgT.step K1 bY; have OW := Lib.hid (And.intro bY o); clear o g hN bY; obtain ⟨p0, p1, p2, p3, p4, p5⟩ := EB.out _ J2)
    | (go_at_call 15; (with_reducible refine (CN.out _ J2.out).mono ?_); rintro e1 X1 ⟨B2, d2, rfl, s1, h1, b1⟩; have KL := Lib.hid (show KpL v0 X1 B2 d2 ns l more A2 k c2 l 0 from ⟨blw OW.out.1 b1, OW.out.2.keep b1, by rw [addK, List.append_nil], s1, fun ad e _ => OW.out.2.ob (h1 ad e)⟩); clear s1 h1 b1; clear p0 p1 p2 p3 p4 p5))
  have hnl : ns.length ≤ maxLen := by have := KL.out.nm.le; have := KL.out.nm.mx; omega
  unfold maxLen at hnl
  obtain ⟨nn, hnn⟩ : ∃ nn, ns.length = nn := ⟨_, rfl⟩
  rw [hnn] at hnl HQ ⊢
  have HNN := Lib.hid hnn
  clear hnn J2 K2 OW J0
  go_loopw [9, 48] (fun o i wr => ∃ (j no co : Nat) (Ao : Option Addr) (L : List Sx), j ≤ nn ∧ i = .int .i64 (j : Int) ∧ o = .slice Ao no co ∧ Hid (KpL v0 wr B2 d2 ns l more Ao no co L j)) (fun _ i _ => nn - (intOf i).toNat)
  case atStart => exact ⟨0, k, c2, A2, l, Nat.zero_le _, rfl, rfl, KL⟩
  case round =>
    obtain ⟨j, no, co, Ao, L, hj, rfl, rfl, K⟩ := hrel
    have hj0 : (0 : Int) ≤ (j : Int) := by omega
    have J := K0.step J1 K.out.b
    by_cases hlt : (j : Int) < (nn : Int)
    · obtain ⟨a2, hB, hc⟩ := K.out.nm.rd j (by have := HNN.out; omega)
      have HS := Lib.hid (HSN.out (ns.getD j []) (in_at (by have := HNN.out; omega)))
      have HK1 := Lib.hid fun X (K : Hid (KpL v0 X B2 d2 ns l more Ao no co L j)) (hn : ¬ (j < more.length ∧ decl (l.map Sx.x) (ns.getD j []) = false)) => KpL.skip K hn
      have HK2 := Lib.hid fun X Y A3 c3 y (K : Hid (KpL v0 X B2 d2 ns l more Ao no co L j)) hn hy o g hN => KpL.app (Y := Y) (A2 := A3) (c2 := c3) (y := y) K hn hy o g hN
      have D := Lib.hid (CD.out _ J.out (ns.getD j []))
      subst hB
      by_cases hi : (j : Int) < (ml : Int)
      · cases hd : decl (l.map Sx.x) (ns.getD j []) with
        | true =>
          rw [hd] at D
          have HN := Lib.hid (show ¬ (j < more.length ∧ decl (l.map Sx.x) (ns.getD j []) = false) by rw [hd]; rintro ⟨_, h⟩; cases h)
          clear hd
          generalize ns.getD j [] = s at *
          generalize strOf s = SS1 at *
          go_wp2_with (go_at_call 16; (with_reducible refine (D.out).mono ?_); rintro e1 w2 ⟨rfl, b1⟩; have K3 := KpL.step K b1; clear b1)
          go_roundw
          case rel => exact ⟨j + 1, no, co, Ao, L, by omega, by go_num, rfl, HK1.out _ K3 HN.out⟩
          case measure => simp [intOf]; omega
        | false =>
          rw [hd] at D
          have HN := Lib.hid (show j < more.length ∧ decl (l.map Sx.x) (ns.getD j []) = false from ⟨by rw [HML.out]; omega, hd⟩)
          have hjm : j < more.length := by rw [HML.out]; omega
          have hno := KpL.len K
          have hno2 : no + 1 ≤ 1000000 := by have := HML.out; have := HK.out; omega
          have HW := Lib.hid (J.out.mv.wd j hjm)
          clear hd hno
          have HR := Lib.hid fun X (J : Hid (K0 w X E d l M mc more e A n c)) => J.out.mv.rd j hjm
          clear hjm
          generalize ns.getD j [] = s at *
          generalize more.getD j 0 = v at *
          have HV := Lib.hid (val_fi s v)
          generalize hSS : strOf s = SS1 at *
          have hSS := Lib.hid hSS
          go_upto_region 11 with (go_at_call 16; (with_reducible refine (D.out).mono ?_); rintro e1 w2 ⟨rfl, b1⟩; have K3 := KpL.step K b1; have J3 := K0.step J b1; clear b1)
          obtain ⟨am, rfl, hmv⟩ := HR.out _ J3
          clear HR
          go_wp2_with (first
            | (go_at_call 18; (with_reducible refine (num_is v _).mono ?_); rintro e1 w3 ⟨rfl, b1⟩; have K4 := KpL.step K3 b1; clear b1)
            | (go_at_call 17; (with_reducible refine (HV.out _).mono ?_); rintro e1 w4 ⟨g, h1, rfl, s1, b1⟩; have hg1 := K4.out.own.ob h1; have K5 := KpL.step K4 b1; have Y1 := Lib.hid (show SxV w4 (sxOf (vK s v) (some ⟨g, 0, none⟩) 1 none 0) from ⟨valS_ok HS.out (litE_ok HW.out), sxOf_one _ _ _ _ _, s1, TrR.nil w4⟩); have HG := Lib.hid hg1; clear h1 s1 b1 hg1)
            | (at_builtin; refine app_sx rfl (.tmp 63) (.tmp 71) rfl v0.heap.size no co 1 1 (no + 1) Ao (some ⟨w4.heap.size, 0, none⟩) L [sxOf (vK s v) (some ⟨g, 0, none⟩) 1 none 0] rfl rfl (K5.out.own.keep (bal (b0 w4) _)) rfl (SxR.one (boxS_new w4 51 (sxC (sxOf (vK s v) (some ⟨g, 0, none⟩) 1 none 0)).toArray) (Y1.out.keep (bal (b0 w4) _))) (sx_new HG.out (Y1.out.keep (bal (b0 w4) _))) rfl (by omega) (Nat.le_trans K5.out.b.size (bal (b0 w4) _).size) ?_; intro A3 c3 Y o g2 hN; have K6 := HK2.out _ _ _ _ _ (KpL.step K5 (bal (b0 w4) (.cells (sxC (sxOf (vK s v) (some ⟨g, 0, none⟩) 1 none 0)).toArray 51))) HN.out rfl o g2 hN; clear o g2 hN))
          go_roundw
          case rel => exact ⟨j + 1, no + 1, c3, A3, _, by omega, by go_num, rfl, K6⟩
          case measure => simp [intOf]; omega
      · have HN := Lib.hid (show ¬ (j < more.length ∧ decl (l.map Sx.x) (ns.getD j []) = false) by rw [HML.out]; rintro ⟨h, _⟩; omega)
        generalize ns.getD j [] = s at *
        generalize strOf s = SS1 at *
        go_wp2
        go_roundw
        case rel => exact ⟨j + 1, no, co, Ao, L, by omega, by go_num, rfl, HK1.out _ K HN.out⟩
        case measure => simp [intOf]; omega
    · obtain rfl : j = nn := by omega
      have KX := AgT.step K1 K.out.b
      have HE := HQ.out _ _ _ _ _ _ _ _ K.out
      have hno := KpL.len K
      have hno2 : no ≤ 1000000 := by have := HML.out; have := HK.out; omega
      have R1 := Lib.hid fun X (J : K0 w X E d l M mc more e A n c) (K : KpL v0 X B2 d2 ns l more Ao no co L j) => C1.out X J Ao no co L K.own.len K.own.r hno2 _ rfl
      have R2 := Lib.hid fun X (J : K0 w X E d l M mc more e A n c) B f (t : TrR X B f x.l) (K : KpL v0 X B2 d2 ns l more Ao no co L j) => C2.out X J B f t O.out Ao no co L K.own.len K.own.r hno2 _ HE
      obtain ⟨p0, p1, p2, p3, p4, p5⟩ := EB.out _ J
      obtain ⟨q0, q1, q2, q3, q4, q5⟩ := XB.out _ _ _ _ KX
      clear HE hno C1 C2 HQ CN CD HSN
      obtain ⟨r, hr⟩ : ∃ r, constX e (L.map Sx.x).reverse = r := ⟨_, rfl⟩
      rw [hr] at R1 R2
      clear hr
      obtain ⟨r1, r2⟩ := r
      dsimp only at R1 R2
      go_wp2_with (first
        | (go_at_call 19; (with_reducible refine (R1.out _ J.out K.out).mono ?_); rintro e1 w5 ⟨rfl, b1⟩; have J5 := K0.step J b1; have K5 := KpL.step K b1; have X5 := AgT.step KX b1; clear b1; clear p0 p1 p2 p3 p4 p5 q0 q1 q2 q3 q4 q5; obtain ⟨q0, q1, q2, q3, q4, q5⟩ := XB.out _ _ _ _ X5)
        | (go_at_call 19; (with_reducible refine (R2.out _ J5.out _ _ X5.out.tr K5.out).mono ?_); rintro e1 w6 ⟨rfl, b1⟩; have J6 := K0.step J5 b1; have X6 := AgT.step X5 b1; clear b1; clear q0 q1 q2 q3 q4 q5; obtain ⟨q0, q1, q2, q3, q4, q5⟩ := XB.out _ _ _ _ X6)
        | (go_at_call 14; (with_reducible refine (CM.out _ J6.out _ _ X6.out.tr O.out).mono ?_); rintro e1 w7 ⟨rfl, b1⟩; have J7 := K0.step J6 b1; clear b1)
        | (go_at_call 11; (with_reducible refine (awake_any _ J7.out.t).mono ?_); rintro e1 w8 ⟨rfl, b1⟩; have H8 := Lib.hid (blw J7.out.b b1); clear b1))
      go_ret
      exact ⟨rfl, H8.out⟩
end Go.Proofs.YtimbiobonigdmaaDoor
