/- The reference: folding, the parts and whole (by tools/gen14f.py). -/
import Derived.Test.YtimbiobonigdmaaGreatDoorZfo
set_option linter.unusedVariables false
set_option linter.unusedSimpArgs false
namespace Go.Proofs.YtimbiobonigdmaaGreatDoor
open Go Go.RowKit L8 L10 L14

set_option maxRecDepth 100000 in
set_option maxHeartbeats 16000000 in
theorem rfold_parts {E K : Option Addr} {kk d kn kc : Nat} {l : List Sp} (hk : l.length = kk) (h2 : kk ≤ kn) (m : Mg) (hm : m = prefM l kk) (e : Ex) (A : Option Addr) (n c : Nat) (w : World) (R : TrR w A c e.l) (hn : e.l.length = n) (ok : OKe e) (ha : allE e = true) (S : SpR w E d l) (KN : KnR w K kc (valsL l kn)) (hno : ∀ v, vOf m e = some v → mayE (litE (litK e.k e.o e.t (tau m e.s)) v) = false)
    (IH : ∀ j, j < n → ∀ (B : Option Addr) (k dd : Nat) (X : World), TrR X B dd (e.l.getD j e0).l → (e.l.getD j e0).l.length = k → OKe (e.l.getD j e0) → SpR X E d l → KnR X K kc (valsL l kn) → Calls Tryz.prog 27 #[exV (e.l.getD j e0) B k dd, .slice E kk d, .slice K kn kc] X (FdR X (fOf m (e.l.getD j e0)))) :
    Calls Tryz.prog 27 #[exV e A n c, .slice E kk d, .slice K kn kc] w (FdR w (.mk e.k e.o e.t e.n e.s (L14.foldL (rho m) (sig m) (tau m) e.l))) := by
  have hlt : litK e.k e.o e.t (tau m e.s) < 256 := litK_lt ok.1
  have hn2 : n ≤ 2 := by have := own_le ha; omega
  have CV : ∀ X, Below w.heap.size w X → Calls Tryz.prog 24 #[exV e A n c, .slice E kk d, .int .i64 (kk : Int), .slice K kn kc] X (VlR X (vOf m e)) := fun X bX => by rw [hm]; exact Rval14_any hk (Nat.le_refl _) h2 e ha A n c X (R.keep bX) hn ok (S.keep bX) (KN.keep bX)
  have CK : vOf m e ≠ none → ∀ X, Below w.heap.size w X → Calls Tryz.prog 42 #[exV e A n c, .slice E kk d] X (KdR X (litK e.k e.o e.t (tau m e.s))) := fun h X bX => by rw [hm]; exact Rkind_any hk e ha A n c X hn (S.keep bX) (fun h4 => by rw [hm] at h; subst hk; exact find_there h h4)
  have HL : ∀ v, vOf m e = some v → inW v := by rw [hm]; exact val_in (inM_env S kk (by omega)) e ok R
  have CM : ∀ v, vOf m e = some v → ∀ X : World, _ := fun v hv X => rmay_lit _ v hlt (HL v hv) X
  have HOK := Lib.hid (show OKe (.mk e.k e.o e.t e.n e.s (L14.foldL (rho m) (sig m) (tau m) e.l)) from ok)
  have HPA : Hid (∀ j, j < n → ∃ ad, A = some ad ∧ ∃ B dd, ∀ X, Below w.heap.size w X → (Calls Tryz.prog 27 #[exV (e.l.getD j e0) B (e.l.getD j e0).l.length dd, .slice E kk d, .slice K kn kc] X (FdR X (fOf m (e.l.getD j e0)))) ∧
      X.cell? (ad.add (j * 6)) = some (.int .u8 ((e.l.getD j e0).k : Int)) ∧ X.cell? ⟨(ad.add (j * 6)).block, (ad.add (j * 6)).off + 1, none⟩ = some (.int .u8 ((e.l.getD j e0).o : Int)) ∧ X.cell? ⟨(ad.add (j * 6)).block, (ad.add (j * 6)).off + 2, none⟩ = some (.int .u8 ((e.l.getD j e0).t : Int)) ∧ X.cell? ⟨(ad.add (j * 6)).block, (ad.add (j * 6)).off + 3, none⟩ = some (.int .i32 (e.l.getD j e0).n)
      ∧ X.cell? ⟨(ad.add (j * 6)).block, (ad.add (j * 6)).off + 4, none⟩ = some (.string (strOf (e.l.getD j e0).s)) ∧ X.cell? ⟨(ad.add (j * 6)).block, (ad.add (j * 6)).off + 5, none⟩ = some (.slice B (e.l.getD j e0).l.length dd)) := Lib.hid fun j hj => by
    obtain ⟨ad, e1, B, k, dd, hk', oky, Ry, y0, y1, y2, y3, y4, y5⟩ := R.at (j := j) (by omega)
    subst hk'
    exact ⟨ad, e1, B, dd, fun X bX => ⟨IH j hj B _ dd X (Ry.keep bX) rfl oky (S.keep bX) (KN.keep bX), (bX.cell (g_lt y0)).trans y0, (bX.cell (g_lt y1)).trans y1, (bX.cell (g_lt y2)).trans y2, (bX.cell (g_lt y3)).trans y3, (bX.cell (g_lt y4)).trans y4, (bX.cell (g_lt y5)).trans y5⟩⟩
  have HTK : Hid (∀ j, j < n → L14.foldL (rho m) (sig m) (tau m) (e.l.take (j + 1)) = L14.foldL (rho m) (sig m) (tau m) (e.l.take j) ++ [fOf m (e.l.getD j e0)]) := Lib.hid fun j hj => foldL_take (by omega)
  have HTN := Lib.hid (show e.l.take n = e.l by rw [← hn, List.take_length])
  have HLN := Lib.hid (show (L14.foldL (rho m) (sig m) (tau m) e.l).length = n by rw [foldL_len, hn])
  have HN := Lib.hid (FdS.new w (exC e A n c))
  have hmx : n ≤ maxLen := by have := R.le; have := R.mx; omega
  unfold maxLen at hmx
  clear R hn ok ha S KN hlt IH HL hk h2 hm
  generalize litK e.k e.o e.t (tau m e.s) = K1 at *
  unfold VlR apR at CV
  unfold KdR at CK
  unfold FdR at HPA
  dsimp only [exV] at *
  obtain ⟨S, hS⟩ : ∃ S, strOf e.s = S := ⟨_, rfl⟩
  have HSS := Lib.hid hS
  rw [hS] at CV CK ⊢
  have HP := box6 HN.out.box
  rw [hS] at HP
  clear hS
  have HNX : Hid (FdS w ((w.alloc (.cells #[.int .u8 (e.k : Int), .int .u8 (e.o : Int), .int .u8 (e.t : Int), .int .i32 e.n, .string S, .slice A n c] 27)).alloc (.cells #[.int .u8 0, .int .u8 0, .int .u8 0, .int .i32 0, .string ⟨#[]⟩, .slice none 0 0] 27)) (exC e A n c)) := Lib.hid (by have := HN.out; rw [show exC e A n c = #[.int .u8 (e.k : Int), .int .u8 (e.o : Int), .int .u8 (e.t : Int), .int .i32 e.n, .string S, .slice A n c] by unfold exC; rw [HSS.out]] at this ⊢; exact this)
  clear HN
  have HN := HNX
  clear HNX
  rw [show exC e A n c = #[.int .u8 (e.k : Int), .int .u8 (e.o : Int), .int .u8 (e.t : Int), .int .i32 e.n, .string S, .slice A n c] by unfold exC; rw [HSS.out]] at HP
  unfold zeroC at HP
  have EB := Lib.hid fun X (h : FdS w X (exC e A n c)) => (show X.cell? ⟨w.heap.size, 0, none⟩ = some (.int .u8 (e.k : Int)) ∧ X.cell? ⟨w.heap.size, 1, none⟩ = some (.int .u8 (e.o : Int)) ∧ X.cell? ⟨w.heap.size, 2, none⟩ = some (.int .u8 (e.t : Int)) ∧ X.cell? ⟨w.heap.size, 3, none⟩ = some (.int .i32 e.n) ∧ X.cell? ⟨w.heap.size, 4, none⟩ = some (.string S) ∧ X.cell? ⟨w.heap.size, 5, none⟩ = some (.slice A n c) by
    have := box6 h.box; rw [HSS.out] at this; exact this)
  obtain ⟨p0, p1, p2, p3, p4, p5⟩ := HP
  cases hv : vOf m e with
  | none =>
    rw [hv] at CV
    dsimp only [Option.getD, Option.isSome] at CV
    have C1 := Lib.hid (CV _ HN.out.bel)
    clear CV CK CM hno hv
    go_enter Tryz.func27, Tryz.ntmps27
    go_wp2_with (go_at_call 24; (with_reducible refine (C1.out).mono ?_); rintro e1 w1 ⟨rfl, b⟩; have H1 := Lib.hid (HN.out.step b); clear p0 p1 p2 p3 p4 p5; obtain ⟨p0, p1, p2, p3, p4, p5⟩ := EB.out _ H1.out; clear b)
    clear p0 p1 p2 p3 p4 p5
    have HV := Lib.hid (Cqs.new (A := A) (n := n) (c := c) H1.out)
    dsimp only [exC] at HV
    rw [HSS.out] at HV
    clear HN
    generalize w1.alloc (.cells #[.int .u8 (e.k : Int), .int .u8 (e.o : Int), .int .u8 (e.t : Int), .int .i32 e.n, .string S, .slice none 0 0] 27) = V at *
    generalize w1.heap.size = q at *
    go_loopw [11] (fun i wr => ∃ (j : Nat) (B : Option Addr) (dd : Nat) (L : List It), j ≤ n ∧ i = .int .i64 (j : Int) ∧ Hid (Cqs w wr e A n c q B j dd L) ∧ Hid (L.map It.e = L14.foldL (rho m) (sig m) (tau m) (e.l.take j))) (fun i _ => n - (intOf i).toNat)
    case atStart => exact ⟨0, none, 0, [], Nat.zero_le _, rfl, HV, Lib.hid (by rw [List.take_zero]; rfl)⟩
    case round =>
      obtain ⟨j, B, dd, L, hj, rfl, H, HL⟩ := hrel
      have hj0 : (0 : Int) ≤ (j : Int) := by omega
      by_cases hlt : (j : Int) < (n : Int)
      · obtain ⟨ad, rfl, C, f, HY⟩ := HPA.out j (by omega)
        have HY := Lib.hid HY
        have HS := Lib.hid (HTK.out j (by omega))
        have hj2 : j ≤ 2 := by omega
        generalize hg : fOf m (e.l.getD j e0) = g at *
        generalize e.l.getD j e0 = y at *
        generalize y.l.length = k at *
        generalize strOf y.s = SY at *
        generalize hSG : strOf g.s = SG at *
        have HSG := Lib.hid hSG
        clear hg hSG
        have HD : Hid (Cqs w wr.drew e (some ad) n c q B j dd L) := Lib.hid (H.out.step (bdrew (b0 wr) 1))
        obtain ⟨-, z1, z2, z3, z4, z5, z6⟩ := HY.out _ HD.out.fd.bel
        have CI := Lib.hid (HY.out _ HD.out.fd.bel).1
        have z0 := HD.out.cells.1
        have zo := HD.out.cells.2
        obtain ⟨h0, ho⟩ := H.out.cells
        go_wp2_with fail
        go_region_law (first
          | (go_simp; go_at_call 27; (with_reducible refine (CI.out).mono ?_); rintro e1 W1 ⟨A2, c2, rfl, t, okf, b⟩; have H1 := Lib.hid (HD.out.step b); have H1a := Lib.hid (H1.out.step (bal (b0 W1) (.cells #[.int .u8 (g.k : Int), .int .u8 (g.o : Int), .int .u8 (g.t : Int), .int .i32 g.n, .string SG, .slice A2 g.l.length c2] 27))); have T1 := Lib.hid ((t.keep (bal (b0 W1) (.cells #[.int .u8 (g.k : Int), .int .u8 (g.o : Int), .int .u8 (g.t : Int), .int .i32 g.n, .string SG, .slice A2 g.l.length c2] 27))).mono (fun k _ hk => HD.out.nb hk)); have Y1 := Lib.hid (it_cells (X := W1) g A2 c2); have OK := Lib.hid okf; clear b t okf; have zo1 := H1.out.cells.2; have zo2 := H1a.out.cells.2)
          | (refine step_tree rfl (.tmp 40) (.tmp 49) rfl (q + 1) j dd B L ⟨g, A2, c2⟩ ⟨W1.heap.size, 0, none⟩ rfl rfl H1a.out.row OK.out T1.out (by have := Y1.out; unfold exC at this; rw [HSG.out] at this; exact this) (by omega) H1a.out.lt ?_; intro A3 c3 W3 o gr; have H3 := Lib.hid (H1a.out.app o gr); have H3f := H3.out.2.1; have H3c := H3.out.2.2; clear o gr))
        all_goals (
          go_wp2
          go_roundw
          case rel => exact ⟨j + 1, A3, c3, L ++ [⟨g, A2, c2⟩], by omega, by go_num, Lib.hid H3.out.1, Lib.hid (by rw [List.map_append, HL.out, HS.out]; rfl)⟩
          case measure => simp [intOf]; omega)
      · obtain rfl : j = n := by omega
        obtain ⟨p0, p1, p2, p3, p4, p5⟩ := box6 H.out.own
        obtain ⟨r0, r1, r2, r3, r4, r5⟩ := box6 H.out.fd.res
        obtain ⟨f0, f1, f2, f3, f4, f5⟩ := box6f H.out.fd.res
        obtain ⟨h0, ho⟩ := H.out.cells
        have KQ := Lib.hid H.out.fin
        unfold set6 at KQ
        rw [HSS.out] at p4 KQ
        go_wp2
        clear p0 p1 p2 p3 p4 p5 r0 r1 r2 r3 r4 r5 f0 f1 f2 f3 f4 f5
        generalize (((((wr.setCell ⟨w.heap.size + 1, 0, none⟩ (.int .u8 (e.k : Int))).setCell ⟨w.heap.size + 1, 1, none⟩ (.int .u8 (e.o : Int))).setCell ⟨w.heap.size + 1, 2, none⟩ (.int .u8 (e.t : Int))).setCell ⟨w.heap.size + 1, 3, none⟩ (.int .i32 e.n)).setCell ⟨w.heap.size + 1, 4, none⟩ (.string S)).setCell ⟨w.heap.size + 1, 5, none⟩ (.slice B j dd) = X at *
        have KB := KQ.out.1
        unfold exC at KB
        rw [HSS.out] at KB
        obtain ⟨y0, y1, y2, y3, y4, y5⟩ := box6 KB
        refine bodyPost_ret (v := .agg #[.int .u8 (e.k : Int), .int .u8 (e.o : Int), .int .u8 (e.t : Int), .int .i32 e.n, .string S, .slice B j dd]) (by simp [results, Tryz.results27, go_sem, y0, y1, y2, y3, y4, y5]) rfl ⟨B, dd, ?_, ?_, HOK.out, KQ.out.2.2⟩
        · show _ = Ending.returned (.agg #[_, _, _, _, .string (strOf e.s), .slice B (L14.foldL (rho m) (sig m) (tau m) e.l).length dd])
          rw [HLN.out, HSS.out]
          rfl
        · have := KQ.out.2.1
          rw [HL.out, HTN.out] at this
          exact this
  | some v =>
    rw [hv] at CV
    dsimp only [Option.getD, Option.isSome] at CV
    have CK := Lib.hid (CK (by rw [hv]; simp))
    have CM := CM v hv
    rw [hno v hv] at CM
    have CM := Lib.hid CM
    have C1 := Lib.hid (CV _ HN.out.bel)
    clear CV hno hv
    go_enter Tryz.func27, Tryz.ntmps27
    go_wp2_with (first
      | (go_at_call 24; (with_reducible refine (C1.out).mono ?_); rintro e1 w1 ⟨rfl, b⟩; have H1 := Lib.hid (HN.out.step b); have C2 := Lib.hid (CK.out w1 H1.out.bel); clear p0 p1 p2 p3 p4 p5; obtain ⟨p0, p1, p2, p3, p4, p5⟩ := EB.out _ H1.out; clear b)
      | (go_at_call 42; (with_reducible refine (C2.out).mono ?_); rintro e1 w2 ⟨rfl, b⟩; have H2 := Lib.hid (H1.out.step b); clear b)
      | (go_at_call 23; (with_reducible refine (CM.out _).mono ?_); rintro e1 w3 ⟨rfl, b⟩; have H3 := Lib.hid ((H2.out.step (bal (b0 w2) (.cells #[.int .u8 (K1 : Int), .int .u8 0, .int .u8 0, .int .i32 v, .string ⟨#[]⟩, .slice none 0 0] 27))).step b); clear p0 p1 p2 p3 p4 p5; obtain ⟨p0, p1, p2, p3, p4, p5⟩ := EB.out _ H3.out; clear b))
    clear p0 p1 p2 p3 p4 p5
    have HV := Lib.hid (Cqs.new (A := A) (n := n) (c := c) H3.out)
    dsimp only [exC] at HV
    rw [HSS.out] at HV
    clear HN
    generalize w3.alloc (.cells #[.int .u8 (e.k : Int), .int .u8 (e.o : Int), .int .u8 (e.t : Int), .int .i32 e.n, .string S, .slice none 0 0] 27) = V at *
    generalize w3.heap.size = q at *
    go_loopw [11] (fun i wr => ∃ (j : Nat) (B : Option Addr) (dd : Nat) (L : List It), j ≤ n ∧ i = .int .i64 (j : Int) ∧ Hid (Cqs w wr e A n c q B j dd L) ∧ Hid (L.map It.e = L14.foldL (rho m) (sig m) (tau m) (e.l.take j))) (fun i _ => n - (intOf i).toNat)
    case atStart => exact ⟨0, none, 0, [], Nat.zero_le _, rfl, HV, Lib.hid (by rw [List.take_zero]; rfl)⟩
    case round =>
      obtain ⟨j, B, dd, L, hj, rfl, H, HL⟩ := hrel
      have hj0 : (0 : Int) ≤ (j : Int) := by omega
      by_cases hlt : (j : Int) < (n : Int)
      · obtain ⟨ad, rfl, C, f, HY⟩ := HPA.out j (by omega)
        have HY := Lib.hid HY
        have HS := Lib.hid (HTK.out j (by omega))
        have hj2 : j ≤ 2 := by omega
        generalize hg : fOf m (e.l.getD j e0) = g at *
        generalize e.l.getD j e0 = y at *
        generalize y.l.length = k at *
        generalize strOf y.s = SY at *
        generalize hSG : strOf g.s = SG at *
        have HSG := Lib.hid hSG
        clear hg hSG
        have HD : Hid (Cqs w wr.drew e (some ad) n c q B j dd L) := Lib.hid (H.out.step (bdrew (b0 wr) 1))
        obtain ⟨-, z1, z2, z3, z4, z5, z6⟩ := HY.out _ HD.out.fd.bel
        have CI := Lib.hid (HY.out _ HD.out.fd.bel).1
        have z0 := HD.out.cells.1
        have zo := HD.out.cells.2
        obtain ⟨h0, ho⟩ := H.out.cells
        go_wp2_with fail
        go_region_law (first
          | (go_simp; go_at_call 27; (with_reducible refine (CI.out).mono ?_); rintro e1 W1 ⟨A2, c2, rfl, t, okf, b⟩; have H1 := Lib.hid (HD.out.step b); have H1a := Lib.hid (H1.out.step (bal (b0 W1) (.cells #[.int .u8 (g.k : Int), .int .u8 (g.o : Int), .int .u8 (g.t : Int), .int .i32 g.n, .string SG, .slice A2 g.l.length c2] 27))); have T1 := Lib.hid ((t.keep (bal (b0 W1) (.cells #[.int .u8 (g.k : Int), .int .u8 (g.o : Int), .int .u8 (g.t : Int), .int .i32 g.n, .string SG, .slice A2 g.l.length c2] 27))).mono (fun k _ hk => HD.out.nb hk)); have Y1 := Lib.hid (it_cells (X := W1) g A2 c2); have OK := Lib.hid okf; clear b t okf; have zo1 := H1.out.cells.2; have zo2 := H1a.out.cells.2)
          | (refine step_tree rfl (.tmp 40) (.tmp 49) rfl (q + 1) j dd B L ⟨g, A2, c2⟩ ⟨W1.heap.size, 0, none⟩ rfl rfl H1a.out.row OK.out T1.out (by have := Y1.out; unfold exC at this; rw [HSG.out] at this; exact this) (by omega) H1a.out.lt ?_; intro A3 c3 W3 o gr; have H3 := Lib.hid (H1a.out.app o gr); have H3f := H3.out.2.1; have H3c := H3.out.2.2; clear o gr))
        all_goals (
          go_wp2
          go_roundw
          case rel => exact ⟨j + 1, A3, c3, L ++ [⟨g, A2, c2⟩], by omega, by go_num, Lib.hid H3.out.1, Lib.hid (by rw [List.map_append, HL.out, HS.out]; rfl)⟩
          case measure => simp [intOf]; omega)
      · obtain rfl : j = n := by omega
        obtain ⟨p0, p1, p2, p3, p4, p5⟩ := box6 H.out.own
        obtain ⟨r0, r1, r2, r3, r4, r5⟩ := box6 H.out.fd.res
        obtain ⟨f0, f1, f2, f3, f4, f5⟩ := box6f H.out.fd.res
        obtain ⟨h0, ho⟩ := H.out.cells
        have KQ := Lib.hid H.out.fin
        unfold set6 at KQ
        rw [HSS.out] at p4 KQ
        go_wp2
        clear p0 p1 p2 p3 p4 p5 r0 r1 r2 r3 r4 r5 f0 f1 f2 f3 f4 f5
        generalize (((((wr.setCell ⟨w.heap.size + 1, 0, none⟩ (.int .u8 (e.k : Int))).setCell ⟨w.heap.size + 1, 1, none⟩ (.int .u8 (e.o : Int))).setCell ⟨w.heap.size + 1, 2, none⟩ (.int .u8 (e.t : Int))).setCell ⟨w.heap.size + 1, 3, none⟩ (.int .i32 e.n)).setCell ⟨w.heap.size + 1, 4, none⟩ (.string S)).setCell ⟨w.heap.size + 1, 5, none⟩ (.slice B j dd) = X at *
        have KB := KQ.out.1
        unfold exC at KB
        rw [HSS.out] at KB
        obtain ⟨y0, y1, y2, y3, y4, y5⟩ := box6 KB
        refine bodyPost_ret (v := .agg #[.int .u8 (e.k : Int), .int .u8 (e.o : Int), .int .u8 (e.t : Int), .int .i32 e.n, .string S, .slice B j dd]) (by simp [results, Tryz.results27, go_sem, y0, y1, y2, y3, y4, y5]) rfl ⟨B, dd, ?_, ?_, HOK.out, KQ.out.2.2⟩
        · show _ = Ending.returned (.agg #[_, _, _, _, .string (strOf e.s), .slice B (L14.foldL (rho m) (sig m) (tau m) e.l).length dd])
          rw [HLN.out, HSS.out]
          rfl
        · have := KQ.out.2.1
          rw [HL.out, HTN.out] at this
          exact this
theorem Rfold_any {E K : Option Addr} {kk d kn kc : Nat} {l : List Sp} (hk : l.length = kk) (h2 : kk ≤ kn) : ∀ e : Ex, allE e = true → ∀ (A : Option Addr) (n c : Nat) (w : World), TrR w A c e.l → e.l.length = n → OKe e → SpR w E d l → KnR w K kc (valsL l kn) → Calls Tryz.prog 27 #[exV e A n c, .slice E kk d, .slice K kn kc] w (FdR w (fOf (prefM l kk) e)) := by
  refine Ex.ind fun e ih ha A n c w R hn ok S KN => ?_
  have hall : ∀ y ∈ e.l, allE y = true := by rw [allE_eq, Bool.and_eq_true, allL_iff] at ha; exact ha.2
  have he : fOf (prefM l kk) e = fldO (vOf (prefM l kk) e) (litK e.k e.o e.t (tau (prefM l kk) e.s)) (.mk e.k e.o e.t e.n e.s (L14.foldL (rho (prefM l kk)) (sig (prefM l kk)) (tau (prefM l kk)) e.l)) := foldE_eq _ _ _ e
  rw [he]
  rcases fld_ways (vOf (prefM l kk) e) (litK e.k e.o e.t (tau (prefM l kk) e.s)) (.mk e.k e.o e.t e.n e.s (L14.foldL (rho (prefM l kk)) (sig (prefM l kk)) (tau (prefM l kk)) e.l)) with ⟨v, f1, f2, f3⟩ | ⟨f1, hno⟩
  · rw [f3]
    exact rfold_lit hk h2 e A n c w R hn ok ha S KN v f1 f2
  · rw [f1]
    exact rfold_parts hk h2 _ rfl e A n c w R hn ok ha S KN hno fun j hj B k dd X RX hX okX SX KX => ih _ (getD_memE (by omega)) (hall _ (getD_memE (by omega))) B k dd X RX hX okX SX KX
end Go.Proofs.YtimbiobonigdmaaGreatDoor
