/- The program: the tokens of trees with parts. -/
import Derived.Deep.RegionHeld3
import Derived.Test.YtplcmcealeeppaaGreatDoorM14
import Derived.Test.YtplcmcealeeppaaGreatDoorM15
set_option linter.unusedVariables false
set_option linter.unusedSimpArgs false
set_option linter.unusedVariables false
set_option linter.unusedSimpArgs false
namespace Go.Proofs.YtplcmcealeeppaaGreatDoor
open Go Go.RowKit L8 L10

set_option maxRecDepth 100000 in
set_option maxHeartbeats 16000000 in
theorem ax_7 (o : Nat) (h1 : 1 ≤ o) (h2 : o ≤ 22) (y x : Ex) (ih : AoC y) (jh : AoC x) (hy : allE y = true) : AxC (.mk 7 o 0 0 [] [y, x]) := by
  intro w0 w A B n c m d rs t R hm ok b oo hb
  obtain rfl : m = 2 := hm.symm
  have R1 : TrR w0 B d [y, x] := R
  obtain ⟨ad, rfl, oky, Cy, fy, Ry, Xy⟩ := R1.hd
  obtain ⟨okx, Cx, fx, Rx, Xx⟩ := R1.hd2
  obtain ⟨qy, hqy⟩ : ∃ q, y.l.length = q := ⟨_, rfl⟩
  obtain ⟨qx, hqx⟩ : ∃ q, x.l.length = q := ⟨_, rfl⟩
  have hsz : szE (.mk 7 o 0 0 [] [y, x]) = 1 + (szE y + szE x) := by { simp only [szE, szL]; omega }
  have HV : Hid (ApS w0 w (.mk 7 o 0 0 [] [y, x]) (some ad) 2 d A (w.alloc (.cells #[.int .u8 7, .int .u8 (o : Int), .int .u8 0, .int .i32 0, .string ⟨#[]⟩, .slice (some ad) 2 d] 27)) A n c rs) := Lib.hid (ApS.new (m := 2) b oo t R)
  have HC : Hid (∀ (Y : World) (A' : Option Addr) (n' c' : Nat) (l : List Tk), ApS w0 w (.mk 7 o 0 0 [] [y, x]) (some ad) 2 d A Y A' n' c' l → (Y.cell? ⟨w.heap.size, 0, none⟩ = some (.int .u8 7) ∧ Y.cell? ⟨w.heap.size, 1, none⟩ = some (.int .u8 (o : Int)) ∧ Y.cell? ⟨w.heap.size, 2, none⟩ = some (.int .u8 0) ∧ Y.cell? ⟨w.heap.size, 3, none⟩ = some (.int .i32 0) ∧ Y.cell? ⟨w.heap.size, 4, none⟩ = some (.string ⟨#[]⟩) ∧ Y.cell? ⟨w.heap.size, 5, none⟩ = some (.slice (some ad) 2 d)) ∧ Y.cell? ⟨0, o, none⟩ = some (.string (strOf (opW o))) ∧ XC Y ad y Cy qy fy ∧ XC Y ⟨ad.block, ad.off + 6, none⟩ x Cx qx fx) := Lib.hid fun Y A' n' c' l h => ⟨h.cells, h.t10.op (by omega), XC.of Xy hqy h.bel, XC.of Xx hqx h.bel⟩
  have HG : Hid (∀ (Z : World) (A2 : Option Addr) (q2 c2 : Nat) (kk : List Tk), ApS w0 w (.mk 7 o 0 0 [] [y, x]) (some ad) 2 d A Z A2 q2 c2 kk → rs ++ tkE (.mk 7 o 0 0 [] [y, x]) = kk → ApR w0 w A (rs ++ tkE (.mk 7 o 0 0 [] [y, x])) (.returned (.slice A2 q2 c2)) Z) := Lib.hid fun Z A2 q2 c2 kk h hk => h.gives hk
  have HT1 := Lib.hid (fun (Y : World) (A' : Option Addr) (n' c' : Nat) (l : List Tk) (h : ApS w0 w (.mk 7 o 0 0 [] [y, x]) (some ad) 2 d A Y A' n' c' l) => h.one t R (mk o) (okx_mk o) (cs := #[.int .u8 ((mk o).k : Int), .int .i64 0, .string (strOf (opW o)), .int .i32 0]) (mk_cs o))
  have CK := Lib.hid (fun (W : World) => Pmk o W)
  have HI := Lib.hid (fun (Y : World) (A' : Option Addr) (c' : Nat) (l : List Tk) (h : ApS w0 w (.mk 7 o 0 0 [] [y, x]) (some ad) 2 d A Y A' n c' l) => (ih.at h t R Ry hqy oky (by omega)).mono fun en w' ⟨A2, c2, q2, h1, h2, h3⟩ => (⟨A2, c2, q2, h1, h2, by have := op_bound hy; omega, by have := op_bound hy; omega⟩ : ∃ A2 c2 q2, en = Ending.returned (.slice A2 q2 c2) ∧ ApS w0 w (.mk 7 o 0 0 [] [y, x]) (some ad) 2 d A w' A2 q2 c2 (l ++ opT y) ∧ q2 + 1 ≤ 1000000 ∧ q2 + 1 + 5 * szE x + 4 ≤ 1000000))
  have HJ := Lib.hid (fun (Y : World) (A' : Option Addr) (q' c' : Nat) (l : List Tk) (h : ApS w0 w (.mk 7 o 0 0 [] [y, x]) (some ad) 2 d A Y A' q' c' l) (hb : q' + 5 * szE x + 4 ≤ 1000000) => (jh.at h t R Rx hqx okx hb).mono fun en w' ⟨A2, c2, q2, h1, h2, h3⟩ => (⟨A2, c2, q2, h1, h2⟩ : ∃ A2 c2 q2, en = Ending.returned (.slice A2 q2 c2) ∧ ApS w0 w (.mk 7 o 0 0 [] [y, x]) (some ad) 2 d A w' A2 q2 c2 (l ++ opT x)))
  have HE := Lib.hid (show rs ++ tkE (.mk 7 o 0 0 [] [y, x]) = ((rs ++ opT y) ++ [mk o]) ++ opT x by rw [tk_7]; simp)
  have ho0 : (0 : Int) ≤ (o : Int) := by omega
  have ho27 : (o : Int) < 27 := by omega
  clear t R R1 ok b oo hb hsz oky Ry Xy hqy okx Rx Xx hqx ih jh hy h1 h2
  generalize hP : ApR w0 w A (rs ++ tkE (.mk 7 o 0 0 [] [y, x])) = POST at *
  show Calls Tryz.prog 40 #[.slice A n c, .agg #[.int .u8 7, .int .u8 (o : Int), .int .u8 0, .int .i32 0, .string ⟨#[]⟩, .slice (some ad) 2 d]] w POST
  clear hP
  unfold XC at HC
  dsimp only [exV] at HI HJ
  generalize strOf (opW o) = SW at *
  generalize (mk o).k = MK at *
  generalize strOf y.s = SY at *
  generalize strOf x.s = SX at *
  go_enter Tryz.func40, Tryz.ntmps40
  go_wp2
  generalize hV : w.alloc (.cells #[.int .u8 7, .int .u8 (o : Int), .int .u8 0, .int .i32 0, .string ⟨#[]⟩, .slice (some ad) 2 d] 27) = V at *
  clear hV
  have HV0 := HV
  replace HV := Lib.hid (show ApS w0 w (.mk 7 o 0 0 [] [y, x]) (some ad) 2 d A V.drew A n c rs from HV0.out.below (bdrew (b0 _) 1))
  obtain ⟨z1, z2⟩ := HC.out _ _ _ _ _ HV0.out
  obtain ⟨⟨a0_0, a0_1, a0_2, a0_3, a0_4, a0_5⟩, a1, ⟨a2_0, a2_1, a2_2, a2_3, a2_4, a2_5⟩, ⟨a3_0, a3_1, a3_2, a3_3, a3_4, a3_5⟩⟩ := HC.out _ _ _ _ _ HV.out
  go_region_held3 (fun w' => (w'.cell? ⟨w.heap.size, 0, none⟩ = some (.int .u8 7) ∧ w'.cell? ⟨w.heap.size, 1, none⟩ = some (.int .u8 (o : Int)) ∧ w'.cell? ⟨w.heap.size, 2, none⟩ = some (.int .u8 0) ∧ w'.cell? ⟨w.heap.size, 3, none⟩ = some (.int .i32 0) ∧ w'.cell? ⟨w.heap.size, 4, none⟩ = some (.string ⟨#[]⟩) ∧ w'.cell? ⟨w.heap.size, 5, none⟩ = some (.slice (some ad) 2 d)) ∧ w'.cell? ⟨0, o, none⟩ = some (.string SW) ∧ (w'.cell? ad = some (.int .u8 (y.k : Int)) ∧ w'.cell? ⟨ad.block, ad.off + 1, none⟩ = some (.int .u8 (y.o : Int)) ∧ w'.cell? ⟨ad.block, ad.off + 2, none⟩ = some (.int .u8 (y.t : Int)) ∧ w'.cell? ⟨ad.block, ad.off + 3, none⟩ = some (.int .i32 y.n) ∧ w'.cell? ⟨ad.block, ad.off + 4, none⟩ = some (.string SY) ∧ w'.cell? ⟨ad.block, ad.off + 5, none⟩ = some (.slice Cy qy fy)) ∧ (w'.cell? ⟨ad.block, ad.off + 6, none⟩ = some (.int .u8 (x.k : Int)) ∧ w'.cell? ⟨ad.block, ad.off + 6 + 1, none⟩ = some (.int .u8 (x.o : Int)) ∧ w'.cell? ⟨ad.block, ad.off + 6 + 2, none⟩ = some (.int .u8 (x.t : Int)) ∧ w'.cell? ⟨ad.block, ad.off + 6 + 3, none⟩ = some (.int .i32 x.n) ∧ w'.cell? ⟨ad.block, ad.off + 6 + 4, none⟩ = some (.string SX) ∧ w'.cell? ⟨ad.block, ad.off + 6 + 5, none⟩ = some (.slice Cx qx fx)))
    (first | (exact HC.out _ _ _ _ _ HV0.out) | (exact HC.out _ _ _ _ _ HV.out) | (exact HC.out _ _ _ _ _ H1.out) | (exact HC.out _ _ _ _ _ H2.out) | (exact HC.out _ _ _ _ _ H2a.out) | (exact HC.out _ _ _ _ _ H3.out) | (exact HC.out _ _ _ _ _ H4.out) | go_keep)
    (first
    | (go_at_call 61; (with_reducible refine (HI.out _ _ _ _ HV.out).mono ?_); rintro e1 W1 ⟨A1, c1, q1, rfl, h1, hq1, hq2⟩; have H1 := Lib.hid h1; have HQ2 := Lib.hid hq2; clear h1 hq2)
    | (go_at_call 59; (with_reducible refine (CK.out _).mono ?_); rintro e1 W2 ⟨rfl, b⟩; have H2 := Lib.hid (H1.out.below b); clear b; have T1 := Lib.hid (HT1.out _ _ _ _ _ H2.out))
    | (refine step_rwsG rfl (.tmp 81) (.tmp 87) rfl w0.heap.size q1 c1 1 1 (q1 + 1) A1 (some ⟨W2.heap.size, 0, none⟩) _ [mk o] rfl rfl T1.out.2.1 rfl (by decide) T1.out.1 rfl hq1 T1.out.2.2.1 ?_; intro A2 c2 W3 o2 g gr; have H3 := Lib.hid (T1.out.2.2.2 W3 A2 c2 o2 g gr); clear o2 g gr))
  all_goals (
    go_wp2_with (go_at_call 61; (with_reducible refine (HJ.out _ _ _ _ _ H3.out HQ2.out).mono ?_); rintro e1 W4 ⟨A4, c4, q4, rfl, h4⟩; have H4 := Lib.hid h4; clear h4)
    first | exact HG.out _ _ _ _ _ H4.out HE.out | (go_ret; exact HG.out _ _ _ _ _ H4.out HE.out))
end Go.Proofs.YtplcmcealeeppaaGreatDoor
/- The program: operands; the tokens of every tree. -/
set_option linter.unusedVariables false
set_option linter.unusedSimpArgs false
namespace Go.Proofs.YtplcmcealeeppaaGreatDoor
open Go Go.RowKit L8 L10

set_option maxRecDepth 100000 in
set_option maxHeartbeats 16000000 in
theorem ao_small (e : Ex) (ih : AxC e) (hk : e.k = 1 ∨ e.k = 2 ∨ e.k = 3 ∨ e.k = 4 ∨ e.k = 5) : AoC e := by
  intro w0 w A B n c m d rs t R hm ok b o hb
  have hbig : big e.k = false := by rcases hk with h | h | h | h | h <;> rw [h] <;> rfl
  rw [op_small hbig]
  have HV : Hid (ApS w0 w e B m d A (w.alloc (.cells (exC e B m d) 27)) A n c rs) := Lib.hid (ApS.new (m := m) b o t R)
  have HG : Hid (∀ (Z : World) (A2 : Option Addr) (q2 c2 : Nat) (k : List Tk), ApS w0 w e B m d A Z A2 q2 c2 k → rs ++ tkE e = k → ApR w0 w A (rs ++ tkE e) (.returned (.slice A2 q2 c2)) Z) := Lib.hid fun Z A2 q2 c2 k h hk => h.gives hk
  have HI := Lib.hid (ih.at HV.out t R R hm ok (by omega))
  clear t R hm b o hb ih hbig ok
  generalize ApR w0 w A (rs ++ tkE e) = POST at *
  have q1 : ((e.k : Int) == 1) = decide (e.k = 1) := nat_eq10 _ 1
  have q2 : ((e.k : Int) == 2) = decide (e.k = 2) := nat_eq10 _ 2
  have q3 : ((e.k : Int) == 3) = decide (e.k = 3) := nat_eq10 _ 3
  have q4 : ((e.k : Int) == 4) = decide (e.k = 4) := nat_eq10 _ 4
  have q5 : ((e.k : Int) == 5) = decide (e.k = 5) := nat_eq10 _ 5
  have hw : (decide (e.k = 1) = true) ∨ (decide (e.k = 1) = false ∧ decide (e.k = 2) = true) ∨ (decide (e.k = 1) = false ∧ decide (e.k = 2) = false ∧ decide (e.k = 3) = true) ∨ (decide (e.k = 1) = false ∧ decide (e.k = 2) = false ∧ decide (e.k = 3) = false ∧ decide (e.k = 4) = true) ∨ (decide (e.k = 1) = false ∧ decide (e.k = 2) = false ∧ decide (e.k = 3) = false ∧ decide (e.k = 4) = false ∧ decide (e.k = 5) = true) := by
    rcases hk with h | h | h | h | h <;> rw [h] <;> decide
  clear hk
  dsimp only [exV, exC] at *
  generalize strOf e.s = S at *
  generalize decide (e.k = 1) = b1 at *
  generalize decide (e.k = 2) = b2 at *
  generalize decide (e.k = 3) = b3 at *
  generalize decide (e.k = 4) = b4 at *
  generalize decide (e.k = 5) = b5 at *
  rcases hw with rfl | ⟨rfl, rfl⟩ | ⟨rfl, rfl, rfl⟩ | ⟨rfl, rfl, rfl, rfl⟩ | ⟨rfl, rfl, rfl, rfl, rfl⟩
  all_goals
    go_enter Tryz.func61, Tryz.ntmps61
    go_wp2_with (go_at_call 40; (with_reducible refine (HI.out).mono ?_); rintro e1 W4 ⟨A4, c4, q4z, rfl, h4, hq4z⟩; have H4 := Lib.hid h4; clear h4 hq4z)
    exact HG.out _ _ _ _ _ H4.out rfl
set_option maxRecDepth 100000 in
set_option maxHeartbeats 16000000 in
theorem ao_big (e : Ex) (ih : AxC e) (ha : allE e = true) (hk : e.k = 6 ∨ e.k = 7 ∨ e.k = 8 ∨ e.k = 9) : AoC e := by
  intro w0 w A B n c m d rs t R hm ok b o hb
  have hbig : big e.k = true := by rcases hk with h | h | h | h <;> rw [h] <;> rfl
  rw [op_big hbig]
  have HV : Hid (ApS w0 w e B m d A (w.alloc (.cells (exC e B m d) 27)) A n c rs) := Lib.hid (ApS.new (m := m) b o t R)
  have HC : Hid (∀ (Y : World) (A' : Option Addr) (n' c' : Nat) (l : List Tk), ApS w0 w e B m d A Y A' n' c' l → Y.cell? ⟨w.heap.size, 0, none⟩ = some (.int .u8 (e.k : Int)) ∧ Y.cell? ⟨w.heap.size, 1, none⟩ = some (.int .u8 (e.o : Int)) ∧ Y.cell? ⟨w.heap.size, 2, none⟩ = some (.int .u8 (e.t : Int)) ∧ Y.cell? ⟨w.heap.size, 3, none⟩ = some (.int .i32 e.n) ∧ Y.cell? ⟨w.heap.size, 4, none⟩ = some (.string (strOf e.s)) ∧ Y.cell? ⟨w.heap.size, 5, none⟩ = some (.slice B m d)) := Lib.hid fun Y A' n' c' l h => h.cells
  have HG : Hid (∀ (Z : World) (A2 : Option Addr) (q2 c2 : Nat) (k : List Tk), ApS w0 w e B m d A Z A2 q2 c2 k → rs ++ lp :: (tkE e ++ [rp]) = k → ApR w0 w A (rs ++ lp :: (tkE e ++ [rp])) (.returned (.slice A2 q2 c2)) Z) := Lib.hid fun Z A2 q2 c2 k h hk => h.gives hk
  have HT1 := Lib.hid (fun (Y : World) (A' : Option Addr) (n' c' : Nat) (l : List Tk) (h : ApS w0 w e B m d A Y A' n' c' l) => h.one t R lp (okx_k (by show (1 : Nat) ≤ maxLen; unfold maxLen; decide) (by decide)) (cs := #[.int .u8 5, .int .i64 0, .string ⟨#[40]⟩, .int .i32 0]) rfl)
  have HT2 := Lib.hid (fun (Y : World) (A' : Option Addr) (n' c' : Nat) (l : List Tk) (h : ApS w0 w e B m d A Y A' n' c' l) => h.one t R rp (okx_k (by show (1 : Nat) ≤ maxLen; unfold maxLen; decide) (by decide)) (cs := #[.int .u8 5, .int .i64 0, .string ⟨#[41]⟩, .int .i32 0]) rfl)
  have CL := Lib.hid (fun (W : World) => show Calls Tryz.prog 59 #[.string ⟨#[40]⟩] W (fun e w' => e = .returned (.agg #[.int .u8 5, .int .i64 0, .string ⟨#[40]⟩, .int .i32 0]) ∧ Below W.heap.size W w') from Psy (s := [40]) (by decide) W)
  have CR := Lib.hid (fun (W : World) => show Calls Tryz.prog 59 #[.string ⟨#[41]⟩] W (fun e w' => e = .returned (.agg #[.int .u8 5, .int .i64 0, .string ⟨#[41]⟩, .int .i32 0]) ∧ Below W.heap.size W w') from Psy (s := [41]) (by decide) W)
  have hs1 := szE_pos e
  have hlen := o.len
  have hbb : n + 1 + (tkE e).length + 1 ≤ 1000000 := by have := tk_bound e ha; omega
  have HI := Lib.hid (fun (Y : World) (A' : Option Addr) (c' : Nat) (l : List Tk) (h : ApS w0 w e B m d A Y A' (n + 1) c' l) => (ih.at h t R R hm ok (by omega)).mono fun en w' ⟨A2, c2, q2, h1, h2, h3⟩ => (⟨A2, c2, q2, h1, h2, by omega⟩ : ∃ A2 c2 q2, en = Ending.returned (.slice A2 q2 c2) ∧ ApS w0 w e B m d A w' A2 q2 c2 (l ++ tkE e) ∧ q2 + 1 ≤ 1000000))
  have HE := Lib.hid (show rs ++ lp :: (tkE e ++ [rp]) = ((rs ++ [lp]) ++ tkE e) ++ [rp] by simp)
  have hn : n + 1 ≤ 1000000 := by omega
  have q1 : ((e.k : Int) == 1) = false := by rcases hk with h | h | h | h <;> rw [h] <;> decide
  have q2 : ((e.k : Int) == 2) = false := by rcases hk with h | h | h | h <;> rw [h] <;> decide
  have q3 : ((e.k : Int) == 3) = false := by rcases hk with h | h | h | h <;> rw [h] <;> decide
  have q4 : ((e.k : Int) == 4) = false := by rcases hk with h | h | h | h <;> rw [h] <;> decide
  have q5 : ((e.k : Int) == 5) = false := by rcases hk with h | h | h | h <;> rw [h] <;> decide
  clear t R hm b o hb ih hbig ok hk ha hs1 hbb hlen
  generalize hP : ApR w0 w A (rs ++ lp :: (tkE e ++ [rp])) = POST at *
  clear hP
  dsimp only [exV, exC] at *
  generalize strOf e.s = S at *
  go_enter Tryz.func61, Tryz.ntmps61
  go_wp2
  generalize hV : w.alloc (.cells #[.int .u8 (e.k : Int), .int .u8 (e.o : Int), .int .u8 (e.t : Int), .int .i32 e.n, .string S, .slice B m d] 27) = V at *
  clear hV
  have HV0 := HV
  replace HV := Lib.hid (show ApS w0 w e B m d A V.drew A n c rs from HV0.out.below (bdrew (b0 _) 1))
  go_region_held3 (fun w' => w'.cell? ⟨w.heap.size, 0, none⟩ = some (.int .u8 (e.k : Int)) ∧ w'.cell? ⟨w.heap.size, 1, none⟩ = some (.int .u8 (e.o : Int)) ∧ w'.cell? ⟨w.heap.size, 2, none⟩ = some (.int .u8 (e.t : Int)) ∧ w'.cell? ⟨w.heap.size, 3, none⟩ = some (.int .i32 e.n) ∧ w'.cell? ⟨w.heap.size, 4, none⟩ = some (.string S) ∧ w'.cell? ⟨w.heap.size, 5, none⟩ = some (.slice B m d))
    (first | (exact HC.out _ _ _ _ _ HV0.out) | (exact HC.out _ _ _ _ _ HV.out) | (exact HC.out _ _ _ _ _ H1.out) | (exact HC.out _ _ _ _ _ H1a.out) | (exact HC.out _ _ _ _ _ H3.out) | (exact HC.out _ _ _ _ _ H4.out) | (exact HC.out _ _ _ _ _ H5.out) | (exact HC.out _ _ _ _ _ H5a.out) | (exact HC.out _ _ _ _ _ HQ.out) | go_keep)
    (first
    | (go_at_call 59; (with_reducible refine (CL.out _).mono ?_); rintro e1 W1 ⟨rfl, b⟩; have H1 := Lib.hid (HV.out.below b); clear b; have H1a := Lib.hid (H1.out.below (bal (b0 W1) (.cells #[.int .u8 5, .int .i64 0, .string ⟨#[40]⟩, .int .i32 0] 47))); have T1 := Lib.hid (HT1.out _ _ _ _ _ H1.out))
    | (refine step_rwsG rfl (.tmp 16) (.tmp 18) rfl w0.heap.size n c 1 1 (n + 1) A (some ⟨W1.heap.size, 0, none⟩) rs [lp] rfl rfl T1.out.2.1 rfl (by decide) T1.out.1 rfl hn T1.out.2.2.1 ?_; intro A2 c2 W3 o2 g gr; have H3 := Lib.hid (T1.out.2.2.2 W3 A2 c2 o2 g gr); clear o2 g gr)
    | (go_at_call 40; (with_reducible refine (HI.out _ _ _ _ H3.out).mono ?_); rintro e1 W4 ⟨A4, c4, q4', rfl, h4, hq4⟩; have H4 := Lib.hid h4; clear h4)
    | (go_at_call 59; (with_reducible refine (CR.out _).mono ?_); rintro e1 W5 ⟨rfl, b⟩; have H5 := Lib.hid (H4.out.below b); clear b; have H5a := Lib.hid (H5.out.below (bal (b0 W5) (.cells #[.int .u8 5, .int .i64 0, .string ⟨#[41]⟩, .int .i32 0] 47))); have T5 := Lib.hid (HT2.out _ _ _ _ _ H5.out))
    | (refine step_rwsG rfl (.tmp 21) (.tmp 23) rfl w0.heap.size q4' c4 1 1 (q4' + 1) A4 (some ⟨W5.heap.size, 0, none⟩) _ [rp] rfl rfl T5.out.2.1 rfl (by decide) T5.out.1 rfl hq4 T5.out.2.2.1 ?_; intro A6 c6 Y o2 g gr; have HQ := Lib.hid (T5.out.2.2.2 Y A6 c6 o2 g gr); clear o2 g gr))
  all_goals (first | exact HG.out _ _ _ _ _ HQ.out HE.out | (go_ret; exact HG.out _ _ _ _ _ HQ.out HE.out) | (go_wp2; first | exact HG.out _ _ _ _ _ HQ.out HE.out | (go_ret; exact HG.out _ _ _ _ _ HQ.out HE.out)))
theorem both_all : ∀ e : Ex, allE e = true → AxC e ∧ AoC e := by
  refine Ex.ind fun e ih h => ?_
  have key : AxC e := by
    rcases own_ways (all_own h) with ⟨n, rfl⟩ | ⟨n, _, _, rfl⟩ | ⟨n, hn, rfl⟩ | ⟨s, _, rfl⟩ | ⟨s, y, _, rfl⟩ | ⟨o, y, h1, h2, rfl⟩ | ⟨o, a, b, h1, h2, rfl⟩ | ⟨t, y, ht, rfl⟩ | ⟨s, _, rfl⟩
    · exact ax_1 n
    · exact ax_2 n
    · rcases hn with rfl | rfl
      · exact ax_30
      · exact ax_31
    · exact ax_4 s
    · have hy := all_1 h
      exact ax_5 s y (ih y (by simp [Ex.l]) hy).1 hy
    · exact ax_6 o h1 h2 y (ih y (by simp [Ex.l]) (all_1 h)).2
    · have hab := all_2 h
      exact ax_7 o h1 h2 a b (ih a (by simp [Ex.l]) hab.1).2 (ih b (by simp [Ex.l]) hab.2).2 hab.1
    · have ht2 := (prim_iff t).1 ht
      exact ax_8 t (by omega) (by omega) y (ih y (by simp [Ex.l]) (all_1 h)).2
    · exact ax_9 s
  refine ⟨key, ?_⟩
  have hk : (e.k = 1 ∨ e.k = 2 ∨ e.k = 3 ∨ e.k = 4 ∨ e.k = 5) ∨ (e.k = 6 ∨ e.k = 7 ∨ e.k = 8 ∨ e.k = 9) := by
    rcases own_ways (all_own h) with ⟨n, rfl⟩ | ⟨n, _, _, rfl⟩ | ⟨n, hn, rfl⟩ | ⟨s, _, rfl⟩ | ⟨s, y, _, rfl⟩ | ⟨o, y, h1, h2, rfl⟩ | ⟨o, a, b, h1, h2, rfl⟩ | ⟨t, y, ht, rfl⟩ | ⟨s, _, rfl⟩ <;> simp [Ex.k]
  exact hk.elim (fun hk => ao_small e key hk) (fun hk => ao_big e key h hk)
end Go.Proofs.YtplcmcealeeppaaGreatDoor
