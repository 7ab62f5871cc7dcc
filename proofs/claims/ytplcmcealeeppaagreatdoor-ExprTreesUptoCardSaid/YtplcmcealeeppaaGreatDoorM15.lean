/- The program: the tokens of trees with parts. -/
import Derived.Deep.RegionHeld3
import Derived.Test.YtplcmcealeeppaaGreatDoorM14
set_option linter.unusedVariables false
set_option linter.unusedSimpArgs false
set_option linter.unusedVariables false
set_option linter.unusedSimpArgs false
namespace Go.Proofs.YtplcmcealeeppaaGreatDoor
open Go Go.RowKit L8 L10

set_option maxRecDepth 100000 in
set_option maxHeartbeats 16000000 in
theorem ax_8 (k : Nat) (h1 : 1 ≤ k) (h2 : k ≤ 3) (y : Ex) (ih : AoC y) : AxC (.mk 8 0 k 0 [] [y]) := by
  intro w0 w A B n c m d rs t R hm ok b oo hb
  obtain rfl : m = 1 := hm.symm
  have R1 : TrR w0 B d [y] := R
  obtain ⟨ad, rfl, oky, Cy, fy, Ry, Xy⟩ := R1.hd
  obtain ⟨qy, hqy⟩ : ∃ q, y.l.length = q := ⟨_, rfl⟩
  have hsz : szE (.mk 8 0 k 0 [] [y]) = 1 + szE y := by { simp only [szE, szL]; omega }
  have HV : Hid (ApS w0 w (.mk 8 0 k 0 [] [y]) (some ad) 1 d A (w.alloc (.cells #[.int .u8 8, .int .u8 0, .int .u8 (k : Int), .int .i32 0, .string ⟨#[]⟩, .slice (some ad) 1 d] 27)) A n c rs) := Lib.hid (ApS.new (m := 1) b oo t R)
  have HC : Hid (∀ (Y : World) (A' : Option Addr) (n' c' : Nat) (l : List Tk), ApS w0 w (.mk 8 0 k 0 [] [y]) (some ad) 1 d A Y A' n' c' l → (Y.cell? ⟨w.heap.size, 0, none⟩ = some (.int .u8 8) ∧ Y.cell? ⟨w.heap.size, 1, none⟩ = some (.int .u8 0) ∧ Y.cell? ⟨w.heap.size, 2, none⟩ = some (.int .u8 (k : Int)) ∧ Y.cell? ⟨w.heap.size, 3, none⟩ = some (.int .i32 0) ∧ Y.cell? ⟨w.heap.size, 4, none⟩ = some (.string ⟨#[]⟩) ∧ Y.cell? ⟨w.heap.size, 5, none⟩ = some (.slice (some ad) 1 d)) ∧ Y.cell? ⟨2, k, none⟩ = some (.string (strOf (wd k))) ∧ XC Y ad y Cy qy fy) := Lib.hid fun Y A' n' c' l h => ⟨h.cells, h.t10.ty h1 h2, XC.of Xy hqy h.bel⟩
  have HG : Hid (∀ (Z : World) (A2 : Option Addr) (q2 c2 : Nat) (kk : List Tk), ApS w0 w (.mk 8 0 k 0 [] [y]) (some ad) 1 d A Z A2 q2 c2 kk → rs ++ tkE (.mk 8 0 k 0 [] [y]) = kk → ApR w0 w A (rs ++ tkE (.mk 8 0 k 0 [] [y])) (.returned (.slice A2 q2 c2)) Z) := Lib.hid fun Z A2 q2 c2 kk h hk => h.gives hk
  have HT1 := Lib.hid (fun (Y : World) (A' : Option Addr) (n' c' : Nat) (l : List Tk) (h : ApS w0 w (.mk 8 0 k 0 [] [y]) (some ad) 1 d A Y A' n' c' l) => h.one t R (kw (wd k)) (okx_k (wd_len10 k) (by decide)) (cs := #[.int .u8 2, .int .i64 0, .string (strOf (wd k)), .int .i32 0]) rfl)
  have CK := Lib.hid (fun (W : World) => Pkw (s := wd k) (wd_key1 k (by omega) h1) W)
  have HI := Lib.hid (fun (Y : World) (A' : Option Addr) (c' : Nat) (l : List Tk) (h : ApS w0 w (.mk 8 0 k 0 [] [y]) (some ad) 1 d A Y A' (n + 1) c' l) => (ih.at h t R Ry hqy oky (by omega)).mono fun en w' ⟨A2, c2, q2, h1, h2, h3⟩ => (⟨A2, c2, q2, h1, h2⟩ : ∃ A2 c2 q2, en = Ending.returned (.slice A2 q2 c2) ∧ ApS w0 w (.mk 8 0 k 0 [] [y]) (some ad) 1 d A w' A2 q2 c2 (l ++ opT y)))
  have HE := Lib.hid (show rs ++ tkE (.mk 8 0 k 0 [] [y]) = (rs ++ [kw (wd k)]) ++ opT y by rw [tk_8]; simp)
  have hn : n + 1 ≤ 1000000 := by omega
  have ho0 : (0 : Int) ≤ (k : Int) := by omega
  have ho27 : (k : Int) < 4 := by omega
  clear t R R1 ok b oo hb hsz oky Ry Xy hqy ih h1 h2
  generalize hP : ApR w0 w A (rs ++ tkE (.mk 8 0 k 0 [] [y])) = POST at *
  show Calls Tryz.prog 40 #[.slice A n c, .agg #[.int .u8 8, .int .u8 0, .int .u8 (k : Int), .int .i32 0, .string ⟨#[]⟩, .slice (some ad) 1 d]] w POST
  clear hP
  unfold XC at HC
  dsimp only [exV] at HI
  generalize strOf (wd k) = SW at *
  generalize strOf y.s = SY at *
  go_enter Tryz.func40, Tryz.ntmps40
  go_wp2
  generalize hV : w.alloc (.cells #[.int .u8 8, .int .u8 0, .int .u8 (k : Int), .int .i32 0, .string ⟨#[]⟩, .slice (some ad) 1 d] 27) = V at *
  clear hV
  have HV0 := HV
  replace HV := Lib.hid (show ApS w0 w (.mk 8 0 k 0 [] [y]) (some ad) 1 d A V.drew A n c rs from HV0.out.below (bdrew (b0 _) 1))
  obtain ⟨z1, z2⟩ := HC.out _ _ _ _ _ HV0.out
  obtain ⟨⟨a0_0, a0_1, a0_2, a0_3, a0_4, a0_5⟩, a1, ⟨a2_0, a2_1, a2_2, a2_3, a2_4, a2_5⟩⟩ := HC.out _ _ _ _ _ HV.out
  go_region_held3 (fun w' => (w'.cell? ⟨w.heap.size, 0, none⟩ = some (.int .u8 8) ∧ w'.cell? ⟨w.heap.size, 1, none⟩ = some (.int .u8 0) ∧ w'.cell? ⟨w.heap.size, 2, none⟩ = some (.int .u8 (k : Int)) ∧ w'.cell? ⟨w.heap.size, 3, none⟩ = some (.int .i32 0) ∧ w'.cell? ⟨w.heap.size, 4, none⟩ = some (.string ⟨#[]⟩) ∧ w'.cell? ⟨w.heap.size, 5, none⟩ = some (.slice (some ad) 1 d)) ∧ w'.cell? ⟨2, k, none⟩ = some (.string SW) ∧ (w'.cell? ad = some (.int .u8 (y.k : Int)) ∧ w'.cell? ⟨ad.block, ad.off + 1, none⟩ = some (.int .u8 (y.o : Int)) ∧ w'.cell? ⟨ad.block, ad.off + 2, none⟩ = some (.int .u8 (y.t : Int)) ∧ w'.cell? ⟨ad.block, ad.off + 3, none⟩ = some (.int .i32 y.n) ∧ w'.cell? ⟨ad.block, ad.off + 4, none⟩ = some (.string SY) ∧ w'.cell? ⟨ad.block, ad.off + 5, none⟩ = some (.slice Cy qy fy)))
    (first | (exact HC.out _ _ _ _ _ HV0.out) | (exact HC.out _ _ _ _ _ HV.out) | (exact HC.out _ _ _ _ _ H1.out) | (exact HC.out _ _ _ _ _ H1a.out) | (exact HC.out _ _ _ _ _ H3.out) | (exact HC.out _ _ _ _ _ H4.out) | go_keep)
    (first
    | (go_at_call 59; (with_reducible refine (CK.out _).mono ?_); rintro e1 W1 ⟨rfl, b⟩; have H1 := Lib.hid (HV.out.below b); clear b; have H1a := Lib.hid (H1.out.below (bal (b0 W1) (.cells #[.int .u8 2, .int .i64 0, .string SW, .int .i32 0] 47))); have T1 := Lib.hid (HT1.out _ _ _ _ _ H1.out))
    | (refine step_rwsG rfl (.tmp 97) (.tmp 103) rfl w0.heap.size n c 1 1 (n + 1) A (some ⟨W1.heap.size, 0, none⟩) rs [kw (wd k)] rfl rfl T1.out.2.1 rfl (by decide) T1.out.1 rfl hn T1.out.2.2.1 ?_; intro A2 c2 W3 o2 g gr; have H3 := Lib.hid (T1.out.2.2.2 W3 A2 c2 o2 g gr); clear o2 g gr)
    | (go_at_call 61; (with_reducible refine (HI.out _ _ _ _ H3.out).mono ?_); rintro e1 W4 ⟨A4, c4, q4, rfl, h4⟩; have H4 := Lib.hid h4; clear h4))
  all_goals (first | exact HG.out _ _ _ _ _ H4.out HE.out | (go_ret; exact HG.out _ _ _ _ _ H4.out HE.out) | (go_wp2; first | exact HG.out _ _ _ _ _ H4.out HE.out | (go_ret; exact HG.out _ _ _ _ _ H4.out HE.out)))
end Go.Proofs.YtplcmcealeeppaaGreatDoor
/- The program: the tokens of trees with parts. -/
set_option linter.unusedVariables false
set_option linter.unusedSimpArgs false
namespace Go.Proofs.YtplcmcealeeppaaGreatDoor
open Go Go.RowKit L8 L10

set_option maxRecDepth 100000 in
set_option maxHeartbeats 16000000 in
theorem ax_5 (s : Bs) (y : Ex) (ih : AxC y) (hy : allE y = true) : AxC (.mk 5 0 0 0 s [y]) := by
  intro w0 w A B n c m d rs t R hm ok b oo hb
  obtain rfl : m = 1 := hm.symm
  have R1 : TrR w0 B d [y] := R
  obtain ⟨ad, rfl, oky, Cy, fy, Ry, Xy⟩ := R1.hd
  obtain ⟨qy, hqy⟩ : ∃ q, y.l.length = q := ⟨_, rfl⟩
  have hsz : szE (.mk 5 0 0 0 s [y]) = 1 + szE y := by { simp only [szE, szL]; omega }
  have HV : Hid (ApS w0 w (.mk 5 0 0 0 s [y]) (some ad) 1 d A (w.alloc (.cells #[.int .u8 5, .int .u8 0, .int .u8 0, .int .i32 0, .string (strOf s), .slice (some ad) 1 d] 27)) A n c rs) := Lib.hid (ApS.new (m := 1) b oo t R)
  have HC : Hid (∀ (Y : World) (A' : Option Addr) (n' c' : Nat) (l : List Tk), ApS w0 w (.mk 5 0 0 0 s [y]) (some ad) 1 d A Y A' n' c' l → (Y.cell? ⟨w.heap.size, 0, none⟩ = some (.int .u8 5) ∧ Y.cell? ⟨w.heap.size, 1, none⟩ = some (.int .u8 0) ∧ Y.cell? ⟨w.heap.size, 2, none⟩ = some (.int .u8 0) ∧ Y.cell? ⟨w.heap.size, 3, none⟩ = some (.int .i32 0) ∧ Y.cell? ⟨w.heap.size, 4, none⟩ = some (.string (strOf s)) ∧ Y.cell? ⟨w.heap.size, 5, none⟩ = some (.slice (some ad) 1 d)) ∧ XC Y ad y Cy qy fy) := Lib.hid fun Y A' n' c' l h => ⟨h.cells, XC.of Xy hqy h.bel⟩
  have HG : Hid (∀ (Z : World) (A2 : Option Addr) (q2 c2 : Nat) (kk : List Tk), ApS w0 w (.mk 5 0 0 0 s [y]) (some ad) 1 d A Z A2 q2 c2 kk → rs ++ tkE (.mk 5 0 0 0 s [y]) = kk → ApR w0 w A (rs ++ tkE (.mk 5 0 0 0 s [y])) (.returned (.slice A2 q2 c2)) Z) := Lib.hid fun Z A2 q2 c2 kk h hk => h.gives hk
  have HT2 := Lib.hid (fun (Y : World) (A' : Option Addr) (n' c' : Nat) (l : List Tk) (h : ApS w0 w (.mk 5 0 0 0 s [y]) (some ad) 1 d A Y A' n' c' l) => h.two t R (nm s) lb (okx_k ok.2.2.2.2.2 (by decide)) (okx_k (by show (1 : Nat) ≤ maxLen; unfold maxLen; decide) (by decide)) (cs := #[.int .u8 1, .int .i64 0, .string (strOf s), .int .i32 0, .int .u8 5, .int .i64 0, .string ⟨#[91]⟩, .int .i32 0]) rfl)
  have HT1 := Lib.hid (fun (Y : World) (A' : Option Addr) (n' c' : Nat) (l : List Tk) (h : ApS w0 w (.mk 5 0 0 0 s [y]) (some ad) 1 d A Y A' n' c' l) => h.one t R rb (okx_k (by show (1 : Nat) ≤ maxLen; unfold maxLen; decide) (by decide)) (cs := #[.int .u8 5, .int .i64 0, .string ⟨#[93]⟩, .int .i32 0]) rfl)
  have CN := Lib.hid (fun (W : World) => Pname_any (strOf s) W)
  have CL := Lib.hid (fun (W : World) => show Calls Tryz.prog 59 #[.string ⟨#[91]⟩] W (fun e w' => e = .returned (.agg #[.int .u8 5, .int .i64 0, .string ⟨#[91]⟩, .int .i32 0]) ∧ Below W.heap.size W w') from Psy (s := [91]) (by decide) W)
  have CR := Lib.hid (fun (W : World) => show Calls Tryz.prog 59 #[.string ⟨#[93]⟩] W (fun e w' => e = .returned (.agg #[.int .u8 5, .int .i64 0, .string ⟨#[93]⟩, .int .i32 0]) ∧ Below W.heap.size W w') from Psy (s := [93]) (by decide) W)
  have HI := Lib.hid (fun (Y : World) (A' : Option Addr) (c' : Nat) (l : List Tk) (h : ApS w0 w (.mk 5 0 0 0 s [y]) (some ad) 1 d A Y A' (n + 2) c' l) => (ih.at h t R Ry hqy oky (by omega)).mono fun en w' ⟨A2, c2, q2, h1, h2, h3⟩ => (⟨A2, c2, q2, h1, h2, by have := tk_bound y hy; omega⟩ : ∃ A2 c2 q2, en = Ending.returned (.slice A2 q2 c2) ∧ ApS w0 w (.mk 5 0 0 0 s [y]) (some ad) 1 d A w' A2 q2 c2 (l ++ tkE y) ∧ q2 + 1 ≤ 1000000))
  have HE := Lib.hid (show rs ++ tkE (.mk 5 0 0 0 s [y]) = (rs ++ [nm s, lb]) ++ tkE y ++ [rb] by rw [tk_5]; simp)
  have hn : n + 2 ≤ 1000000 := by omega
  clear t R R1 ok b oo hb hsz oky Ry Xy hqy ih hy
  generalize hP : ApR w0 w A (rs ++ tkE (.mk 5 0 0 0 s [y])) = POST at *
  show Calls Tryz.prog 40 #[.slice A n c, .agg #[.int .u8 5, .int .u8 0, .int .u8 0, .int .i32 0, .string (strOf s), .slice (some ad) 1 d]] w POST
  clear hP
  unfold XC at HC
  dsimp only [exV] at HI
  generalize strOf s = S at *
  generalize strOf y.s = SY at *
  go_enter Tryz.func40, Tryz.ntmps40
  go_wp2
  generalize hV : w.alloc (.cells #[.int .u8 5, .int .u8 0, .int .u8 0, .int .i32 0, .string S, .slice (some ad) 1 d] 27) = V at *
  clear hV
  have HV0 := HV
  replace HV := Lib.hid (show ApS w0 w (.mk 5 0 0 0 s [y]) (some ad) 1 d A V.drew A n c rs from HV0.out.below (bdrew (b0 _) 1))
  obtain ⟨z1, z2⟩ := HC.out _ _ _ _ _ HV0.out
  obtain ⟨⟨a0_0, a0_1, a0_2, a0_3, a0_4, a0_5⟩, ⟨a1_0, a1_1, a1_2, a1_3, a1_4, a1_5⟩⟩ := HC.out _ _ _ _ _ HV.out
  go_region_held3 (fun w' => (w'.cell? ⟨w.heap.size, 0, none⟩ = some (.int .u8 5) ∧ w'.cell? ⟨w.heap.size, 1, none⟩ = some (.int .u8 0) ∧ w'.cell? ⟨w.heap.size, 2, none⟩ = some (.int .u8 0) ∧ w'.cell? ⟨w.heap.size, 3, none⟩ = some (.int .i32 0) ∧ w'.cell? ⟨w.heap.size, 4, none⟩ = some (.string S) ∧ w'.cell? ⟨w.heap.size, 5, none⟩ = some (.slice (some ad) 1 d)) ∧ (w'.cell? ad = some (.int .u8 (y.k : Int)) ∧ w'.cell? ⟨ad.block, ad.off + 1, none⟩ = some (.int .u8 (y.o : Int)) ∧ w'.cell? ⟨ad.block, ad.off + 2, none⟩ = some (.int .u8 (y.t : Int)) ∧ w'.cell? ⟨ad.block, ad.off + 3, none⟩ = some (.int .i32 y.n) ∧ w'.cell? ⟨ad.block, ad.off + 4, none⟩ = some (.string SY) ∧ w'.cell? ⟨ad.block, ad.off + 5, none⟩ = some (.slice Cy qy fy)))
    (first | (exact HC.out _ _ _ _ _ HV0.out) | (exact HC.out _ _ _ _ _ HV.out) | (exact HC.out _ _ _ _ _ H1.out) | (exact HC.out _ _ _ _ _ H2.out) | (exact HC.out _ _ _ _ _ H2a.out) | (exact HC.out _ _ _ _ _ H3.out) | (exact HC.out _ _ _ _ _ H4.out) | go_keep)
    (first
    | (go_at_call 60; (with_reducible refine (CN.out _).mono ?_); rintro e1 W1 ⟨rfl, b⟩; have H1 := Lib.hid (HV.out.below b); clear b)
    | (go_at_call 59; (with_reducible refine (CL.out _).mono ?_); rintro e1 W2 ⟨rfl, b⟩; have H2 := Lib.hid (H1.out.below b); clear b; have H2a := Lib.hid (H2.out.below (bal (b0 W2) (.cells #[.int .u8 1, .int .i64 0, .string S, .int .i32 0, .int .u8 5, .int .i64 0, .string ⟨#[91]⟩, .int .i32 0] 47))); have T1 := Lib.hid (HT2.out _ _ _ _ _ H2.out))
    | (refine step_rwsG rfl (.tmp 43) (.tmp 48) rfl w0.heap.size n c 2 2 (n + 2) A (some ⟨W2.heap.size, 0, none⟩) rs [nm s, lb] rfl rfl T1.out.2.1 rfl (by decide) T1.out.1 rfl hn T1.out.2.2.1 ?_; intro A2 c2 W3 o2 g gr; have H3 := Lib.hid (T1.out.2.2.2 W3 A2 c2 o2 g gr); clear o2 g gr)
    | (go_at_call 40; (with_reducible refine (HI.out _ _ _ _ H3.out).mono ?_); rintro e1 W4 ⟨A4, c4, q4, rfl, h4, hq4⟩; have H4 := Lib.hid h4; clear h4))
  all_goals (
    go_wp2_with (first
      | (go_at_call 59; (with_reducible refine (CR.out _).mono ?_); rintro e1 W5 ⟨rfl, b⟩; have H5 := Lib.hid (H4.out.below b); have T5 := Lib.hid (HT1.out _ _ _ _ _ H5.out); clear b)
      | (at_builtin; (refine app_rwsG rfl (.tmp 55) (.tmp 57) rfl w0.heap.size q4 c4 1 1 (q4 + 1) A4 (some ⟨W5.heap.size, 0, none⟩) _ [rb] rfl rfl T5.out.2.1 rfl (by decide) T5.out.1 rfl hq4 T5.out.2.2.1 ?_; intro A6 c6 Y o2 g gr; have HQ := Lib.hid (T5.out.2.2.2 Y A6 c6 o2 g gr); clear o2 g gr)))
    first | exact HG.out _ _ _ _ _ HQ.out HE.out | (go_ret; exact HG.out _ _ _ _ _ HQ.out HE.out))
end Go.Proofs.YtplcmcealeeppaaGreatDoor
