/- What the package answers about lines: whether they can be assembled, their lengths, their code. -/
import Derived.Deep.RegionHeld3
import Derived.Test.YtjdjkdgdbdenpaaDoorM26
import Derived.Test.YtjdjkdgdbdenpaaDoorM17
import Derived.Test.YtjdjkdgdbdenpaaDoorM08
set_option linter.unusedVariables false
set_option linter.unusedSimpArgs false
namespace Go.Proofs.YtjdjkdgdbdenpaaDoor
open Go Go.RowKit

theorem AMay_any {A : Option Addr} {c m : Nat} {ls : List Ln} {w : World} (R : RL w A c ls) (hm : ls.length = m) (h1 : m ≤ 1000) (hg : Vars w) : Calls Tryd.prog 21 #[.slice A m c] w fun e w' => e = .returned (.bool (decide (chk ls = 0))) ∧ Below w.heap.size w w' := by
  have CP := Lib.hid ((spansOf_any R hm (by omega) hg).mono (R' := fun e w' => ∃ A' c' n, e = .returned (.tuple #[.slice A' n c', .int .i64 (chk ls)]) ∧ Below w.heap.size w w') (fun e w' h => by
    unfold GivesP at h
    obtain ⟨A', c', h1, _, h2⟩ := h
    exact ⟨A', c', _, h1, h2⟩))
  clear R
  have hb : ((chk ls == 0) : Bool) = decide (chk ls = 0) := rfl
  generalize decide (chk ls = 0) = b at *
  generalize chk ls = er at *
  go_enter Tryd.func21, Tryd.ntmps21
  go_wp2_with (go_at_call 31; refine CP.out.mono ?_; rintro e w1 ⟨As, cs, n1, rfl, b1⟩; have P1 := Lib.hid b1; clear b1)
  go_ret
  exact ⟨rfl, P1.out⟩
theorem Lengths_any {A : Option Addr} {c m : Nat} {ls : List Ln} {w : World} (R : RL w A c ls) (hA : ∀ ad, A = some ad → 0 < ls.length → ad.block < w.heap.size) (hm : ls.length = m) (h1 : m ≤ 1000) (hg : Vars w) : Calls Tryd.prog 8 #[.slice A m c] w (GivesNE w (lenR ls) (chk ls)) := by
  unfold GivesNE
  by_cases hc : chk ls = 0
  · have C := Lib.hid (settled_ok R hA hm h1 hg hc)
    have HL := Lib.hid ((lens_least (fit_of hc R.ok (by omega))).len.trans hm)
    unfold GivesS at C
    rw [hc, lenR_ok hc, HL.out]
    clear R hm hg hc
    go_enter Tryd.func8, Tryd.ntmps8
    go_wp2_with (go_at_call 22; refine C.out.mono ?_; rintro e w1 ⟨As, cs, g, ga, An, cn, Ai, ci, rfl, s1⟩; obtain ⟨⟨p0, p1, p2, p3, p4⟩, pl⟩ := pbox_cells s1.fp; have S1 := Lib.hid s1; clear s1)
    go_ret2
    exact ⟨An, cn, rfl, S1.out.fn, S1.out.fb⟩
  · have C := Lib.hid (settled_no R hm h1 hg hc)
    rw [lenR_no hc]
    obtain ⟨er, her⟩ : ∃ er, chk ls = er := ⟨_, rfl⟩
    rw [her] at hc C ⊢
    have hq : (er != 0) = true := by simp; omega
    clear R hc her
    go_enter Tryd.func8, Tryd.ntmps8
    go_wp2_with (go_at_call 22; refine C.out.mono ?_; rintro e w1 ⟨rfl, b1⟩; have S1 := Lib.hid b1; clear b1)
    go_ret2
    exact ⟨none, 0, rfl, ownN_nil _ _, S1.out⟩
/-- The code of settled lines. -/
theorem encoded_any {X : World} {g n : Nat} {ci : Nat} {Ai : Option Addr} {lv sv av nv : Value} {iz : List C4.II} (hp : PBox X g lv sv av nv (.slice Ai n ci)) (R : C4.RI X Ai ci iz) (hn : iz.length = n) (h1 : n ≤ 1000) (hv : C4.av iz = true) :
    Calls Tryd.prog 24 #[.pointer (some ⟨g, 0, none⟩)] X fun e w' => ∃ A c, e = .returned (.slice A (C4.jl iz).length c) ∧ C4.RS w' A c (C4.jl iz) ∧ Below X.heap.size X w' := by
  have CJ := Lib.hid (C4.Join_any R hn (by omega))
  have hl := C4.jl_len R.ok
  have hj : C4.je iz = 0 := C4.je_ok hv (by omega)
  have HB := Lib.hid (C4.jl_by hv)
  rw [hj, C4.jb_ok hj] at CJ
  unfold C4.Gives at CJ
  obtain ⟨⟨p0, p1, p2, p3, p4⟩, pl⟩ := pbox_cells hp
  clear hp R hn hv hl hj
  generalize C4.jl iz = bs at *
  generalize hlen : bs.length = L at *
  go_enter Tryd.func24, Tryd.ntmps24
  go_wp2_with (go_at_call 37; refine CJ.out.mono ?_; rintro e w1 ⟨A5, c5, rfl, o1, g1⟩; have O1 := Lib.hid (And.intro (C4.OwnB.rs o1 HB.out).1 (C4.g_below0 g1)); clear o1 g1)
  go_ret
  exact ⟨A5, c5, rfl, O1.out.1, O1.out.2⟩
theorem atE_rn {w : World} {B ga m c : Nat} {ls : List Ln} (h : OwnN w B (some ⟨ga, 0, none⟩) (m + 1) c (atE (lens ls))) (hl : (lens ls).length = m) (hm : ls.length = m) : RN w (some ⟨ga, 0, none⟩) m (atL ls) := by
  have r := OwnN.rn h
  have h2 := h.len
  refine ⟨by rw [atL_len, hm]; exact Nat.le_refl _, by have := r.le; have := r.mx; omega, fun j hj => ?_⟩
  rw [atL_len] at hj
  obtain ⟨ad, e, hc⟩ := r.rd j (by omega)
  refine ⟨ad, e, ?_⟩
  rw [hc, atE_at _ (by omega)]
  have e2 : (atL ls).getD j 0 = adr (lens ls) j := by simp [atL, hj]
  rw [e2]
set_option maxRecDepth 100000 in
theorem Assemble_any {A : Option Addr} {c m : Nat} {ls : List Ln} {w : World} (R : RL w A c ls) (hA : ∀ ad, A = some ad → 0 < ls.length → ad.block < w.heap.size) (hm : ls.length = m) (h1 : m ≤ 1000) (hg : Vars w) : Calls Tryd.prog 11 #[.slice A m c] w (GivesBN w (codeR ls) (atR ls) (chk ls)) := by
  unfold GivesBN
  by_cases hc : chk ls = 0
  · have C := Lib.hid (settled_ok R hA hm h1 hg hc)
    have F := fit_of hc R.ok (by omega)
    have HL := Lib.hid ((lens_least F).len.trans hm)
    have HA := Lib.hid ((atL_len ls).trans hm)
    have HE := Lib.hid (fun (X : World) (g ci : Nat) (Ai : Option Addr) (lv sv av nv : Value) (hp : PBox X g lv sv av nv (.slice Ai m ci)) (R2 : C4.OwnI X w.heap.size Ai m ci (insL ls)) => encoded_any hp (R2.ri (insL_ok F R.ok)) ((insL_len ls).trans hm) h1 (insL_av F))
    have HR := Lib.hid (fun (X : World) (B ga c : Nat) (h : OwnN X B (some ⟨ga, 0, none⟩) (m + 1) c (atE (lens ls))) => atE_rn h HL.out hm)
    unfold GivesS at C
    rw [hc, show codeR ls = C4.jl (insL ls) from if_pos hc, show atR ls = atL ls from if_pos hc, HA.out]
    clear R hA hm hg hc F
    generalize hjl : C4.jl (insL ls) = bs at *
    generalize hlen : bs.length = L at *
    have i1 : (0 : Int) ≤ (m : Int) := by omega
    have i2 : (m : Int) ≤ ((m + 1 : Nat) : Int) := by omega
    have i3 : (m : Int) ≤ (m : Int) + 1 := by omega
    have i4 : m ≤ m + 1 := by omega
    go_enter Tryd.func11, Tryd.ntmps11
    go_wp2_with (go_at_call 22; refine C.out.mono ?_; rintro e w1 ⟨As, cs, g, ga, An, cn, Ai, ci, rfl, s1⟩; have k1 := bdrew1 (b0 w1); obtain ⟨⟨p0, p1, p2, p3, p4⟩, pl⟩ := pbox_cells (s1.keep k1).fp; have C2 := Lib.hid (HE.out _ _ _ _ _ _ _ _ (s1.keep k1).fp (s1.keep k1).fi); have S1 := Lib.hid (s1.keep k1); clear s1 k1)
    go_region_held3 (fun w' => w'.cell? ⟨g, 2, none⟩ = some (.slice (some ⟨ga, 0, none⟩) (m + 1) (m + 1)))
      (first | (exact p2) | (exact p2') | go_keep)
      (first | (go_at_call 24; (with_reducible refine C2.out.mono ?_); rintro e w2 ⟨A7, c7, rfl, r2, b2⟩; have S2 := Lib.hid (S1.out.keep b2); have p2' := (pbox_cells S2.out.fp).1.2.2.1; have R2 := Lib.hid r2; clear r2 b2))
    all_goals
      go_wp2
      go_ret3
      exact ⟨A7, c7, _, m, rfl, R2.out, HR.out _ _ _ _ S2.out.fa, S2.out.fb⟩
  · have C := Lib.hid (settled_no R hm h1 hg hc)
    rw [show codeR ls = [] from if_neg hc, show atR ls = [] from if_neg hc]
    obtain ⟨er, her⟩ : ∃ er, chk ls = er := ⟨_, rfl⟩
    rw [her] at hc C ⊢
    have hq : (er != 0) = true := by simp; omega
    clear R hc her
    go_enter Tryd.func11, Tryd.ntmps11
    go_wp2_with (go_at_call 22; refine C.out.mono ?_; rintro e w1 ⟨rfl, b1⟩; have S1 := Lib.hid b1; clear b1)
    go_ret3
    exact ⟨none, 0, none, 0, rfl, C4.RS.nil _, RN.nil _, S1.out⟩
end Go.Proofs.YtjdjkdgdbdenpaaDoor
/- The text of a line: by the program. -/
namespace Go.Proofs.YtjdjkdgdbdenpaaDoor
open Go Go.RowKit

def oneT (x : Ln) : Bs := if vld x = true then one x else []
theorem body_txL {x : Ln} (he : ex x.fn x.arg = true) (ht : x.tgt = []) : body x = txL x.fn x.arg := by
  unfold body txL textL
  rw [if_pos he, ht]
  by_cases h : x.fn = 15
  · rw [if_pos h, if_pos (show (x.fn : Int) = 15 by omega), List.append_nil]
  · rw [if_neg h, if_neg (show ¬ (x.fn : Int) = 15 by omega)]
    simp
theorem body_tgt {x : Ln} (ht : x.tgt.isEmpty = false) (h15 : x.fn ≠ 15) : body x = (nm x.fn x.arg ++ [32]) ++ x.tgt ++ (if x.fr.isEmpty then [] else 45 :: x.fr) := by
  unfold body
  rw [if_neg h15, if_neg (by rw [ht]; decide)]
  simp
theorem ret_sb {s : ByteArray} {l : Bs} {b : Bool} (h : s = strOf l) : Ending.returned (.tuple #[.string s, .bool b]) = .returned (.tuple #[.string (strOf l), .bool b]) := by rw [h]
theorem txE_ok {f a : Int} (h : ex f a = true) : txE f a = 0 := if_pos h
theorem txL_le {f a : Int} (hf : 0 ≤ f) (h : ex f a = true) (ha : isW a) : (txL f a).length ≤ 23 := by
  have hle := (ex_facts hf h).2.2.2.2.1
  have htl := (text_len a false ha.1 ha.2).2
  unfold txL
  rw [if_pos h]
  split
  · omega
  · simp; omega
set_option maxRecDepth 100000 in
set_option maxHeartbeats 8000000 in
theorem textOf_yes (x : Ln) (hx : OKx x) (hv : vld x = true) (w : World) (hg : Good w) : Calls Tryd.prog 26 #[lnV x] w fun e w' => e = .returned (.tuple #[.string (strOf (one x)), .bool true]) ∧ Below w.heap.size w w' := by
  have CV := Lib.hid (fun (W : World) (b : Below w.heap.size w W) => isValid_any x hx W (hg.1.below b))
  have CI := Lib.hid (fun W => instrOf_any x W)
  have CT := Lib.hid (fun (W : World) (b : Below w.heap.size w W) => Text_is x.fn x.arg (by omega) hx.arg W (hg.below b))
  have CN := Lib.hid (fun (W : World) (b : Below w.heap.size w W) => Name_any x.fn x.arg (by omega) hx.arg W (hg.1.below b))
  obtain ⟨hl, he, ht⟩ := vld_parts hv
  have l1 := orNone_len hl
  have l2 := (ex_facts (f := (x.fn : Int)) (by omega) he).2.2.2.2.1
  have l3 := txL_le (f := (x.fn : Int)) (by omega) he hx.arg
  rw [hv] at CV
  rw [he] at CN
  rw [txE_ok he] at CT
  have k0 := strOf_empty x.lab
  have k1 := strOf_empty x.tgt
  have k2 := strOf_empty x.fr
  have k0' : (!(strOf x.lab).toList.isEmpty) = !x.lab.isEmpty := by rw [k0]
  have k2' : (!(strOf x.fr).toList.isEmpty) = !x.fr.isEmpty := by rw [k2]
  have CF := cat_str x.lab [58, 32] (by simp; omega)
  have hF : front x = if x.lab.isEmpty then [] else x.lab ++ [58, 32] := rfl
  have lF : (front x).length ≤ 34 := by rw [hF]; split <;> simp; omega
  have hone : one x = front x ++ (body x ++ [10]) := rfl
  rcases ht with ⟨t1, t2⟩ | ⟨t1, t2, t3, t4⟩
  · have hb := body_txL he t1
    rw [hb] at hone
    have c1 := cat_str (front x) (txL x.fn x.arg) (by omega)
    have c2 := cat_str (front x ++ txL x.fn x.arg) [10] (by simp; omega)
    have HO := Lib.hid (show (front x ++ txL x.fn x.arg) ++ [10] = one x by rw [hone]; simp)
    have k1t : x.tgt.isEmpty = true := by rw [t1]; rfl
    rw [k1t] at k1
    clear hb hone hv he hl hx hg CN t1 t2 k1t k2 k2' l1 l2 l3 lF
    generalize one x = res at *
    generalize hfr : front x = F at *
    obtain ⟨lab, fn, arg, tgt, fr⟩ := x
    dsimp only at *
    generalize txL fn arg = T at *
    generalize hft : F ++ T = FT at *
    generalize hfr2 : FT ++ [10] = FR at *
    have c2' : Op.stringOp .add (strOf FT) ⟨#[10]⟩ = pure (.string (strOf FR)) := c2
    clear c2
    cases hlab : lab.isEmpty with
    | true =>
      rw [hlab] at k0 k0' hF
      simp only [if_true] at hF
      subst hF
      have c1' : Op.stringOp .add ⟨#[]⟩ (strOf T) = pure (.string (strOf FT)) := c1
      clear c1 hfr hft hfr2 CF hlab
      go_enter Tryd.func26, Tryd.ntmps26
      go_wp2_with (first
        | (go_at_call 38; refine (CV.out _ (bal (b0 w) _)).mono ?_; rintro e w1 ⟨rfl, b1⟩; have B1 := Lib.hid (blw (bal (b0 w) _) b1); obtain ⟨⟨x0, x1, x2, x3, x4⟩, x5⟩ := box5l b1; have BX := Lib.hid b1; clear b1)
        | (go_at_call 32; refine (CI.out _).mono ?_; rintro e w2 ⟨rfl, b2⟩; have B2 := Lib.hid (blw B1.out b2); clear b2)
        | (go_at_call 39; refine (CT.out _ B2.out).mono ?_; rintro e w3 ⟨rfl, b3⟩; have B3 := Lib.hid (blw B2.out b3); clear b3))
      go_ret2
      exact ⟨ret_sb (by rw [HO.out]), B3.out⟩
    | false =>
      rw [hlab] at k0 k0' hF
      simp only [Bool.false_eq_true, if_false] at hF
      rw [← hF] at CF
      have CF' : Op.stringOp .add (strOf lab) ⟨#[58, 32]⟩ = pure (.string (strOf F)) := CF
      clear hfr hft hfr2 CF hlab hF
      go_enter Tryd.func26, Tryd.ntmps26
      go_wp2_with (first
        | (go_at_call 38; refine (CV.out _ (bal (b0 w) _)).mono ?_; rintro e w1 ⟨rfl, b1⟩; have B1 := Lib.hid (blw (bal (b0 w) _) b1); obtain ⟨⟨x0, x1, x2, x3, x4⟩, x5⟩ := box5l b1; have BX := Lib.hid b1; clear b1)
        | (go_at_call 32; refine (CI.out _).mono ?_; rintro e w2 ⟨rfl, b2⟩; have B2 := Lib.hid (blw B1.out b2); clear b2)
        | (go_at_call 39; refine (CT.out _ B2.out).mono ?_; rintro e w3 ⟨rfl, b3⟩; have B3 := Lib.hid (blw B2.out b3); clear b3))
      go_ret2
      exact ⟨ret_sb (by rw [HO.out]), B3.out⟩
  · have e1 := (isLab_len t1)
    have e2 := orNone_len t2
    have k1t : x.tgt.isEmpty = false := by cases hq : x.tgt with | nil => rw [hq] at t1; cases t1 | cons a b => rfl
    have hb := body_tgt k1t t4
    rw [hb] at hone
    rw [k1t] at k1
    have c1 := cat_str (nm x.fn x.arg) [32] (by simp; omega)
    have c2 := cat_str (nm x.fn x.arg ++ [32]) x.tgt (by simp; omega)
    have c3 := cat_str (front x) (nm x.fn x.arg ++ [32] ++ x.tgt) (by simp; omega)
    have c4 := cat_str [45] x.fr (by simp; omega)
    have c5 := cat_str (front x ++ (nm x.fn x.arg ++ [32] ++ x.tgt)) ([45] ++ x.fr) (by simp; omega)
    have c6 := cat_str (front x ++ (nm x.fn x.arg ++ [32] ++ x.tgt) ++ ([45] ++ x.fr)) [10] (by simp; omega)
    have c7 := cat_str (front x ++ (nm x.fn x.arg ++ [32] ++ x.tgt)) [10] (by simp; omega)
    have HO1 := Lib.hid (show x.fr.isEmpty = true → front x ++ (nm x.fn x.arg ++ [32] ++ x.tgt) ++ [10] = one x from fun h => by rw [hone, if_pos h]; simp)
    have HO2 := Lib.hid (show x.fr.isEmpty = false → front x ++ (nm x.fn x.arg ++ [32] ++ x.tgt) ++ ([45] ++ x.fr) ++ [10] = one x from fun h => by rw [hone, if_neg (by rw [h]; decide)]; simp)
    clear hb hone hv he hl hx hg CT t1 t2 k1t t3 t4 l1 l2 l3 lF e1 e2
    generalize one x = res at *
    generalize hfr : front x = F at *
    obtain ⟨lab, fn, arg, tgt, fr⟩ := x
    dsimp only at *
    generalize nm fn arg = N at *
    generalize hn1 : N ++ [32] = N1 at *
    generalize hn2 : N1 ++ tgt = N2 at *
    generalize hn3 : F ++ N2 = N3 at *
    generalize hn4 : [45] ++ fr = N4 at *
    generalize hn5 : N3 ++ N4 = N5 at *
    generalize hn6 : N5 ++ [10] = N6 at *
    generalize hn7 : N3 ++ [10] = N7 at *
    have c1' : Op.stringOp .add (strOf N) ⟨#[32]⟩ = pure (.string (strOf N1)) := c1
    have c4' : Op.stringOp .add ⟨#[45]⟩ (strOf fr) = pure (.string (strOf N4)) := c4
    have c6' : Op.stringOp .add (strOf N5) ⟨#[10]⟩ = pure (.string (strOf N6)) := c6
    have c7' : Op.stringOp .add (strOf N3) ⟨#[10]⟩ = pure (.string (strOf N7)) := c7
    clear c1 c4 c6 c7 hn1 hn2 hn4 hn5 hn6 hn7
    cases hlab : lab.isEmpty <;> cases hfe : fr.isEmpty
    all_goals
      rw [hlab] at k0 k0' hF
      rw [hfe] at k2 k2' HO1 HO2
    · simp only [Bool.false_eq_true, if_false] at hF
      rw [← hF] at CF
      have CF' : Op.stringOp .add (strOf lab) ⟨#[58, 32]⟩ = pure (.string (strOf F)) := CF
      have HO := Lib.hid (HO2.out rfl)
      clear hfr hn3 CF hlab hfe hF HO1 HO2
      go_enter Tryd.func26, Tryd.ntmps26
      go_wp2_with (first
        | (go_at_call 38; refine (CV.out _ (bal (b0 w) _)).mono ?_; rintro e w1 ⟨rfl, b1⟩; have B1 := Lib.hid (blw (bal (b0 w) _) b1); obtain ⟨⟨x0, x1, x2, x3, x4⟩, x5⟩ := box5l b1; have BX := Lib.hid b1; clear b1)
        | (go_at_call 32; refine (CI.out _).mono ?_; rintro e w2 ⟨rfl, b2⟩; have B2 := Lib.hid (blw B1.out b2); have B2X := Lib.hid (blw BX.out b2); clear b2)
        | (go_at_call 40; refine (CN.out _ B2.out).mono ?_; rintro e w3 ⟨rfl, b3⟩; have B3 := Lib.hid (blw B2.out b3); obtain ⟨⟨y0, y1, y2, y3, y4⟩, y5⟩ := box5l (blw B2X.out b3); clear b3))
      go_ret2
      exact ⟨ret_sb (by rw [HO.out]), B3.out⟩
    · simp only [Bool.false_eq_true, if_false] at hF
      rw [← hF] at CF
      have CF' : Op.stringOp .add (strOf lab) ⟨#[58, 32]⟩ = pure (.string (strOf F)) := CF
      have HO := Lib.hid (HO1.out rfl)
      clear hfr hn3 CF hlab hfe hF HO1 HO2
      go_enter Tryd.func26, Tryd.ntmps26
      go_wp2_with (first
        | (go_at_call 38; refine (CV.out _ (bal (b0 w) _)).mono ?_; rintro e w1 ⟨rfl, b1⟩; have B1 := Lib.hid (blw (bal (b0 w) _) b1); obtain ⟨⟨x0, x1, x2, x3, x4⟩, x5⟩ := box5l b1; have BX := Lib.hid b1; clear b1)
        | (go_at_call 32; refine (CI.out _).mono ?_; rintro e w2 ⟨rfl, b2⟩; have B2 := Lib.hid (blw B1.out b2); have B2X := Lib.hid (blw BX.out b2); clear b2)
        | (go_at_call 40; refine (CN.out _ B2.out).mono ?_; rintro e w3 ⟨rfl, b3⟩; have B3 := Lib.hid (blw B2.out b3); obtain ⟨⟨y0, y1, y2, y3, y4⟩, y5⟩ := box5l (blw B2X.out b3); clear b3))
      go_ret2
      exact ⟨ret_sb (by rw [HO.out]), B3.out⟩
    · simp only [if_true] at hF
      subst hF
      have c3' : Op.stringOp .add ⟨#[]⟩ (strOf N2) = pure (.string (strOf N3)) := c3
      have HO := Lib.hid (HO2.out rfl)
      clear hfr hn3 CF hlab hfe HO1 HO2 c3
      go_enter Tryd.func26, Tryd.ntmps26
      go_wp2_with (first
        | (go_at_call 38; refine (CV.out _ (bal (b0 w) _)).mono ?_; rintro e w1 ⟨rfl, b1⟩; have B1 := Lib.hid (blw (bal (b0 w) _) b1); obtain ⟨⟨x0, x1, x2, x3, x4⟩, x5⟩ := box5l b1; have BX := Lib.hid b1; clear b1)
        | (go_at_call 32; refine (CI.out _).mono ?_; rintro e w2 ⟨rfl, b2⟩; have B2 := Lib.hid (blw B1.out b2); have B2X := Lib.hid (blw BX.out b2); clear b2)
        | (go_at_call 40; refine (CN.out _ B2.out).mono ?_; rintro e w3 ⟨rfl, b3⟩; have B3 := Lib.hid (blw B2.out b3); obtain ⟨⟨y0, y1, y2, y3, y4⟩, y5⟩ := box5l (blw B2X.out b3); clear b3))
      go_ret2
      exact ⟨ret_sb (by rw [HO.out]), B3.out⟩
    · simp only [if_true] at hF
      subst hF
      have c3' : Op.stringOp .add ⟨#[]⟩ (strOf N2) = pure (.string (strOf N3)) := c3
      have HO := Lib.hid (HO1.out rfl)
      clear hfr hn3 CF hlab hfe HO1 HO2 c3
      go_enter Tryd.func26, Tryd.ntmps26
      go_wp2_with (first
        | (go_at_call 38; refine (CV.out _ (bal (b0 w) _)).mono ?_; rintro e w1 ⟨rfl, b1⟩; have B1 := Lib.hid (blw (bal (b0 w) _) b1); obtain ⟨⟨x0, x1, x2, x3, x4⟩, x5⟩ := box5l b1; have BX := Lib.hid b1; clear b1)
        | (go_at_call 32; refine (CI.out _).mono ?_; rintro e w2 ⟨rfl, b2⟩; have B2 := Lib.hid (blw B1.out b2); have B2X := Lib.hid (blw BX.out b2); clear b2)
        | (go_at_call 40; refine (CN.out _ B2.out).mono ?_; rintro e w3 ⟨rfl, b3⟩; have B3 := Lib.hid (blw B2.out b3); obtain ⟨⟨y0, y1, y2, y3, y4⟩, y5⟩ := box5l (blw B2X.out b3); clear b3))
      go_ret2
      exact ⟨ret_sb (by rw [HO.out]), B3.out⟩
theorem textOf_any (x : Ln) (hx : OKx x) (w : World) (hg : Good w) : Calls Tryd.prog 26 #[lnV x] w fun e w' => e = .returned (.tuple #[.string (strOf (oneT x)), .bool (vld x)]) ∧ Below w.heap.size w w' := by
  cases hv : vld x with
  | true =>
    rw [show oneT x = one x from if_pos hv]
    exact textOf_yes x hx hv w hg
  | false =>
    rw [show oneT x = [] from if_neg (by rw [hv]; decide)]
    have CV := Lib.hid (fun (W : World) (b : Below w.heap.size w W) => isValid_any x hx W (hg.1.below b))
    rw [hv] at CV
    clear hv hx hg
    obtain ⟨lab, fn, arg, tgt, fr⟩ := x
    go_enter Tryd.func26, Tryd.ntmps26
    go_wp2_with (go_at_call 38; refine (CV.out _ (bal (b0 w) _)).mono ?_; rintro e w1 ⟨rfl, b1⟩; have B1 := Lib.hid (blw (bal (b0 w) _) b1); clear b1)
    go_ret2
    exact ⟨rfl, B1.out⟩
end Go.Proofs.YtjdjkdgdbdenpaaDoor
