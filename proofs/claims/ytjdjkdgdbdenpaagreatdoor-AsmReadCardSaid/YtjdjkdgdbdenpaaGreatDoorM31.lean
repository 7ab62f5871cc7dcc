/- The reference's text of lines. -/
import Derived.Test.YtjdjkdgdbdenpaaGreatDoorM30
import Derived.Test.YtjdjkdgdbdenpaaGreatDoorM19
set_option linter.unusedVariables false
set_option linter.unusedSimpArgs false
namespace Go.Proofs.YtjdjkdgdbdenpaaGreatDoor
open Go Go.RowKit

set_option maxRecDepth 100000 in
set_option maxHeartbeats 8000000 in
theorem ROne_any (x : Ln) (hx : OKx x) (hv : vld x = true) (w : World) : Calls Tryz.prog 35 #[lnV x] w fun e w' => e = .returned (.string (strOf (one x))) ∧ Below w.heap.size w w' := by
  have CN := Lib.hid (fun (W : World) => RName_any x.fn x.arg (by omega) W)
  have CM := Lib.hid (fun (W : World) => Number_any x.arg hx.arg W)
  obtain ⟨hl, he, ht⟩ := vld_parts hv
  have l1 := orNone_len hl
  have l2 := nm_le he
  have l4 : (Lib.itoa x.arg).length ≤ 11 := by
    have := (text_len x.arg false hx.arg.1 hx.arg.2).2
    unfold textL at this
    simpa using this
  rw [he] at CN
  have k0 := strOf_empty x.lab
  have k1 := strOf_empty x.tgt
  have k2 := strOf_empty x.fr
  have k0' : (!(strOf x.lab).toList.isEmpty) = !x.lab.isEmpty := by rw [k0]
  have CF := cat_str x.lab [58, 32] (by simp; omega)
  have hF : front x = if x.lab.isEmpty then [] else x.lab ++ [58, 32] := rfl
  have lF : (front x).length ≤ 34 := by rw [hF]; split <;> simp; omega
  have hone : one x = front x ++ (body x ++ [10]) := rfl
  have hlt : x.tgt.length ≤ 32 ∧ x.fr.length ≤ 32 := by
    rcases ht with ⟨t1, t2⟩ | ⟨t1, t2, t3, t4⟩
    · rw [t1, t2]; simp
    · exact ⟨(isLab_len t1).2, orNone_len t2⟩
  obtain ⟨m1, m2⟩ := hlt
  have c1 := cat_str (front x) (nm x.fn x.arg) (by omega)
  by_cases h15 : x.fn = 15
  · clear CM
    have hq : ((x.fn : Int) != 15) = false := by rw [h15]; rfl
    have c6 := cat_str (front x ++ nm x.fn x.arg) [10] (by simp; omega)
    have HO := Lib.hid (show front x ++ nm x.fn x.arg ++ [10] = one x by rw [hone]; unfold body; rw [if_pos h15]; simp)
    clear h15 ht
    clear hone hv he hl hx l1 l2 l4 lF m1 m2
    generalize one x = res at *
    generalize hfr : front x = F at *
    obtain ⟨lab, fn, arg, tgt, fr⟩ := x
    dsimp only at *
    generalize nm fn arg = N at *
    generalize hg1 : F ++ N = F1 at *
    generalize hg2 : F1 ++ [10] = F2 at *
    have c6' : Op.stringOp .add (strOf F1) ⟨#[10]⟩ = pure (.string (strOf F2)) := c6
    clear c6
    cases hlab : lab.isEmpty with
    | true =>
      rw [hlab] at k0 k0' hF
      simp only [if_true] at hF
      subst hF
      have c1' : Op.stringOp .add ⟨#[]⟩ (strOf N) = pure (.string (strOf F1)) := c1
      clear c1 hfr hg1 hg2  CF hlab
      go_enter Tryz.func35, Tryz.ntmps35
      go_wp2_with (first
        | (go_at_call 56; refine (CN.out _).mono ?_; rintro e w1 ⟨rfl, b1⟩; have B1 := Lib.hid (blw (bal (b0 w) _) b1); obtain ⟨⟨x0, x1, x2, x3, x4⟩, x5⟩ := box5l b1; clear b1)
        | (go_at_call 57; refine (CM.out _).mono ?_; rintro e w2 ⟨rfl, b2⟩; have B2 := Lib.hid (blw B1.out b2); clear b2))
      go_ret
      rw [HO.out]
      exact ⟨rfl, B1.out⟩
    | false =>
      rw [hlab] at k0 k0' hF
      simp only [Bool.false_eq_true, if_false] at hF
      rw [← hF] at CF
      have CF' : Op.stringOp .add (strOf lab) ⟨#[58, 32]⟩ = pure (.string (strOf F)) := CF
      clear hfr hg1 hg2  CF hlab hF
      go_enter Tryz.func35, Tryz.ntmps35
      go_wp2_with (first
        | (go_at_call 56; refine (CN.out _).mono ?_; rintro e w1 ⟨rfl, b1⟩; have B1 := Lib.hid (blw (bal (b0 w) _) b1); obtain ⟨⟨x0, x1, x2, x3, x4⟩, x5⟩ := box5l b1; clear b1)
        | (go_at_call 57; refine (CM.out _).mono ?_; rintro e w2 ⟨rfl, b2⟩; have B2 := Lib.hid (blw B1.out b2); clear b2))
      go_ret
      rw [HO.out]
      exact ⟨rfl, B1.out⟩
  · cases htg : x.tgt.isEmpty with
    | true =>
      have hq : ((x.fn : Int) != 15) = true := by simp; omega
      have c2 := cat_str (front x ++ nm x.fn x.arg) [32] (by simp; omega)
      have c3 := cat_str (front x ++ nm x.fn x.arg ++ [32]) (Lib.itoa x.arg) (by simp; omega)
      have c6 := cat_str (front x ++ nm x.fn x.arg ++ [32] ++ Lib.itoa x.arg) [10] (by simp; omega)
      have HO := Lib.hid (show front x ++ nm x.fn x.arg ++ [32] ++ Lib.itoa x.arg ++ [10] = one x by rw [hone]; unfold body; rw [if_neg h15, if_pos htg]; simp)
      rw [htg] at k1
      clear h15 ht htg
      clear hone hv he hl hx l1 l2 l4 lF m1 m2
      generalize one x = res at *
      generalize hfr : front x = F at *
      obtain ⟨lab, fn, arg, tgt, fr⟩ := x
      dsimp only at *
      generalize nm fn arg = N at *
      generalize Lib.itoa arg = M at *
      generalize hg1 : F ++ N = F1 at *
      generalize hg2 : F1 ++ [32] = F2 at *
      generalize hg3 : F2 ++ M = F3 at *
      generalize hg4 : F3 ++ [10] = F4 at *
      have c2' : Op.stringOp .add (strOf F1) ⟨#[32]⟩ = pure (.string (strOf F2)) := c2
      have c6' : Op.stringOp .add (strOf F3) ⟨#[10]⟩ = pure (.string (strOf F4)) := c6
      clear c2 c6
      cases hlab : lab.isEmpty with
      | true =>
        rw [hlab] at k0 k0' hF
        simp only [if_true] at hF
        subst hF
        have c1' : Op.stringOp .add ⟨#[]⟩ (strOf N) = pure (.string (strOf F1)) := c1
        clear c1 hfr hg1 hg2 hg3 hg4 CF hlab
        go_enter Tryz.func35, Tryz.ntmps35
        go_wp2_with (first
          | (go_at_call 56; refine (CN.out _).mono ?_; rintro e w1 ⟨rfl, b1⟩; have B1 := Lib.hid (blw (bal (b0 w) _) b1); obtain ⟨⟨x0, x1, x2, x3, x4⟩, x5⟩ := box5l b1; clear b1)
          | (go_at_call 57; refine (CM.out _).mono ?_; rintro e w2 ⟨rfl, b2⟩; have B2 := Lib.hid (blw B1.out b2); clear b2))
        go_ret
        rw [HO.out]
        exact ⟨rfl, B2.out⟩
      | false =>
        rw [hlab] at k0 k0' hF
        simp only [Bool.false_eq_true, if_false] at hF
        rw [← hF] at CF
        have CF' : Op.stringOp .add (strOf lab) ⟨#[58, 32]⟩ = pure (.string (strOf F)) := CF
        clear hfr hg1 hg2 hg3 hg4 CF hlab hF
        go_enter Tryz.func35, Tryz.ntmps35
        go_wp2_with (first
          | (go_at_call 56; refine (CN.out _).mono ?_; rintro e w1 ⟨rfl, b1⟩; have B1 := Lib.hid (blw (bal (b0 w) _) b1); obtain ⟨⟨x0, x1, x2, x3, x4⟩, x5⟩ := box5l b1; clear b1)
          | (go_at_call 57; refine (CM.out _).mono ?_; rintro e w2 ⟨rfl, b2⟩; have B2 := Lib.hid (blw B1.out b2); clear b2))
        go_ret
        rw [HO.out]
        exact ⟨rfl, B2.out⟩
    | false =>
      clear CM
      cases hfr : x.fr.isEmpty with
      | true =>
        have hq : ((x.fn : Int) != 15) = true := by simp; omega
        have c2 := cat_str (front x ++ nm x.fn x.arg) [32] (by simp; omega)
        have c3 := cat_str (front x ++ nm x.fn x.arg ++ [32]) x.tgt (by simp; omega)
        have c6 := cat_str (front x ++ nm x.fn x.arg ++ [32] ++ x.tgt) [10] (by simp; omega)
        have HO := Lib.hid (show front x ++ nm x.fn x.arg ++ [32] ++ x.tgt ++ [10] = one x by rw [hone]; unfold body; rw [if_neg h15, if_neg (by rw [htg]; decide), if_pos hfr]; simp)
        rw [htg] at k1
        rw [hfr] at k2
        clear h15 ht htg hfr
        clear hone hv he hl hx l1 l2 l4 lF m1 m2
        generalize one x = res at *
        generalize hfr : front x = F at *
        obtain ⟨lab, fn, arg, tgt, fr⟩ := x
        dsimp only at *
        generalize nm fn arg = N at *
        generalize hg1 : F ++ N = F1 at *
        generalize hg2 : F1 ++ [32] = F2 at *
        generalize hg3 : F2 ++ tgt = F3 at *
        generalize hg4 : F3 ++ [10] = F4 at *
        have c2' : Op.stringOp .add (strOf F1) ⟨#[32]⟩ = pure (.string (strOf F2)) := c2
        have c6' : Op.stringOp .add (strOf F3) ⟨#[10]⟩ = pure (.string (strOf F4)) := c6
        clear c2 c6
        cases hlab : lab.isEmpty with
        | true =>
          rw [hlab] at k0 k0' hF
          simp only [if_true] at hF
          subst hF
          have c1' : Op.stringOp .add ⟨#[]⟩ (strOf N) = pure (.string (strOf F1)) := c1
          clear c1 hfr hg1 hg2 hg3 hg4 CF hlab
          go_enter Tryz.func35, Tryz.ntmps35
          go_wp2_with (first
            | (go_at_call 56; refine (CN.out _).mono ?_; rintro e w1 ⟨rfl, b1⟩; have B1 := Lib.hid (blw (bal (b0 w) _) b1); obtain ⟨⟨x0, x1, x2, x3, x4⟩, x5⟩ := box5l b1; clear b1)
            | (go_at_call 57; refine (CM.out _).mono ?_; rintro e w2 ⟨rfl, b2⟩; have B2 := Lib.hid (blw B1.out b2); clear b2))
          go_ret
          rw [HO.out]
          exact ⟨rfl, B1.out⟩
        | false =>
          rw [hlab] at k0 k0' hF
          simp only [Bool.false_eq_true, if_false] at hF
          rw [← hF] at CF
          have CF' : Op.stringOp .add (strOf lab) ⟨#[58, 32]⟩ = pure (.string (strOf F)) := CF
          clear hfr hg1 hg2 hg3 hg4 CF hlab hF
          go_enter Tryz.func35, Tryz.ntmps35
          go_wp2_with (first
            | (go_at_call 56; refine (CN.out _).mono ?_; rintro e w1 ⟨rfl, b1⟩; have B1 := Lib.hid (blw (bal (b0 w) _) b1); obtain ⟨⟨x0, x1, x2, x3, x4⟩, x5⟩ := box5l b1; clear b1)
            | (go_at_call 57; refine (CM.out _).mono ?_; rintro e w2 ⟨rfl, b2⟩; have B2 := Lib.hid (blw B1.out b2); clear b2))
          go_ret
          rw [HO.out]
          exact ⟨rfl, B1.out⟩
      | false =>
        have hq : ((x.fn : Int) != 15) = true := by simp; omega
        have c2 := cat_str (front x ++ nm x.fn x.arg) [32] (by simp; omega)
        have c3 := cat_str (front x ++ nm x.fn x.arg ++ [32]) x.tgt (by simp; omega)
        have c4 := cat_str (front x ++ nm x.fn x.arg ++ [32] ++ x.tgt) [45] (by simp; omega)
        have c5 := cat_str (front x ++ nm x.fn x.arg ++ [32] ++ x.tgt ++ [45]) x.fr (by simp; omega)
        have c6 := cat_str (front x ++ nm x.fn x.arg ++ [32] ++ x.tgt ++ [45] ++ x.fr) [10] (by simp; omega)
        have HO := Lib.hid (show front x ++ nm x.fn x.arg ++ [32] ++ x.tgt ++ [45] ++ x.fr ++ [10] = one x by rw [hone]; unfold body; rw [if_neg h15, if_neg (by rw [htg]; decide), if_neg (by rw [hfr]; decide)]; simp)
        rw [htg] at k1
        rw [hfr] at k2
        clear h15 ht htg hfr
        clear hone hv he hl hx l1 l2 l4 lF m1 m2
        generalize one x = res at *
        generalize hfr : front x = F at *
        obtain ⟨lab, fn, arg, tgt, fr⟩ := x
        dsimp only at *
        generalize nm fn arg = N at *
        generalize hg1 : F ++ N = F1 at *
        generalize hg2 : F1 ++ [32] = F2 at *
        generalize hg3 : F2 ++ tgt = F3 at *
        generalize hg4 : F3 ++ [45] = F4 at *
        generalize hg5 : F4 ++ fr = F5 at *
        generalize hg6 : F5 ++ [10] = F6 at *
        have c2' : Op.stringOp .add (strOf F1) ⟨#[32]⟩ = pure (.string (strOf F2)) := c2
        have c4' : Op.stringOp .add (strOf F3) ⟨#[45]⟩ = pure (.string (strOf F4)) := c4
        have c6' : Op.stringOp .add (strOf F5) ⟨#[10]⟩ = pure (.string (strOf F6)) := c6
        clear c2 c4 c6
        cases hlab : lab.isEmpty with
        | true =>
          rw [hlab] at k0 k0' hF
          simp only [if_true] at hF
          subst hF
          have c1' : Op.stringOp .add ⟨#[]⟩ (strOf N) = pure (.string (strOf F1)) := c1
          clear c1 hfr hg1 hg2 hg3 hg4 hg5 hg6 CF hlab
          go_enter Tryz.func35, Tryz.ntmps35
          go_wp2_with (first
            | (go_at_call 56; refine (CN.out _).mono ?_; rintro e w1 ⟨rfl, b1⟩; have B1 := Lib.hid (blw (bal (b0 w) _) b1); obtain ⟨⟨x0, x1, x2, x3, x4⟩, x5⟩ := box5l b1; clear b1)
            | (go_at_call 57; refine (CM.out _).mono ?_; rintro e w2 ⟨rfl, b2⟩; have B2 := Lib.hid (blw B1.out b2); clear b2))
          go_ret
          rw [HO.out]
          exact ⟨rfl, B1.out⟩
        | false =>
          rw [hlab] at k0 k0' hF
          simp only [Bool.false_eq_true, if_false] at hF
          rw [← hF] at CF
          have CF' : Op.stringOp .add (strOf lab) ⟨#[58, 32]⟩ = pure (.string (strOf F)) := CF
          clear hfr hg1 hg2 hg3 hg4 hg5 hg6 CF hlab hF
          go_enter Tryz.func35, Tryz.ntmps35
          go_wp2_with (first
            | (go_at_call 56; refine (CN.out _).mono ?_; rintro e w1 ⟨rfl, b1⟩; have B1 := Lib.hid (blw (bal (b0 w) _) b1); obtain ⟨⟨x0, x1, x2, x3, x4⟩, x5⟩ := box5l b1; clear b1)
            | (go_at_call 57; refine (CM.out _).mono ?_; rintro e w2 ⟨rfl, b2⟩; have B2 := Lib.hid (blw B1.out b2); clear b2))
          go_ret
          rw [HO.out]
          exact ⟨rfl, B1.out⟩
end Go.Proofs.YtjdjkdgdbdenpaaGreatDoor
