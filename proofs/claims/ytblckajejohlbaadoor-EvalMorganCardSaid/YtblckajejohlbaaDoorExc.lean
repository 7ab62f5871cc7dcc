/- A tree is read back from its tokens, whatever follows. Plain Lean. -/
import Derived.Test.YtblckajejohlbaaDoorExb
set_option linter.unusedVariables false
set_option linter.unusedSimpArgs false
set_option linter.unusedVariables false
set_option linter.unusedSimpArgs false
namespace Go.Proofs.YtblckajejohlbaaDoor.L10
open Go L8

theorem prim_iff (k : Nat) : prim k = true ↔ k = 1 ∨ k = 2 ∨ k = 3 := by unfold prim; simp
/-- The nine forms of a tree whose fields are right. -/
theorem own_ways {e : Ex} (h : ownE e = true) : (∃ n, e = .mk 1 0 0 n [] []) ∨ (∃ n, 0 ≤ n ∧ n ≤ 255 ∧ e = .mk 2 0 0 n [] []) ∨ (∃ n, (n = 0 ∨ n = 1) ∧ e = .mk 3 0 0 n [] []) ∨ (∃ s, isName s = true ∧ e = .mk 4 0 0 0 s [])
    ∨ (∃ s y, isName s = true ∧ e = .mk 5 0 0 0 s [y]) ∨ (∃ o y, 23 ≤ o ∧ o ≤ 26 ∧ e = .mk 6 o 0 0 [] [y]) ∨ (∃ o a b, 1 ≤ o ∧ o ≤ 22 ∧ e = .mk 7 o 0 0 [] [a, b]) ∨ (∃ t y, prim t = true ∧ e = .mk 8 0 t 0 [] [y]) ∨ (∃ s, isName s = true ∧ e = .mk 9 0 0 0 s []) := by
  have E := Ex.eta e
  unfold ownE at h
  rw [Bool.and_eq_true, Bool.and_eq_true, decide_eq_true_eq] at h
  obtain ⟨hf, hl, hz⟩ := h
  have hz2 : ((e.k = 6 ∨ e.k = 7) ∨ e.o = 0) ∧ (e.k = 8 ∨ e.t = 0) ∧ ((e.k = 1 ∨ e.k = 2 ∨ e.k = 3) ∨ e.n = 0) ∧ ((e.k = 4 ∨ e.k = 5 ∨ e.k = 9) ∨ e.s = []) := by
    unfold zeroE at hz
    simp only [Bool.and_eq_true, Bool.or_eq_true, decide_eq_true_eq] at hz
    obtain ⟨z1, z2, z3, z4⟩ := hz
    refine ⟨by omega, z2, by omega, ?_⟩
    rcases z4 with ((z | z) | z) | z
    · exact .inl (.inl z)
    · exact .inl (.inr (.inl z))
    · exact .inl (.inr (.inr z))
    · exact .inr z
  obtain ⟨zo, zt, zn, zs⟩ := hz2
  unfold fineE at hf
  have l1 : e.l.length = 1 → ∃ y, e.l = [y] := fun h => by
    match e.l, h with
    | [y], _ => exact ⟨y, rfl⟩
  have l2 : e.l.length = 2 → ∃ a b, e.l = [a, b] := fun h => by
    match e.l, h with
    | [a, b], _ => exact ⟨a, b, rfl⟩
  by_cases h1 : e.k = 1
  · have zo' : e.o = 0 := zo.resolve_left (by omega)
    have zt' : e.t = 0 := zt.resolve_left (by omega)
    have zs' : e.s = [] := zs.resolve_left (by omega)
    rw [h1] at hl
    have hl' := List.eq_nil_of_length_eq_zero (show e.l.length = 0 from hl)
    rw [h1, zo', zt', zs', hl'] at E
    rw [if_pos (by omega)] at hf
    exact .inl ⟨e.n, E⟩
  by_cases h2 : e.k = 2
  · have zo' : e.o = 0 := zo.resolve_left (by omega)
    have zt' : e.t = 0 := zt.resolve_left (by omega)
    have zs' : e.s = [] := zs.resolve_left (by omega)
    rw [h2] at hl
    have hl' := List.eq_nil_of_length_eq_zero (show e.l.length = 0 from hl)
    rw [h2, zo', zt', zs', hl'] at E
    rw [if_neg (by omega), if_pos (by omega)] at hf
    simp only [Bool.and_eq_true, decide_eq_true_eq] at hf
    exact .inr (.inl ⟨e.n, hf.1, hf.2, E⟩)
  by_cases h3 : e.k = 3
  · have zo' : e.o = 0 := zo.resolve_left (by omega)
    have zt' : e.t = 0 := zt.resolve_left (by omega)
    have zs' : e.s = [] := zs.resolve_left (by omega)
    rw [h3] at hl
    have hl' := List.eq_nil_of_length_eq_zero (show e.l.length = 0 from hl)
    rw [h3, zo', zt', zs', hl'] at E
    rw [if_neg (by omega), if_neg (by omega), if_pos (by omega)] at hf
    simp only [Bool.or_eq_true, decide_eq_true_eq] at hf
    exact .inr (.inr (.inl ⟨e.n, hf, E⟩))
  by_cases h4 : e.k = 4
  · have zo' : e.o = 0 := zo.resolve_left (by omega)
    have zt' : e.t = 0 := zt.resolve_left (by omega)
    have zn' : e.n = 0 := zn.resolve_left (by omega)
    rw [h4] at hl
    have hl' := List.eq_nil_of_length_eq_zero (show e.l.length = 0 from hl)
    rw [h4, zo', zt', zn', hl'] at E
    rw [if_neg (by omega), if_neg (by omega), if_neg (by omega), if_pos (by omega)] at hf
    exact .inr (.inr (.inr (.inl ⟨e.s, hf, E⟩)))
  by_cases h5 : e.k = 5
  · have zo' : e.o = 0 := zo.resolve_left (by omega)
    have zt' : e.t = 0 := zt.resolve_left (by omega)
    have zn' : e.n = 0 := zn.resolve_left (by omega)
    rw [h5] at hl
    obtain ⟨y, hl'⟩ := l1 (show e.l.length = 1 from hl)
    rw [h5, zo', zt', zn', hl'] at E
    rw [if_neg (by omega), if_neg (by omega), if_neg (by omega), if_pos (by omega)] at hf
    exact .inr (.inr (.inr (.inr (.inl ⟨e.s, y, hf, E⟩))))
  by_cases h6 : e.k = 6
  · have zt' : e.t = 0 := zt.resolve_left (by omega)
    have zn' : e.n = 0 := zn.resolve_left (by omega)
    have zs' : e.s = [] := zs.resolve_left (by omega)
    rw [h6] at hl
    obtain ⟨y, hl'⟩ := l1 (show e.l.length = 1 from hl)
    rw [h6, zt', zn', zs', hl'] at E
    rw [if_neg (by omega), if_neg (by omega), if_neg (by omega), if_neg (by omega), if_pos (by omega)] at hf
    simp only [Bool.and_eq_true, decide_eq_true_eq] at hf
    exact .inr (.inr (.inr (.inr (.inr (.inl ⟨e.o, y, hf.1, hf.2, E⟩)))))
  by_cases h7 : e.k = 7
  · have zt' : e.t = 0 := zt.resolve_left (by omega)
    have zn' : e.n = 0 := zn.resolve_left (by omega)
    have zs' : e.s = [] := zs.resolve_left (by omega)
    rw [h7] at hl
    obtain ⟨a, b, hl'⟩ := l2 (show e.l.length = 2 from hl)
    rw [h7, zt', zn', zs', hl'] at E
    rw [if_neg (by omega), if_neg (by omega), if_neg (by omega), if_neg (by omega), if_neg (by omega), if_pos (by omega)] at hf
    simp only [Bool.and_eq_true, decide_eq_true_eq] at hf
    exact .inr (.inr (.inr (.inr (.inr (.inr (.inl ⟨e.o, a, b, hf.1, hf.2, E⟩))))))
  by_cases h8 : e.k = 8
  · have zo' : e.o = 0 := zo.resolve_left (by omega)
    have zn' : e.n = 0 := zn.resolve_left (by omega)
    have zs' : e.s = [] := zs.resolve_left (by omega)
    rw [h8] at hl
    obtain ⟨y, hl'⟩ := l1 (show e.l.length = 1 from hl)
    rw [h8, zo', zn', zs', hl'] at E
    rw [if_neg (by omega), if_neg (by omega), if_neg (by omega), if_neg (by omega), if_neg (by omega), if_neg (by omega), if_pos (by omega)] at hf
    exact .inr (.inr (.inr (.inr (.inr (.inr (.inr (.inl ⟨e.t, y, hf, E⟩)))))))
  by_cases h9 : e.k = 9
  · have zo' : e.o = 0 := zo.resolve_left (by omega)
    have zt' : e.t = 0 := zt.resolve_left (by omega)
    have zn' : e.n = 0 := zn.resolve_left (by omega)
    rw [h9] at hl
    have hl' := List.eq_nil_of_length_eq_zero (show e.l.length = 0 from hl)
    rw [h9, zo', zt', zn', hl'] at E
    rw [if_neg (by omega), if_neg (by omega), if_neg (by omega), if_pos (by omega)] at hf
    exact .inr (.inr (.inr (.inr (.inr (.inr (.inr (.inr ⟨e.s, hf, E⟩)))))))
  · rw [if_neg h1, if_neg h2, if_neg h3, if_neg (by omega), if_neg h6, if_neg h7, if_neg h8] at hf
    cases hf
/-! ### One step of the reader -/
theorem take_nb {R : Nat → Res} {b : Bool} {l : List Tk} {i : Nat} {n : Int} (h : atB l i = nb n) : takesF R b l i = .ok (.mk 1 0 0 n [] [], i + 1) := by
  unfold takesF; rw [h, if_pos (show (nb n).k = 3 from rfl)]; rfl
theorem take_by {R : Nat → Res} {b : Bool} {l : List Tk} {i : Nat} {n : Int} (h : atB l i = by_ n) : takesF R b l i = .ok (.mk 2 0 0 n [] [], i + 1) := by
  unfold takesF; rw [h, if_neg (show ¬ (by_ n).k = 3 by show ¬ (4 : Nat) = 3; decide), if_pos (show (by_ n).k = 4 from rfl)]; rfl
theorem take_bool {R : Nat → Res} {b : Bool} {l : List Tk} {i : Nat} {n : Int} (hn : n = 0 ∨ n = 1) (h : atB l i = kw (if n = 1 then wTrue else wFalse)) : takesF R b l i = .ok (.mk 3 0 0 n [] [], i + 1) := by
  rcases hn with rfl | rfl
  · have h : atB l i = kw wFalse := h
    unfold takesF; rw [h, if_neg (by decide), if_neg (by decide), if_pos rfl]
  · have h : atB l i = kw wTrue := h
    unfold takesF; rw [h, if_neg (by decide), if_neg (by decide), if_neg (by decide), if_pos rfl]
theorem nm_kw (s u : Bs) : nm s ≠ kw u := fun e => by cases congrArg Tk.k e
theorem nm_sy (s u : Bs) : nm s ≠ sy u := fun e => by cases congrArg Tk.k e
theorem take_named {R : Nat → Res} {b : Bool} {l : List Tk} {i : Nat} {s : Bs} (h : atB l i = nm s) : takesF R b l i = namedF R b l i := by
  unfold takesF
  rw [h, if_neg (show ¬ (nm s).k = 3 by show ¬ (1 : Nat) = 3; decide), if_neg (show ¬ (nm s).k = 4 by show ¬ (1 : Nat) = 4; decide), if_neg (nm_kw _ _), if_neg (nm_kw _ _), if_pos (show (nm s).k = 1 from rfl)]
theorem take_nm {R : Nat → Res} {b : Bool} {l : List Tk} {i : Nat} {s : Bs} (h : atB l i = nm s) (h2 : atB l (i + 1) ≠ lb) : takesF R b l i = .ok (.mk 4 0 0 0 s [], i + 1) := by
  rw [take_named h]
  unfold namedF
  rw [if_neg h2, h]
  rfl
theorem take_ix {R : Nat → Res} {l : List Tk} {i to : Nat} {s : Bs} {y : Ex} (h : atB l i = nm s) (h2 : atB l (i + 1) = lb) (hR : R (i + 2) = .ok (y, to)) (h3 : atB l to = rb) : takesF R false l i = .ok (.mk 5 0 0 0 s [y], to + 1) := by
  rw [take_named h]
  unfold namedF
  rw [if_pos h2, if_neg (by decide), hR]
  dsimp only
  rw [if_pos h3, h]
  rfl
theorem take_par {R : Nat → Res} {l : List Tk} {i to : Nat} {x : Ex} (h : atB l i = lp) (hR : R (i + 1) = .ok (x, to)) (h3 : atB l to = rp) : takesF R false l i = .ok (x, to + 1) := by
  unfold takesF
  rw [h, if_neg (by decide), if_neg (by decide), if_neg (by decide), if_neg (by decide), if_neg (by decide), if_pos rfl, if_neg (by decide), hR]
  dsimp only
  rw [if_pos h3]
theorem rd_size {T : Nat → Res} {l : List Tk} {i : Nat} {s : Bs} (h : atB l i = kw wSize) (h2 : atB l (i + 1) = nm s) : readsF T l i = .ok (.mk 9 0 0 0 s [], i + 2) := by
  unfold readsF
  rw [if_pos h, h2, if_pos (show (nm s).k = 1 from rfl)]
  rfl
theorem type_wd {t : Nat} (h : prim t = true) : typeOf (kw (wd t)) = t ∧ kw (wd t) ≠ kw wSize ∧ may (kw (wd t)) = true ∧ t ≠ 0 := by
  rcases (prim_iff t).1 h with rfl | rfl | rfl <;> decide
theorem rd_conv {T : Nat → Res} {l : List Tk} {i to t : Nat} {y : Ex} (hp : prim t = true) (h : atB l i = kw (wd t)) (hT : T (i + 1) = .ok (y, to)) : readsF T l i = .ok (.mk 8 0 t 0 [] [y], to) := by
  obtain ⟨h1, h2, _, h4⟩ := type_wd hp
  unfold readsF
  rw [h, if_neg h2, h1, if_pos h4, hT]
  rfl
theorem rd_mon {T : Nat → Res} {l : List Tk} {i to o : Nat} {y : Ex} (h1 : 23 ≤ o) (h2 : o ≤ 26) (h : atB l i = mk o) (hT : T (i + 1) = .ok (y, to)) : readsF T l i = .ok (.mk 6 o 0 0 [] [y], to) := by
  obtain ⟨_, _, _, _, g5, g6, _⟩ := mk_all (o := o) (by omega) h2
  unfold readsF
  rw [h, if_neg g5, g6, if_neg (by decide), mk_mon h1 h2, if_pos (by omega), hT]
  rfl
/-- Tokens with which an operand begins. -/
def hdOk (x : Tk) : Prop := may x = true ∧ x.a = 0 ∧ x ≠ kw wSize ∧ typeOf x = 0 ∧ findO x 23 4 = 0
theorem rd_op {T : Nat → Res} {l : List Tk} {i to : Nat} {a : Ex} {x : Tk} (hx : hdOk x) (h : atB l i = x) (hT : T i = .ok (a, to)) : readsF T l i = pairF T l a to := by
  obtain ⟨_, _, h3, h4, h5⟩ := hx
  unfold readsF
  rw [h, if_neg h3, h4, if_neg (by decide), h5, if_neg (by decide), hT]
theorem typeOf_k {x : Tk} (h : x.k ≠ 2) : typeOf x = 0 := by
  unfold typeOf
  rw [if_neg (fun e => h (by rw [e]; rfl)), if_neg (fun e => h (by rw [e]; rfl)), if_neg (fun e => h (by rw [e]; rfl))]
theorem hd_k {x : Tk} (hm : may x = true) (ha : x.a = 0) (h2 : x.k ≠ 2) (h5 : x.k ≠ 5) : hdOk x := by
  refine ⟨hm, ha, fun e => h2 (by rw [e]; rfl), typeOf_k h2, find_none fun o h1 h3 e => ?_⟩
  have := (mk_all (o := o) (by omega) (by omega)).2.2.1
  rw [← e] at this
  omega
theorem hd_true : hdOk (kw wTrue) ∧ hdOk (kw wFalse) ∧ hdOk lp := by
  unfold hdOk; decide
theorem may_nm {s : Bs} (h : isName s = true) : may (nm s) = true := by unfold may nm; simp [h]
theorem may_nb (n : Int) : may (nb n) = true := by unfold may nb; simp
theorem may_by {n : Int} (h0 : 0 ≤ n) (h1 : n ≤ 255) : may (by_ n) = true := by unfold may by_; simp [h0, h1]
/-! ### The tokens of each form -/
theorem tk_1 (n : Int) : tkE (.mk 1 0 0 n [] []) = [nb n] := by rw [tkE]; rfl
theorem tk_2 (n : Int) : tkE (.mk 2 0 0 n [] []) = [by_ n] := by rw [tkE]; rfl
theorem tk_3 (n : Int) : tkE (.mk 3 0 0 n [] []) = [kw (if n = 1 then wTrue else wFalse)] := by rw [tkE]; rfl
theorem tk_4 (s : Bs) : tkE (.mk 4 0 0 0 s []) = [nm s] := by rw [tkE]; rfl
theorem tk_9 (s : Bs) : tkE (.mk 9 0 0 0 s []) = [kw wSize, nm s] := by rw [tkE]; rfl
theorem tk_5 (s : Bs) (y : Ex) : tkE (.mk 5 0 0 0 s [y]) = nm s :: lb :: (tkE y ++ [rb]) := by
  rw [tkE]
  have := tkL_at [y] 0 (by simp)
  unfold tkOf
  simp only [show ¬ (5 : Nat) = 1 by decide, show ¬ (5 : Nat) = 2 by decide, show ¬ (5 : Nat) = 3 by decide, show ¬ (5 : Nat) = 4 by decide, show ¬ (5 : Nat) = 9 by decide, if_false, if_true, this]
  rfl
theorem tk_6 (o : Nat) (y : Ex) : tkE (.mk 6 o 0 0 [] [y]) = mk o :: opT y := by
  rw [tkE]
  have := opL_at [y] 0 (by simp)
  unfold tkOf
  simp only [show ¬ (6 : Nat) = 1 by decide, show ¬ (6 : Nat) = 2 by decide, show ¬ (6 : Nat) = 3 by decide, show ¬ (6 : Nat) = 4 by decide, show ¬ (6 : Nat) = 9 by decide, show ¬ (6 : Nat) = 5 by decide, if_false, if_true, this]
  rfl
theorem tk_8 (t : Nat) (y : Ex) : tkE (.mk 8 0 t 0 [] [y]) = kw (wd t) :: opT y := by
  rw [tkE]
  have := opL_at [y] 0 (by simp)
  unfold tkOf
  simp only [show ¬ (8 : Nat) = 1 by decide, show ¬ (8 : Nat) = 2 by decide, show ¬ (8 : Nat) = 3 by decide, show ¬ (8 : Nat) = 4 by decide, show ¬ (8 : Nat) = 9 by decide, show ¬ (8 : Nat) = 5 by decide, show ¬ (8 : Nat) = 6 by decide, if_false, if_true, this]
  rfl
theorem tk_7 (o : Nat) (a b : Ex) : tkE (.mk 7 o 0 0 [] [a, b]) = opT a ++ mk o :: opT b := by
  rw [tkE]
  have h0 := opL_at [a, b] 0 (by simp)
  have h1 := opL_at [a, b] 1 (by simp)
  unfold tkOf
  simp only [show ¬ (7 : Nat) = 1 by decide, show ¬ (7 : Nat) = 2 by decide, show ¬ (7 : Nat) = 3 by decide, show ¬ (7 : Nat) = 4 by decide, show ¬ (7 : Nat) = 9 by decide, show ¬ (7 : Nat) = 5 by decide, show ¬ (7 : Nat) = 6 by decide, show ¬ (7 : Nat) = 8 by decide, if_false, h0, h1]
  rfl
theorem op_small {e : Ex} (h : big e.k = false) : opT e = tkE e := by unfold opT par; rw [h]; rfl
theorem op_big {e : Ex} (h : big e.k = true) : opT e = lp :: (tkE e ++ [rp]) := by unfold opT par; rw [if_pos h]
theorem dp_1 (k o t : Nat) (n : Int) (s : Bs) (y : Ex) : dpE (.mk k o t n s [y]) = 1 + dpE y := by rw [dpE, dpL, dpL]; omega
theorem dp_2 (k o t : Nat) (n : Int) (s : Bs) (a b : Ex) : dpE (.mk k o t n s [a, b]) = 1 + max (dpE a) (dpE b) := by rw [dpE, dpL, dpL, dpL]; omega
theorem dp_pos (e : Ex) : 1 ≤ dpE e := by rw [dpE_eq]; omega
theorem all_1 {k o t : Nat} {n : Int} {s : Bs} {y : Ex} (h : allE (.mk k o t n s [y]) = true) : allE y = true := by
  rw [allE, Bool.and_eq_true, allL, allL, Bool.and_true] at h; exact h.2
theorem all_2 {k o t : Nat} {n : Int} {s : Bs} {a b : Ex} (h : allE (.mk k o t n s [a, b]) = true) : allE a = true ∧ allE b = true := by
  rw [allE, Bool.and_eq_true, allL, allL, allL, Bool.and_true, Bool.and_eq_true] at h; exact h.2
theorem all_own {e : Ex} (h : allE e = true) : ownE e = true := by rw [allE_eq, Bool.and_eq_true] at h; exact h.1
/-- The first token of an operand. -/
theorem op_head {e : Ex} (h : allE e = true) : ∃ x r, opT e = x :: r ∧ hdOk x := by
  cases hb : big e.k with
  | true => exact ⟨lp, _, op_big hb, hd_true.2.2⟩
  | false =>
    rw [op_small hb]
    rcases own_ways (all_own h) with ⟨n, rfl⟩ | ⟨n, h0, h1, rfl⟩ | ⟨n, hn, rfl⟩ | ⟨s, hs, rfl⟩ | ⟨s, y, hs, rfl⟩ | ⟨o, y, h1, h2, rfl⟩ | ⟨o, a, b, h1, h2, rfl⟩ | ⟨t, y, ht, rfl⟩ | ⟨s, hs, rfl⟩
    · exact ⟨nb n, _, tk_1 n, hd_k (may_nb n) rfl (by show ¬ (3 : Nat) = 2; decide) (by show ¬ (3 : Nat) = 5; decide)⟩
    · exact ⟨by_ n, _, tk_2 n, hd_k (may_by h0 h1) rfl (by show ¬ (4 : Nat) = 2; decide) (by show ¬ (4 : Nat) = 5; decide)⟩
    · rcases hn with rfl | rfl
      · exact ⟨kw wFalse, _, tk_3 0, hd_true.2.1⟩
      · exact ⟨kw wTrue, _, tk_3 1, hd_true.1⟩
    · exact ⟨nm s, _, tk_4 s, hd_k (may_nm hs) rfl (by show ¬ (1 : Nat) = 2; decide) (by show ¬ (1 : Nat) = 5; decide)⟩
    · exact ⟨nm s, _, tk_5 s y, hd_k (may_nm hs) rfl (by show ¬ (1 : Nat) = 2; decide) (by show ¬ (1 : Nat) = 5; decide)⟩
    · cases hb
    · cases hb
    · cases hb
    · cases hb
theorem tkN_any (l : List Tk) (d : Nat) : ∃ R b, tkN l d = takesF R b l := by cases d with
  | zero => exact ⟨_, _, rfl⟩
  | succ d => exact ⟨_, _, rfl⟩
/-- What may not follow a name. -/
def nob (r : List Tk) : Prop := atB r 0 ≠ lb
def noc (r : List Tk) : Prop := atB r 0 ≠ lb ∧ findO (atB r 0) 1 22 = 0
theorem at_next (p r : List Tk) (n : Nat) (h : p.length = n) : atB (p ++ r) n = atB r 0 := by
  have := at_skip p r 0
  rw [← h]
  simpa using this
theorem at_cons (p r : List Tk) (x : Tk) (n : Nat) (h : p.length = n) (hm : may x = true) (ha : x.a = 0) : atB (p ++ x :: r) n = x := by
  subst h; exact at_app p r x hm ha
theorem nob_cons {x : Tk} {r : List Tk} (hm : may x = true) (ha : x.a = 0) (hx : x ≠ lb) : nob (x :: r) := by
  unfold nob
  have := at_app [] r x hm ha
  rw [show atB (x :: r) 0 = x from this]
  exact hx
theorem noc_cons {x : Tk} {r : List Tk} (hm : may x = true) (ha : x.a = 0) (hx : x ≠ lb) (hf : findO x 1 22 = 0) : noc (x :: r) := by
  unfold noc
  have := at_app [] r x hm ha
  rw [show atB (x :: r) 0 = x from this]
  exact ⟨hx, hf⟩
/-- The two sides of the induction. -/
def RdB (e : Ex) : Prop := ∀ d, dpE e ≤ d + 1 → ∀ p r : List Tk, noc r → rdN (p ++ (tkE e ++ r)) d p.length = .ok (e, p.length + (tkE e).length)
def TkB (e : Ex) : Prop := ∀ d, dpE e ≤ d + 1 → (big e.k = true → dpE e ≤ d) → ∀ p r : List Tk, nob r → tkN (p ++ (opT e ++ r)) d p.length = .ok (e, p.length + (opT e).length)
/-- An operand in parentheses, of what is read inside. -/
theorem tk_of_rd {e : Ex} (hb : big e.k = true) (h : RdB e) : TkB e := by
  intro d hd hd2 p r hr
  obtain ⟨d, rfl⟩ : ∃ q, d = q + 1 := ⟨d - 1, by have := hd2 hb; have := dp_pos e; omega⟩
  have hin := h d (hd2 hb) (p ++ [lp]) ([rp] ++ r) (noc_cons (by decide) rfl (by decide) (by decide))
  rw [op_big hb]
  have e1 : p ++ (lp :: (tkE e ++ [rp]) ++ r) = (p ++ [lp]) ++ (tkE e ++ ([rp] ++ r)) := by simp
  rw [e1]
  show takesF (rdN ((p ++ [lp]) ++ (tkE e ++ ([rp] ++ r))) d) false ((p ++ [lp]) ++ (tkE e ++ ([rp] ++ r))) p.length = _
  rw [show (p ++ [lp]).length = p.length + 1 by simp] at hin
  rw [take_par (to := p.length + 1 + (tkE e).length) ?_ hin ?_]
  · congr 2
    simp
    omega
  · rw [List.append_assoc]
    exact at_cons p _ lp _ rfl (by decide) rfl
  · have := at_cons (p ++ [lp] ++ tkE e) r rp (p.length + 1 + (tkE e).length) (by simp; omega) (by decide) rfl
    simpa using this
/-- An operand alone, read as an expression. -/
theorem rd_of_tk {e : Ex} (ha : allE e = true) (hb : big e.k = false) (h : TkB e) : RdB e := by
  intro d hd p r hr
  have ht := h d hd (fun g => by rw [hb] at g; cases g) p r hr.1
  obtain ⟨x, q, hx, hk⟩ := op_head ha
  rw [op_small hb] at ht hx
  have h0 : atB (p ++ (tkE e ++ r)) p.length = x := by rw [hx]; exact at_app p _ x hk.1 hk.2.1
  unfold rdN
  rw [rd_op hk h0 ht]
  unfold pairF
  have hn : atB (p ++ (tkE e ++ r)) (p.length + (tkE e).length) = atB r 0 := by
    have := at_next (p ++ tkE e) r (p.length + (tkE e).length) (by simp)
    rwa [List.append_assoc] at this
  rw [hn, if_pos hr.2]
theorem back : ∀ e : Ex, allE e = true → RdB e ∧ TkB e := by
  refine Ex.ind fun e ih ha => ?_
  rcases own_ways (all_own ha) with ⟨n, rfl⟩ | ⟨n, h0, h1, rfl⟩ | ⟨n, hn, rfl⟩ | ⟨s, hs, rfl⟩ | ⟨s, y, hs, rfl⟩ | ⟨o, y, h1, h2, rfl⟩ | ⟨o, a, b, h1, h2, rfl⟩ | ⟨t, y, ht, rfl⟩ | ⟨s, hs, rfl⟩
  · have T : TkB (.mk 1 0 0 n [] []) := by
      intro d _ _ p r hr
      obtain ⟨R, b, hR⟩ := tkN_any (p ++ (opT (.mk 1 0 0 n [] []) ++ r)) d
      rw [hR, op_small rfl, tk_1]
      exact take_nb (at_app p _ _ (may_nb n) rfl)
    exact ⟨rd_of_tk ha rfl T, T⟩
  · have T : TkB (.mk 2 0 0 n [] []) := by
      intro d _ _ p r hr
      obtain ⟨R, b, hR⟩ := tkN_any (p ++ (opT (.mk 2 0 0 n [] []) ++ r)) d
      rw [hR, op_small rfl, tk_2]
      exact take_by (at_app p _ _ (may_by h0 h1) rfl)
    exact ⟨rd_of_tk ha rfl T, T⟩
  · have T : TkB (.mk 3 0 0 n [] []) := by
      intro d _ _ p r hr
      obtain ⟨R, b, hR⟩ := tkN_any (p ++ (opT (.mk 3 0 0 n [] []) ++ r)) d
      rw [hR, op_small rfl, tk_3]
      exact take_bool hn (at_app p _ _ (by rcases hn with rfl | rfl <;> decide) rfl)
    exact ⟨rd_of_tk ha rfl T, T⟩
  · have T : TkB (.mk 4 0 0 0 s []) := by
      intro d _ _ p r hr
      obtain ⟨R, b, hR⟩ := tkN_any (p ++ (opT (.mk 4 0 0 0 s []) ++ r)) d
      rw [hR, op_small rfl, tk_4]
      refine take_nm (at_app p _ _ (may_nm hs) rfl) ?_
      have := at_next (p ++ [nm s]) r (p.length + 1) (by simp)
      rw [List.append_assoc] at this
      rw [this]
      exact hr
    exact ⟨rd_of_tk ha rfl T, T⟩
  · have T : TkB (.mk 5 0 0 0 s [y]) := by
      intro d hd _ p r hr
      rw [dp_1] at hd
      obtain ⟨d, rfl⟩ : ∃ q, d = q + 1 := ⟨d - 1, by have := dp_pos y; omega⟩
      have hin := (ih y (by simp [Ex.l]) (all_1 ha)).1 d (by omega) (p ++ [nm s, lb]) ([rb] ++ r) (noc_cons (by decide) rfl (by decide) (by decide))
      rw [op_small rfl, tk_5]
      have e1 : p ++ (nm s :: lb :: (tkE y ++ [rb]) ++ r) = (p ++ [nm s, lb]) ++ (tkE y ++ ([rb] ++ r)) := by simp
      rw [e1]
      show takesF (rdN ((p ++ [nm s, lb]) ++ (tkE y ++ ([rb] ++ r))) d) false ((p ++ [nm s, lb]) ++ (tkE y ++ ([rb] ++ r))) p.length = _
      rw [show (p ++ [nm s, lb]).length = p.length + 2 by simp] at hin
      rw [take_ix (s := s) (to := p.length + 2 + (tkE y).length) ?_ ?_ hin ?_]
      · congr 2
        simp
        omega
      · rw [List.append_assoc]
        exact at_cons p _ (nm s) _ rfl (may_nm hs) rfl
      · have := at_cons (p ++ [nm s]) (tkE y ++ ([rb] ++ r)) lb (p.length + 1) (by simp) (by decide) rfl
        simpa using this
      · have := at_cons (p ++ [nm s, lb] ++ tkE y) r rb (p.length + 2 + (tkE y).length) (by simp; omega) (by decide) rfl
        simpa using this
    exact ⟨rd_of_tk ha rfl T, T⟩
  · have R : RdB (.mk 6 o 0 0 [] [y]) := by
      intro d hd p r hr
      rw [dp_1] at hd
      have hm := mk_all (o := o) (by omega) h2
      have hin := (ih y (by simp [Ex.l]) (all_1 ha)).2 d (by omega) (fun _ => by omega) (p ++ [mk o]) r hr.1
      rw [tk_6]
      have e1 : p ++ (mk o :: opT y ++ r) = (p ++ [mk o]) ++ (opT y ++ r) := by simp
      rw [e1]
      rw [show (p ++ [mk o]).length = p.length + 1 by simp] at hin
      unfold rdN
      rw [rd_mon h1 h2 ?_ hin]
      · congr 2
        simp
        omega
      · rw [List.append_assoc]
        exact at_cons p _ (mk o) _ rfl hm.1 hm.2.1
    exact ⟨R, tk_of_rd rfl R⟩
  · have R : RdB (.mk 7 o 0 0 [] [a, b]) := by
      intro d hd p r hr
      rw [dp_2] at hd
      have hm := mk_all (o := o) h1 (by omega)
      obtain ⟨aa, ab⟩ := all_2 ha
      have ha1 := (ih a (by simp [Ex.l]) aa).2 d (by omega) (fun _ => by omega) p (mk o :: opT b ++ r) (nob_cons hm.1 hm.2.1 hm.2.2.2.1)
      have hb1 := (ih b (by simp [Ex.l]) ab).2 d (by omega) (fun _ => by omega) (p ++ opT a ++ [mk o]) r hr.1
      obtain ⟨x, q, hx, hk⟩ := op_head aa
      rw [tk_7]
      have e1 : p ++ (opT a ++ mk o :: opT b ++ r) = p ++ (opT a ++ (mk o :: opT b ++ r)) := by simp
      have e2 : (p ++ opT a ++ [mk o]) ++ (opT b ++ r) = p ++ (opT a ++ (mk o :: opT b ++ r)) := by simp
      rw [e1]
      rw [e2, show (p ++ opT a ++ [mk o]).length = p.length + (opT a).length + 1 by simp; omega] at hb1
      have h0 : atB (p ++ (opT a ++ (mk o :: opT b ++ r))) p.length = x := by rw [hx]; exact at_app p _ x hk.1 hk.2.1
      have h3 : atB (p ++ (opT a ++ (mk o :: opT b ++ r))) (p.length + (opT a).length) = mk o := by
        have := at_cons (p ++ opT a) (opT b ++ r) (mk o) (p.length + (opT a).length) (by simp) hm.1 hm.2.1
        simpa using this
      unfold rdN
      rw [rd_op hk h0 ha1]
      unfold pairF
      rw [h3, mk_dya h1 h2, if_neg (by omega), hb1]
      show Except.ok _ = Except.ok _
      congr 2
      simp
      omega
    exact ⟨R, tk_of_rd rfl R⟩
  · have R : RdB (.mk 8 0 t 0 [] [y]) := by
      intro d hd p r hr
      rw [dp_1] at hd
      have hin := (ih y (by simp [Ex.l]) (all_1 ha)).2 d (by omega) (fun _ => by omega) (p ++ [kw (wd t)]) r hr.1
      rw [tk_8]
      have e1 : p ++ (kw (wd t) :: opT y ++ r) = (p ++ [kw (wd t)]) ++ (opT y ++ r) := by simp
      rw [e1]
      rw [show (p ++ [kw (wd t)]).length = p.length + 1 by simp] at hin
      unfold rdN
      rw [rd_conv ht ?_ hin]
      · congr 2
        simp
        omega
      · rw [List.append_assoc]
        exact at_cons p _ (kw (wd t)) _ rfl (type_wd ht).2.2.1 rfl
    exact ⟨R, tk_of_rd rfl R⟩
  · have R : RdB (.mk 9 0 0 0 s []) := by
      intro d _ p r hr
      rw [tk_9]
      unfold rdN
      rw [rd_size (s := s) ?_ ?_]
      · rfl
      · exact at_app p _ _ (by decide) rfl
      · have := at_cons (p ++ [kw wSize]) r (nm s) (p.length + 1) (by simp) (may_nm hs) rfl
        simpa using this
    exact ⟨R, tk_of_rd rfl R⟩
/-- The tokens of a valid tree, in parentheses or not, whatever follows. -/
theorem front_back {e : Ex} (h : mayE e = true) (r : List Tk) (hr : noc r) : frontX (tkE e ++ r) = (e, (tkE e).length, 0) ∧ frontX (lp :: (tkE e ++ [rp]) ++ r) = (e, (tkE e).length + 2, 0) := by
  have hm := h
  unfold mayE at hm
  simp only [Bool.and_eq_true, decide_eq_true_eq] at hm
  obtain ⟨ha, _, hd⟩ := hm
  have B := back e ha
  constructor
  · have := B.1 32 (by omega) [] r hr
    unfold frontX
    rw [show rdN (tkE e ++ r) 32 0 = .ok (e, (tkE e).length) from by simpa using this]
    dsimp only
    rw [if_pos h]
  · have hin := B.1 31 (by omega) [lp] ([rp] ++ r) (noc_cons (by decide) rfl (by decide) (by decide))
    have e1 : lp :: (tkE e ++ [rp]) ++ r = [lp] ++ (tkE e ++ ([rp] ++ r)) := by simp
    have hz : atB ([lp] ++ (tkE e ++ ([rp] ++ r))) 0 = lp := at_app [] _ lp (by decide) rfl
    have hT : tkN ([lp] ++ (tkE e ++ ([rp] ++ r))) 32 0 = .ok (e, (tkE e).length + 2) := by
      show takesF (rdN ([lp] ++ (tkE e ++ ([rp] ++ r))) 31) false ([lp] ++ (tkE e ++ ([rp] ++ r))) 0 = _
      rw [take_par (to := 1 + (tkE e).length) hz hin]
      · congr 2
        omega
      · have := at_cons ([lp] ++ tkE e) r rp (1 + (tkE e).length) (by simp; omega) (by decide) rfl
        simpa using this
    have hn : atB ([lp] ++ (tkE e ++ ([rp] ++ r))) ((tkE e).length + 2) = atB r 0 := by
      have := at_next ([lp] ++ tkE e ++ [rp]) r ((tkE e).length + 2) (by simp)
      simpa using this
    have hR : rdN ([lp] ++ (tkE e ++ ([rp] ++ r))) 32 0 = .ok (e, (tkE e).length + 2) := by
      unfold rdN
      rw [rd_op hd_true.2.2 hz hT]
      unfold pairF
      rw [hn, if_pos hr.2]
    unfold frontX
    rw [e1, hR]
    dsimp only
    rw [if_pos h]
end Go.Proofs.YtblckajejohlbaaDoor.L10
