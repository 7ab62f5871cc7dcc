/- What is read: it is a tree, of the tokens that were taken, and depends on no others. Plain Lean. -/
import Derived.Test.YtblckajejohlbaaDoorExc
set_option linter.unusedVariables false
set_option linter.unusedSimpArgs false
set_option linter.unusedVariables false
set_option linter.unusedSimpArgs false
namespace Go.Proofs.YtblckajejohlbaaDoor.L10
open Go L8

theorem at_may (l : List Tk) (i : Nat) : atB l i = z0 ∨ (may (atB l i) = true ∧ (atB l i).a = 0) := by
  unfold atB
  split
  · rename_i h
    refine .inr ⟨?_, rfl⟩
    have hb : ∀ t : Tk, may t = true → may (base t) = true := by
      intro t ht
      unfold may base at *
      simp only [Bool.and_eq_true, decide_eq_true_eq] at ht ⊢
      exact ⟨⟨by omega, by omega⟩, ht.2⟩
    exact hb _ h
  · exact .inl rfl
theorem at_k {l : List Tk} {i k : Nat} (h : (atB l i).k = k) (hk : k ≠ 0) : atB l i ≠ z0 ∧ may (atB l i) = true ∧ i < l.length := by
  have hz : atB l i ≠ z0 := fun e => by rw [e] at h; exact hk h.symm
  rcases at_may l i with h1 | h1
  · exact absurd h1 hz
  · exact ⟨hz, h1.1, at_lt hz⟩
theorem may_name {t : Tk} (h : may t = true) (hk : t.k = 1) : isName t.tx = true := by
  unfold may at h
  rw [hk] at h
  simp only [Bool.and_eq_true] at h
  exact h.2.1
theorem may_byte {t : Tk} (h : may t = true) (hk : t.k = 4) : 0 ≤ t.n ∧ t.n ≤ 255 := by
  unfold may at h
  rw [hk] at h
  simp only [Bool.and_eq_true, decide_eq_true_eq] at h
  exact ⟨h.2.1.2, h.2.2⟩
theorem eq_lt {l : List Tk} {i : Nat} {t : Tk} (h : atB l i = t) (hz : t ≠ z0) : i < l.length := at_lt (by rw [h]; exact hz)
/-! ### The trees that reading makes -/
theorem all_leaf {k o t : Nat} {n : Int} {s : Bs} (h : ownE (.mk k o t n s []) = true) : allE (.mk k o t n s []) = true := by rw [allE, h, allL]; rfl
theorem all_mk1 {k o t : Nat} {n : Int} {s : Bs} {y : Ex} (h : ownE (.mk k o t n s [y]) = true) (hy : allE y = true) : allE (.mk k o t n s [y]) = true := by rw [allE, h, allL, hy, allL]; rfl
theorem all_mk2 {k o t : Nat} {n : Int} {s : Bs} {a b : Ex} (h : ownE (.mk k o t n s [a, b]) = true) (ha : allE a = true) (hb : allE b = true) : allE (.mk k o t n s [a, b]) = true := by rw [allE, h, allL, ha, allL, hb, allL]; rfl
theorem own_1 (n : Int) : ownE (.mk 1 0 0 n [] []) = true := rfl
theorem own_2 {n : Int} (h0 : 0 ≤ n) (h1 : n ≤ 255) : ownE (.mk 2 0 0 n [] []) = true := by
  show ((decide (0 ≤ n) && decide (n ≤ 255)) && true) = true
  rw [decide_eq_true h0, decide_eq_true h1]; rfl
theorem own_3 : ownE (.mk 3 0 0 0 [] []) = true ∧ ownE (.mk 3 0 0 1 [] []) = true := ⟨rfl, rfl⟩
theorem own_4 {s : Bs} (h : isName s = true) : ownE (.mk 4 0 0 0 s []) = true := by
  show (isName s && true) = true
  rw [h]; rfl
theorem own_9 {s : Bs} (h : isName s = true) : ownE (.mk 9 0 0 0 s []) = true := by
  show (isName s && true) = true
  rw [h]; rfl
theorem own_5 {s : Bs} {y : Ex} (h : isName s = true) : ownE (.mk 5 0 0 0 s [y]) = true := by
  show (isName s && true) = true
  rw [h]; rfl
theorem own_6 {o : Nat} {y : Ex} (h0 : 23 ≤ o) (h1 : o ≤ 26) : ownE (.mk 6 o 0 0 [] [y]) = true := by
  show ((decide (23 ≤ o) && decide (o ≤ 26)) && true) = true
  rw [decide_eq_true h0, decide_eq_true h1]; rfl
theorem own_7 {o : Nat} {a b : Ex} (h0 : 1 ≤ o) (h1 : o ≤ 22) : ownE (.mk 7 o 0 0 [] [a, b]) = true := by
  show ((decide (1 ≤ o) && decide (o ≤ 22)) && true) = true
  rw [decide_eq_true h0, decide_eq_true h1]; rfl
theorem own_8 {t : Nat} {y : Ex} (h : prim t = true) : ownE (.mk 8 0 t 0 [] [y]) = true := by
  show (prim t && true) = true
  rw [h]; rfl
theorem type_prim {t : Tk} (h : typeOf t ≠ 0) : prim (typeOf t) = true ∧ t = kw (wd (typeOf t)) := by
  unfold typeOf at *
  split
  · exact ⟨rfl, by assumption⟩
  · split
    · exact ⟨rfl, by assumption⟩
    · split
      · exact ⟨rfl, by assumption⟩
      · rename_i h1 h2 h3
        rw [if_neg h1, if_neg h2, if_neg h3] at h
        exact absurd rfl h
/-! ### What a reader keeps -/
def PT (T : List Tk → Nat → Res) : Prop := ∀ l i x to, T l i = .ok (x, to) → allE x = true ∧ i < to ∧ to ≤ l.length ∧ (opT x).length + i ≤ to ∧ ∀ m, (∀ j, j < to → atB m j = atB l j) → atB m to ≠ lb → T m i = .ok (x, to)
def PR (R : List Tk → Nat → Res) : Prop := ∀ l i x to, R l i = .ok (x, to) → allE x = true ∧ i < to ∧ to ≤ l.length ∧ (tkE x).length + i ≤ to ∧ ∀ m, (∀ j, j < to → atB m j = atB l j) → atB m to ≠ lb → findO (atB m to) 1 22 = 0 → R m i = .ok (x, to)
def PE (T : List Tk → Nat → Res) : Prop := ∀ l i e, T l i = .error e → e = 3 ∨ e = 100
theorem tk_len (e : Ex) : (tkE e).length ≤ (opT e).length := by
  unfold opT par
  split
  · simp; omega
  · exact Nat.le_refl _
theorem wrap_ok {r : Res} {f : Ex → Ex} {x : Ex} {to : Nat} (h : wrapF r f = .ok (x, to)) : ∃ y, r = .ok (y, to) ∧ x = f y := by
  unfold wrapF at h
  cases r with
  | error e => cases h
  | ok p => obtain ⟨y, q⟩ := p; injection h with h; injection h with h1 h2; subst h1 h2; exact ⟨y, rfl, rfl⟩
theorem wrap_err {r : Res} {f : Ex → Ex} {e : Int} (h : wrapF r f = .error e) : r = .error e := by
  unfold wrapF at h
  cases r with
  | error e => exact h
  | ok p => cases h
theorem takes_keeps {R : List Tk → Nat → Res} {top : Bool} (hR : top = false → PR R) : PT fun l => takesF (R l) top l := by
  intro l i x to h
  have keep : ∀ m, (∀ j, j < to → atB m j = atB l j) → i < to → atB m i = atB l i := fun m hm hi => hm i hi
  dsimp only at h ⊢
  by_cases h1 : (atB l i).k = 3
  · have e : takesF (R l) top l i = .ok (.mk 1 0 0 (atB l i).n [] [], i + 1) := by unfold takesF; rw [if_pos h1]
    rw [e] at h
    injection h with h; injection h with hx ht; subst hx ht
    obtain ⟨g1, g2, g3⟩ := at_k h1 (by decide)
    refine ⟨all_leaf (own_1 _), by omega, by omega, by rw [op_small rfl, tk_1]; simp; omega, fun m hm _ => ?_⟩
    unfold takesF
    rw [hm i (by omega), if_pos h1]
  by_cases h2 : (atB l i).k = 4
  · have e : takesF (R l) top l i = .ok (.mk 2 0 0 (atB l i).n [] [], i + 1) := by unfold takesF; rw [if_neg h1, if_pos h2]
    rw [e] at h
    injection h with h; injection h with hx ht; subst hx ht
    obtain ⟨g1, g2, g3⟩ := at_k h2 (by decide)
    have hb := may_byte g2 h2
    refine ⟨all_leaf (own_2 hb.1 hb.2), by omega, by omega, by rw [op_small rfl, tk_2]; simp; omega, fun m hm _ => ?_⟩
    unfold takesF
    rw [hm i (by omega), if_neg h1, if_pos h2]
  by_cases h3 : atB l i = kw wFalse
  · have e : takesF (R l) top l i = .ok (.mk 3 0 0 0 [] [], i + 1) := by unfold takesF; rw [if_neg h1, if_neg h2, if_pos h3]
    rw [e] at h
    injection h with h; injection h with hx ht; subst hx ht
    have g3 := eq_lt h3 (by decide)
    refine ⟨all_leaf own_3.1, by omega, by omega, by rw [op_small rfl, tk_3]; simp; omega, fun m hm _ => ?_⟩
    unfold takesF
    rw [hm i (by omega), if_neg h1, if_neg h2, if_pos h3]
  by_cases h4 : atB l i = kw wTrue
  · have e : takesF (R l) top l i = .ok (.mk 3 0 0 1 [] [], i + 1) := by unfold takesF; rw [if_neg h1, if_neg h2, if_neg h3, if_pos h4]
    rw [e] at h
    injection h with h; injection h with hx ht; subst hx ht
    have g3 := eq_lt h4 (by decide)
    refine ⟨all_leaf own_3.2, by omega, by omega, by rw [op_small rfl, tk_3]; simp; omega, fun m hm _ => ?_⟩
    unfold takesF
    rw [hm i (by omega), if_neg h1, if_neg h2, if_neg h3, if_pos h4]
  by_cases h5 : (atB l i).k = 1
  · obtain ⟨g1, g2, g3⟩ := at_k h5 (by decide)
    have hs := may_name g2 h5
    have e : ∀ m : List Tk, atB m i = atB l i → takesF (R m) top m i = namedF (R m) top m i := fun m hm => by unfold takesF; rw [hm, if_neg h1, if_neg h2, if_neg h3, if_neg h4, if_pos h5]
    rw [e l rfl] at h
    by_cases h6 : atB l (i + 1) = lb
    · cases top with
      | true => unfold namedF at h; rw [if_pos h6, if_pos rfl] at h; cases h
      | false =>
        unfold namedF at h
        rw [if_pos h6, if_neg (by decide)] at h
        cases hr : R l (i + 2) with
        | error e => rw [hr] at h; cases h
        | ok p =>
          obtain ⟨y, q⟩ := p
          rw [hr] at h
          dsimp only at h
          by_cases h7 : atB l q = rb
          · rw [if_pos h7] at h
            injection h with h; injection h with hx ht; subst hx ht
            obtain ⟨a1, a2, a3, a4, a5⟩ := hR rfl l (i + 2) y q hr
            have g4 := eq_lt h7 (by decide)
            refine ⟨all_mk1 (own_5 hs) a1, by omega, by omega, by rw [op_small rfl, tk_5]; simp; omega, fun m hm _ => ?_⟩
            rw [e m (hm i (by omega))]
            unfold namedF
            rw [hm (i + 1) (by omega), if_pos h6, if_neg (by decide), a5 m (fun j hj => hm j (by omega)) (by rw [hm q (by omega), h7]; decide) (by rw [hm q (by omega), h7]; decide)]
            dsimp only
            rw [hm q (by omega), if_pos h7, hm i (by omega)]
          · rw [if_neg h7] at h; cases h
    · unfold namedF at h
      rw [if_neg h6] at h
      injection h with h; injection h with hx ht; subst hx ht
      refine ⟨all_leaf (own_4 hs), by omega, by omega, by rw [op_small rfl, tk_4]; simp; omega, fun m hm hn => ?_⟩
      rw [e m (hm i (by omega))]
      unfold namedF
      rw [if_neg hn, hm i (by omega)]
  by_cases h6 : atB l i = lp
  · have e : ∀ m : List Tk, atB m i = atB l i → takesF (R m) top m i = (if top = true then .error 3 else match R m (i + 1) with
      | .error e => .error e
      | .ok (x, to) => if atB m to = rp then .ok (x, to + 1) else .error 100) := fun m hm => by unfold takesF; rw [hm, if_neg h1, if_neg h2, if_neg h3, if_neg h4, if_neg h5, if_pos h6]; rfl
    rw [e l rfl] at h
    cases top with
    | true => rw [if_pos rfl] at h; cases h
    | false =>
      rw [if_neg (by decide)] at h
      cases hr : R l (i + 1) with
      | error e => rw [hr] at h; cases h
      | ok p =>
        obtain ⟨y, q⟩ := p
        rw [hr] at h
        dsimp only at h
        by_cases h7 : atB l q = rp
        · rw [if_pos h7] at h
          injection h with h; injection h with hx ht; subst hx ht
          obtain ⟨a1, a2, a3, a4, a5⟩ := hR rfl l (i + 1) y q hr
          have g4 := eq_lt h7 (by decide)
          have hop : (opT y).length ≤ (tkE y).length + 2 := by unfold opT par; split <;> simp
          refine ⟨a1, by omega, by omega, by omega, fun m hm _ => ?_⟩
          rw [e m (hm i (by omega)), if_neg (by decide), a5 m (fun j hj => hm j (by omega)) (by rw [hm q (by omega), h7]; decide) (by rw [hm q (by omega), h7]; decide)]
          dsimp only
          rw [hm q (by omega), if_pos h7]
        · rw [if_neg h7] at h; cases h
  · unfold takesF at h
    rw [if_neg h1, if_neg h2, if_neg h3, if_neg h4, if_neg h5, if_neg h6] at h
    cases h
theorem reads_keeps {T : List Tk → Nat → Res} (hT : PT T) : PR fun l => readsF (T l) l := by
  intro l i x to h
  dsimp only at h ⊢
  by_cases h1 : atB l i = kw wSize
  · by_cases h2 : (atB l (i + 1)).k = 1
    · have e : readsF (T l) l i = .ok (.mk 9 0 0 0 (atB l (i + 1)).tx [], i + 2) := by unfold readsF; rw [if_pos h1, if_pos h2]
      rw [e] at h
      injection h with h; injection h with hx ht; subst hx ht
      obtain ⟨g1, g2, g3⟩ := at_k h2 (by decide)
      refine ⟨all_leaf (own_9 (may_name g2 h2)), by omega, by omega, by rw [tk_9]; simp; omega, fun m hm _ _ => ?_⟩
      unfold readsF
      rw [hm i (by omega), if_pos h1, hm (i + 1) (by omega), if_pos h2]
    · unfold readsF at h; rw [if_pos h1, if_neg h2] at h; cases h
  by_cases h2 : typeOf (atB l i) ≠ 0
  · have e : ∀ m : List Tk, atB m i = atB l i → readsF (T m) m i = wrapF (T m (i + 1)) fun y => .mk 8 0 (typeOf (atB l i)) 0 [] [y] := fun m hm => by unfold readsF; rw [hm, if_neg h1, if_pos h2]
    rw [e l rfl] at h
    obtain ⟨y, hy, rfl⟩ := wrap_ok h
    obtain ⟨a1, a2, a3, a4, a5⟩ := hT l (i + 1) y to hy
    obtain ⟨p1, p2⟩ := type_prim h2
    refine ⟨all_mk1 (own_8 p1) a1, by omega, by omega, by rw [tk_8]; simp; omega, fun m hm hn _ => ?_⟩
    rw [e m (hm i (by omega)), a5 m hm hn]
    rfl
  by_cases h3 : findO (atB l i) 23 4 ≠ 0
  · have e : ∀ m : List Tk, atB m i = atB l i → readsF (T m) m i = wrapF (T m (i + 1)) fun y => .mk 6 (findO (atB l i) 23 4) 0 0 [] [y] := fun m hm => by unfold readsF; rw [hm, if_neg h1, if_neg h2, if_pos h3]
    rw [e l rfl] at h
    obtain ⟨y, hy, rfl⟩ := wrap_ok h
    obtain ⟨a1, a2, a3, a4, a5⟩ := hT l (i + 1) y to hy
    obtain ⟨p1, p2, _⟩ := find_some (by decide) rfl h3
    refine ⟨all_mk1 (own_6 p1 (by omega)) a1, by omega, by omega, by rw [tk_6]; simp; omega, fun m hm hn _ => ?_⟩
    rw [e m (hm i (by omega)), a5 m hm hn]
    rfl
  · have e : ∀ m : List Tk, atB m i = atB l i → readsF (T m) m i = (match T m i with
      | .error e => .error e
      | .ok (a, to) => pairF (T m) m a to) := fun m hm => by unfold readsF; rw [hm, if_neg h1, if_neg h2, if_neg h3]; rfl
    rw [e l rfl] at h
    cases ha : T l i with
    | error e => rw [ha] at h; cases h
    | ok p =>
      obtain ⟨a, q⟩ := p
      rw [ha] at h
      dsimp only at h
      obtain ⟨a1, a2, a3, a4, a5⟩ := hT l i a q ha
      unfold pairF at h
      by_cases h4 : findO (atB l q) 1 22 = 0
      · rw [if_pos h4] at h
        injection h with h; injection h with hx ht; subst hx ht
        refine ⟨a1, a2, a3, by have := tk_len a; omega, fun m hm hn hf => ?_⟩
        rw [e m (hm i (by omega)), a5 m hm hn]
        dsimp only
        unfold pairF
        rw [if_pos hf]
      · rw [if_neg h4] at h
        obtain ⟨b, hb, rfl⟩ := wrap_ok h
        obtain ⟨b1, b2, b3, b4, b5⟩ := hT l (q + 1) b to hb
        obtain ⟨p1, p2, p3⟩ := find_some (by decide) rfl h4
        have hq : atB l q ≠ lb := by rw [p3]; exact (mk_all p1 (by omega)).2.2.2.1
        refine ⟨all_mk2 (own_7 p1 (by omega)) a1 b1, by omega, by omega, by rw [tk_7]; simp; omega, fun m hm hn _ => ?_⟩
        rw [e m (hm i (by omega)), a5 m (fun j hj => hm j (by omega)) (by rw [hm q (by omega)]; exact hq)]
        dsimp only
        unfold pairF
        rw [hm q (by omega), if_neg h4, b5 m hm hn]
        rfl
theorem tkN_keeps : ∀ d, PT fun l => tkN l d
  | 0 => takes_keeps (R := fun _ _ => .error 3) (top := true) (fun h => by cases h)
  | d + 1 => takes_keeps (R := fun l => readsF (tkN l d) l) (top := false) (fun _ => reads_keeps (tkN_keeps d))
theorem rdN_keeps (d : Nat) : PR fun l => rdN l d := reads_keeps (tkN_keeps d)
/-! ### The errors -/
theorem takes_err {R : List Tk → Nat → Res} {top : Bool} (hR : PE R) : PE fun l => takesF (R l) top l := by
  intro l i e h
  dsimp only at h
  unfold takesF namedF at h
  split at h
  · cases h
  · split at h
    · cases h
    · split at h
      · cases h
      · split at h
        · cases h
        · split at h
          · split at h
            · split at h
              · injection h with h; exact .inl h.symm
              · split at h
                · rename_i hr; injection h with h; subst h; exact hR _ _ _ hr
                · split at h
                  · cases h
                  · injection h with h; exact .inr h.symm
            · cases h
          · split at h
            · split at h
              · injection h with h; exact .inl h.symm
              · split at h
                · rename_i hr; injection h with h; subst h; exact hR _ _ _ hr
                · split at h
                  · cases h
                  · injection h with h; exact .inr h.symm
            · injection h with h; exact .inr h.symm
theorem reads_err {T : List Tk → Nat → Res} (hT : PE T) : PE fun l => readsF (T l) l := by
  intro l i e h
  dsimp only at h
  unfold readsF at h
  split at h
  · split at h
    · cases h
    · injection h with h; exact .inr h.symm
  · split at h
    · exact hT _ _ _ (wrap_err h)
    · split at h
      · exact hT _ _ _ (wrap_err h)
      · split at h
        · rename_i hr; injection h with h; subst h; exact hT _ _ _ hr
        · unfold pairF at h
          split at h
          · cases h
          · exact hT _ _ _ (wrap_err h)
theorem tkN_err : ∀ d, PE fun l => tkN l d
  | 0 => takes_err (R := fun _ _ => .error 3) (fun l i e h => by injection h with h; exact .inl h.symm)
  | d + 1 => takes_err (R := fun l => readsF (tkN l d) l) (reads_err (tkN_err d))
theorem rdN_err (d : Nat) : PE fun l => rdN l d := reads_err (tkN_err d)
/-! ### Front -/
theorem front_ways (l : List Tk) : (∃ x n, frontX l = (x, n, 0) ∧ rdN l 32 0 = .ok (x, n) ∧ mayE x = true) ∨ (∃ e, frontX l = (e0, 0, e) ∧ (e = 3 ∨ e = 100)) := by
  unfold frontX
  cases hr : rdN l 32 0 with
  | error e => exact .inr ⟨e, rfl, rdN_err 32 l 0 e hr⟩
  | ok p =>
    obtain ⟨x, n⟩ := p
    dsimp only
    cases hm : mayE x with
    | true => exact .inl ⟨x, n, by rw [if_pos rfl], rfl, hm⟩
    | false => exact .inr ⟨3, by rw [if_neg (by decide)], .inl rfl⟩
/-- Of what was read the first tokens alone give the same. -/
theorem front_again {l : List Tk} {x : Ex} {n : Nat} (h : rdN l 32 0 = .ok (x, n)) (hm : mayE x = true) : 0 < n ∧ n ≤ l.length ∧ (tkE x).length ≤ n ∧ frontX (l.take n) = (x, n, 0) := by
  obtain ⟨a1, a2, a3, a4, a5⟩ := rdN_keeps 32 l 0 x n h
  have he : atB (l.take n) n = z0 := at_end (by rw [List.length_take]; omega)
  have := a5 (l.take n) (fun j hj => at_take hj) (by rw [he]; decide) (by rw [he]; decide)
  refine ⟨a2, a3, by omega, ?_⟩
  unfold frontX
  rw [show rdN (l.take n) 32 0 = .ok (x, n) from this]
  dsimp only
  rw [if_pos hm]
end Go.Proofs.YtblckajejohlbaaDoor.L10
