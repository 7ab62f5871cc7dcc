/- The rows of a source text are valid; its errors are at lines that are there. Plain Lean. -/
import Derived.Test.YtkhmpmjonkmbeaaDoorBak
set_option linter.unusedVariables false
set_option linter.unusedSimpArgs false
namespace Go.Proofs.YtkhmpmjonkmbeaaDoor.L7

/-! ### A content -/
theorem bare_head (d : UInt8) (r : Bs) : bare (d :: r) = [] ∨ ∃ q, bare (d :: r) = d :: q := by
  cases r with
  | nil => exact .inr ⟨[], rfl⟩
  | cons e r =>
    unfold bare
    split
    · exact .inl rfl
    · exact .inr ⟨_, rfl⟩
theorem bare_noDD (l : Bs) : noDD (bare l) = true := by
  induction l with
  | nil => rfl
  | cons c r ih =>
    cases r with
    | nil => rfl
    | cons d r =>
      unfold bare
      split
      · rfl
      · rename_i h
        rcases bare_head d r with e | ⟨q, e⟩
        · rw [e]; rfl
        · rw [e] at ih ⊢
          unfold noDD
          rw [ih, Bool.and_true, Bool.not_eq_true', Bool.and_eq_false_iff, beq_eq_false_iff_ne, beq_eq_false_iff_ne]
          by_cases hc : c = 45
          · exact .inr (fun hd => h ⟨hc, hd⟩)
          · exact .inl hc
theorem bare_sub (l : Bs) : bare l <+: l := by
  induction l with
  | nil => exact List.prefix_refl _
  | cons c r ih =>
    cases r with
    | nil => exact List.prefix_refl _
    | cons d r =>
      unfold bare
      split
      · exact List.nil_prefix
      · rw [List.cons_prefix_cons]
        exact ⟨rfl, ih⟩
theorem trimR_sub (l : Bs) : trimR l <+: l := by
  unfold trimR
  obtain ⟨p, hp⟩ := List.dropWhile_suffix (· == 32) (l := l.reverse)
  refine ⟨p.reverse, ?_⟩
  have := congrArg List.reverse hp
  rwa [List.reverse_append, List.reverse_reverse] at this
theorem trimR_last (l : Bs) : ((trimR l).getLast? == some 32) = false := by
  unfold trimR
  rw [List.getLast?_reverse]
  have := List.head?_dropWhile_not (· == 32) l.reverse
  cases h : (l.reverse.dropWhile (· == 32)).head? with
  | none => rfl
  | some c =>
    rw [h] at this
    simp only at this
    simpa using this
theorem noDD_app {p q : Bs} (h : noDD (p ++ q) = true) : noDD p = true ∧ noDD q = true := by
  induction p with
  | nil => exact ⟨rfl, h⟩
  | cons c p ih =>
    rw [List.cons_append] at h
    have h2 := ih (noDD_tail h)
    refine ⟨?_, h2.2⟩
    cases p with
    | nil => rfl
    | cons d p =>
      rw [List.cons_append] at h
      unfold noDD at h ⊢
      simp only [Bool.and_eq_true] at h ⊢
      exact ⟨h.1, h2.1⟩
/-- What a content is. -/
structure Cont (t : Bs) : Prop where
  ne : t ≠ []
  hd : (t.head? == some 32) = false
  la : (t.getLast? == some 32) = false
  dd : noDD t = true
  pl : t.all plainB = true
theorem drop_ind (l : Bs) : l.drop (indL l) = l.dropWhile (· == 32) := by
  unfold indL
  induction l with
  | nil => rfl
  | cons c r ih =>
    by_cases h : (c == 32) = true
    · rw [List.takeWhile_cons_of_pos (p := fun x : UInt8 => x == 32) h, List.dropWhile_cons_of_pos (p := fun x : UInt8 => x == 32) h]
      exact ih
    · rw [List.takeWhile_cons_of_neg (p := fun x : UInt8 => x == 32) h, List.dropWhile_cons_of_neg (p := fun x : UInt8 => x == 32) h]
      rfl
theorem cut_cont {l : Bs} (hp : l.all plainB = true) (hne : (cutL l).2.isEmpty = false) : Cont (cutL l).2 ∧ (cutL l).1 + (cutL l).2.length ≤ l.length := by
  unfold cutL at hne ⊢
  dsimp only at hne ⊢
  obtain ⟨z, hz⟩ : ∃ z, trimR (bare l) = z := ⟨_, rfl⟩
  have hsub : z <+: l := by rw [← hz]; exact (trimR_sub _).trans (bare_sub l)
  have hlast : (z.getLast? == some 32) = false := by rw [← hz]; exact trimR_last _
  have hdd : noDD z = true := by
    obtain ⟨q, hq⟩ := trimR_sub (bare l)
    have := bare_noDD l
    rw [← hq] at this
    rw [← hz]
    exact (noDD_app this).1
  rw [hz] at hne ⊢
  have hn : z.drop (indL z) ≠ [] := by intro e; rw [e] at hne; cases hne
  have hle : indL z ≤ z.length := by unfold indL; exact (List.takeWhile_prefix _).length_le
  obtain ⟨q, hq⟩ := hsub
  have hall : z.all plainB = true := by
    rw [← hq, List.all_append] at hp
    exact ((Bool.and_eq_true _ _).mp hp).1
  have hsplit := List.take_append_drop (indL z) z
  refine ⟨⟨hn, ?_, ?_, ?_, ?_⟩, ?_⟩
  · rw [drop_ind]
    have := List.head?_dropWhile_not (· == 32) z
    cases h : (z.dropWhile (· == 32)).head? with
    | none => rfl
    | some c =>
      rw [h] at this
      simp only at this
      simpa using this
  · rw [← hsplit, List.getLast?_append] at hlast
    cases h : (z.drop (indL z)).getLast? with
    | none => rfl
    | some c => rw [h] at hlast; exact hlast
  · rw [← hsplit] at hdd
    exact (noDD_app hdd).2
  · rw [← hsplit, List.all_append] at hall
    exact ((Bool.and_eq_true _ _).mp hall).2
  · have h1 : z.length ≤ l.length := by rw [← hq, List.length_append]; omega
    rw [List.length_drop]
    omega
/-! ### Items -/
def wt (x : Item) : Nat := x.2.1 + x.2.2.length + 1
theorem lns_sum (s : Bs) : ((lnsOf s).map fun l => l.length + 1).sum = s.length + 1 := by
  induction s with
  | nil => rfl
  | cons c s ih =>
    unfold lnsOf
    split
    · rw [List.map_cons, List.sum_cons, ih]
      simp only [List.length_nil, List.length_cons]
      omega
    · cases h : lnsOf s with
      | nil => rw [h] at ih; simp at ih
      | cons a t =>
        rw [h] at ih
        simp only [List.map_cons, List.sum_cons, List.length_cons] at ih ⊢
        omega
/-- Items as lines have them: numbers rise from i on and stay below b; contents are contents. -/
def Its (i b : Nat) : List Item → Prop
  | [] => True
  | (n, _, t) :: r => i ≤ n ∧ n < b ∧ Cont t ∧ Its (n + 1) b r
theorem Its.weak {i j b : Nat} (h : j ≤ i) : ∀ {r : List Item}, Its i b r → Its j b r
  | [], _ => trivial
  | (n, _, t) :: r, hr => by
    unfold Its at hr ⊢
    exact ⟨Nat.le_trans h hr.1, hr.2⟩
theorem items_its {ls : List Bs} (h : ∀ l ∈ ls, l.all plainB = true) (i : Nat) : Its i (i + ls.length) (itemsOf ls i) ∧ ((itemsOf ls i).map wt).sum ≤ (ls.map fun l => l.length + 1).sum := by
  induction ls generalizing i with
  | nil => exact ⟨trivial, Nat.le_refl _⟩
  | cons l ls ih =>
    have h1 := ih (fun l hl => h l (List.mem_cons_of_mem _ hl)) (i + 1)
    have e : i + 1 + ls.length = i + (l :: ls).length := by simp only [List.length_cons]; omega
    rw [e] at h1
    unfold itemsOf
    split
    · refine ⟨h1.1.weak (by omega), ?_⟩
      rw [List.map_cons, List.sum_cons]
      have := h1.2
      omega
    · rename_i hne
      obtain ⟨hc, hw⟩ := cut_cont (h l (List.mem_cons_self ..)) (by simpa using hne)
      refine ⟨?_, ?_⟩
      · unfold Its
        exact ⟨Nat.le_refl _, by simp only [List.length_cons]; omega, hc, h1.1⟩
      · rw [List.map_cons, List.sum_cons, List.map_cons, List.sum_cons]
        have := h1.2
        show (cutL l).1 + (cutL l).2.length + 1 + _ ≤ _
        omega
/-! ### Logical lines -/
theorem cont_join {t m : Bs} (h : Cont t) (k : Cont m) : Cont (t ++ 32 :: m) := by
  refine ⟨by simp, ?_, ?_, ?_, ?_⟩
  · cases t with
    | nil => exact absurd rfl h.ne
    | cons c t => exact h.hd
  · rw [List.getLast?_append]
    have : (32 :: m).getLast? = m.getLast? := by
      cases m with
      | nil => exact absurd rfl k.ne
      | cons c m => rfl
    rw [this]
    cases hm : m.getLast? with
    | none => exact absurd (List.getLast?_eq_none_iff.1 hm) k.ne
    | some c => have := k.la; rw [hm] at this; exact this
  · have hd := h.dd
    clear h
    induction t with
    | nil =>
      cases m with
      | nil => rfl
      | cons c m => show (!(32 == 45 && c == 45) && noDD (c :: m)) = true; rw [k.dd]; rfl
    | cons c t ih =>
      have h2 := ih (noDD_tail hd)
      cases t with
      | nil =>
        show (!(c == 45 && (32 : UInt8) == 45) && noDD (32 :: m)) = true
        rw [List.nil_append] at h2
        rw [h2, Bool.and_true]
        cases (c == 45) <;> rfl
      | cons d t =>
        rw [List.cons_append, List.cons_append]
        rw [List.cons_append] at h2
        unfold noDD at hd ⊢
        simp only [Bool.and_eq_true] at hd ⊢
        exact ⟨hd.1, h2⟩
  · rw [List.all_append, h.pl, Bool.true_and, List.all_cons, k.pl]
    rfl
theorem glue_ok {ind b : Nat} : ∀ {r : List Item} {a i : Nat} {t t' : Bs} {r' : List Item}, Cont t → Its i b r → glue ind a t r = .ok (t', r') →
    Cont t' ∧ conts t' = false ∧ (∃ j, i ≤ j ∧ Its j b r') ∧ t'.length + (r'.map wt).sum ≤ t.length + (r.map wt).sum := by
  intro r
  induction r with
  | nil =>
    intro a i t t' r' ht hr h
    unfold glue at h
    split at h
    · cases h
    · rename_i hc
      injection h with h
      injection h with h1 h2
      subst h1 h2
      exact ⟨ht, by simpa using hc, ⟨i, Nat.le_refl _, trivial⟩, Nat.le_refl _⟩
  | cons x r ih =>
    intro a i t t' r' ht hr h
    obtain ⟨n, d, m⟩ := x
    unfold glue at h
    split at h
    · split at h
      · cases h
      · unfold Its at hr
        obtain ⟨g1, g2, ⟨j, g3, g4⟩, g5⟩ := ih (cont_join ht hr.2.2.1) hr.2.2.2 h
        refine ⟨g1, g2, ⟨j, by omega, g4⟩, ?_⟩
        rw [List.map_cons, List.sum_cons]
        simp only [List.length_append, List.length_cons] at g5
        show _ ≤ t.length + (d + m.length + 1 + _)
        omega
    · rename_i hc
      injection h with h
      injection h with h1 h2
      subst h1 h2
      exact ⟨ht, by simpa using hc, ⟨i, Nat.le_refl _, hr⟩, Nat.le_refl _⟩
theorem glue_err {ind b : Nat} : ∀ {r : List Item} {a i : Nat} {t : Bs} {n : Nat} {e : Int}, 1 ≤ a → a < b → 1 ≤ i → Its i b r → glue ind a t r = .error (n, e) → 1 ≤ n ∧ n < b ∧ (e = 5 ∨ e = 70) := by
  intro r
  induction r with
  | nil =>
    intro a i t n e h1 h2 _ hr h
    unfold glue at h
    split at h
    · injection h with h
      injection h with h3 h4
      subst h3 h4
      exact ⟨h1, h2, .inl rfl⟩
    · cases h
  | cons x r ih =>
    intro a i t n e h1 h2 hi hr h
    obtain ⟨n', d, m⟩ := x
    unfold Its at hr
    unfold glue at h
    split at h
    · split at h
      · injection h with h
        injection h with h3 h4
        subst h3 h4
        exact ⟨by omega, hr.2.1, .inr rfl⟩
      · exact ih (by omega) hr.2.1 (by omega) hr.2.2.2 h
    · cases h
/-! ### Rows -/
theorem rows_ok {b : Nat} (hb : b ≤ 65537) : ∀ (N : Nat) {its : List Item} {before : Int} {k i : Nat} {l : List Rw}, its.length ≤ N → Its i b its → k ≤ 2048 → rowsOf before k its = .ok l →
    (∀ no : Int, no < (i : Int) → okRows no before l = true) ∧ k + l.length ≤ 2048 ∧ size l ≤ (its.map wt).sum ∧ ∀ x ∈ l, x.no < (b : Int) := by
  intro N
  induction N with
  | zero =>
    intro its before k i l hN hI hk h
    obtain rfl : its = [] := List.eq_nil_of_length_eq_zero (by omega)
    unfold rowsOf at h
    injection h with h
    subst h
    exact ⟨fun _ _ => rfl, by simpa using hk, Nat.le_refl _, fun _ hx => absurd hx (by simp)⟩
  | succ N ih =>
    intro its before k i l hN hI hk h
    cases its with
    | nil =>
      unfold rowsOf at h
      injection h with h
      subst h
      exact ⟨fun _ _ => rfl, by simpa using hk, Nat.le_refl _, fun _ hx => absurd hx (by simp)⟩
    | cons x r =>
      obtain ⟨n, d, m⟩ := x
      unfold Its at hI
      unfold rowsOf at h
      split at h
      · cases h
      · rename_i hind
        split at h
        · cases h
        · rename_i t r' hg
          obtain ⟨g1, g2, ⟨j, g3, g4⟩, g5⟩ := glue_ok hI.2.2.1 hI.2.2.2 hg
          split at h
          · cases h
          · rename_i hlim
            split at h
            · cases h
            · rename_i l' hl
              injection h with h
              subst h
              have hlen := glue_len hg
              simp only [List.length_cons] at hN
              obtain ⟨q1, q2, q3, q4⟩ := ih (by omega) g4 (by omega) hl
              refine ⟨fun no hno => ?_, by simp only [List.length_cons]; omega, ?_, fun x hx => ?_⟩
              · unfold okRows
                have hf : fine t = true := fine_back ⟨g1.ne, by omega, g1.hd, g1.la, g2, g1.dd, g1.pl⟩
                have h5 := q1 (n : Int) (by omega)
                simp only [Bool.and_eq_true, decide_eq_true_eq]
                exact ⟨⟨⟨⟨⟨⟨by show no < (n : Int); omega, by show (n : Int) ≤ 65536; omega⟩, by show (0 : Int) ≤ ((d / 2 : Nat) : Int); omega⟩, by show ((d / 2 : Nat) : Int) ≤ before + 1; omega⟩, by show ((d / 2 : Nat) : Int) ≤ 32; omega⟩, hf⟩, h5⟩
              · unfold size at q3 ⊢
                rw [List.map_cons, List.sum_cons, List.map_cons, List.sum_cons]
                show 2 * (((d / 2 : Nat) : Int)).toNat + t.length + 1 + _ ≤ d + m.length + 1 + _
                rw [Int.toNat_natCast]
                omega
              · rcases List.mem_cons.1 hx with rfl | hx
                · show (n : Int) < b; omega
                · exact q4 x hx
theorem rows_err {b : Nat} : ∀ (N : Nat) {its : List Item} {before : Int} {k i : Nat} {n : Nat} {e : Int}, its.length ≤ N → 1 ≤ i → Its i b its → rowsOf before k its = .error (n, e) → 1 ≤ n ∧ n < b ∧ (e = 5 ∨ e = 70 ∨ e = 3) := by
  intro N
  induction N with
  | zero =>
    intro its before k i n e hN hi hI h
    obtain rfl : its = [] := List.eq_nil_of_length_eq_zero (by omega)
    unfold rowsOf at h
    cases h
  | succ N ih =>
    intro its before k i n e hN hi hI h
    cases its with
    | nil => unfold rowsOf at h; cases h
    | cons x r =>
      obtain ⟨n', d, m⟩ := x
      unfold Its at hI
      unfold rowsOf at h
      split at h
      · injection h with h
        injection h with h3 h4
        subst h3 h4
        exact ⟨by omega, hI.2.1, .inr (.inl rfl)⟩
      · split at h
        · rename_i e' hg
          injection h with h
          subst h
          obtain ⟨p1, p2, p3⟩ := glue_err (by omega) hI.2.1 (by omega) hI.2.2.2 hg
          exact ⟨p1, p2, p3.elim .inl (fun h => .inr (.inl h))⟩
        · rename_i t r' hg
          obtain ⟨_, _, ⟨j, g3, g4⟩, _⟩ := glue_ok hI.2.2.1 hI.2.2.2 hg
          have hlen := glue_len hg
          simp only [List.length_cons] at hN
          split at h
          · injection h with h
            injection h with h3 h4
            subst h3 h4
            exact ⟨by omega, hI.2.1, .inr (.inr rfl)⟩
          · split at h
            · rename_i e' hl
              injection h with h
              subst h
              exact ih (by omega) (by omega) g4 hl
            · cases h
theorem lns_len (s : Bs) : 1 ≤ (lnsOf s).length ∧ (lnsOf s).length ≤ s.length + 1 := by
  have h := lns_sum s
  have h2 : ∀ (ls : List Bs), ls.length ≤ (ls.map fun l => l.length + 1).sum := by
    intro ls
    induction ls with
    | nil => exact Nat.le_refl _
    | cons l ls ih => rw [List.map_cons, List.sum_cons, List.length_cons]; omega
  have h3 := h2 (lnsOf s)
  refine ⟨?_, by omega⟩
  cases hl : lnsOf s with
  | nil => rw [hl] at h; simp at h
  | cons a t => simp
/-- What Rows answers is right: rows that are valid and begin at lines that are there, or an error at such a line. -/
theorem rows_again {s : Bs} (hs : s.length ≤ 65535) {l : List Rw} {n e : Int} (h : rows s = (l, n, e)) :
    (e = 0 ∧ n = 0 ∧ may l = true ∧ size l ≤ s.length + 1 ∧ ∀ x ∈ l, x.no ≤ ((lnsOf s).length : Int)) ∨ ((e = 5 ∨ e = 70 ∨ e = 3) ∧ l = [] ∧ 1 ≤ n ∧ n ≤ ((lnsOf s).length : Int)) := by
  unfold rows at h
  rw [if_neg (by omega)] at h
  have hle := lns_len s
  split at h
  · rename_i k hk
    injection h with h1 h2
    injection h2 with h2 h3
    subst h1 h2 h3
    unfold badLine at hk
    have := (List.findIdx?_eq_some_iff_getElem.1 hk).1
    exact .inr ⟨.inl rfl, rfl, by omega, by omega⟩
  · rename_i hk
    have hp : ∀ q ∈ lnsOf s, q.all plainB = true := by
      intro q hq
      unfold badLine at hk
      have := List.findIdx?_eq_none_iff.1 hk q hq
      simpa using this
    obtain ⟨hI, hW⟩ := items_its hp 1
    rw [lns_sum] at hW
    split at h
    · rename_i n' e' hr
      injection h with h1 h2
      injection h2 with h2 h3
      subst h1 h2 h3
      obtain ⟨p1, p2, p3⟩ := rows_err _ (Nat.le_refl _) (Nat.le_refl 1) hI hr
      exact .inr ⟨p3, rfl, by omega, by omega⟩
    · rename_i l' hr
      injection h with h1 h2
      injection h2 with h2 h3
      subst h1 h2 h3
      obtain ⟨q1, q2, q3, q4⟩ := rows_ok (by omega) _ (Nat.le_refl _) hI (Nat.zero_le _) hr
      refine .inl ⟨rfl, rfl, ?_, by omega, fun x hx => by have := q4 x hx; omega⟩
      unfold may
      rw [decide_eq_true (show _ ≤ 2048 by omega), q1 0 (by decide), decide_eq_true (show size _ ≤ 65537 by omega)]
      rfl
theorem src_size (l : List Rw) : (srcOf l).length = size l := by
  unfold srcOf size
  induction l with
  | nil => rfl
  | cons x l ih =>
    rw [List.flatMap_cons, List.length_append, ih, List.map_cons, List.sum_cons]
    unfold lineOf7
    simp only [List.length_append, List.length_replicate, List.length_cons, List.length_nil]
/-- Rows that were read are read again from their own source text. -/
theorem again_back {s : Bs} (hs : s.length ≤ 65535) {l : List Rw} {n : Int} (h : rows s = (l, n, 0)) : source l = (srcOf l, 0) ∧ rows (srcOf l) = (renum l 1, 0, 0) := by
  rcases rows_again hs h with ⟨_, _, hm, hz, _⟩ | ⟨he, _⟩
  · have hl : (srcOf l).length ≤ 65536 := by rw [src_size]; omega
    refine ⟨?_, rows_back hm hl⟩
    unfold source
    rw [if_pos hm, if_pos hl]
  · omega
end Go.Proofs.YtkhmpmjonkmbeaaDoor.L7
