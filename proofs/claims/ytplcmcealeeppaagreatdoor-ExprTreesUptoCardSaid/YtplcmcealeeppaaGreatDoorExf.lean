/- The tokens of a tree exist; what is read depends on the tokens at their places alone. Plain Lean. -/
import Derived.Test.YtplcmcealeeppaaGreatDoorExe
set_option linter.unusedVariables false
set_option linter.unusedSimpArgs false
set_option linter.unusedVariables false
set_option linter.unusedSimpArgs false
namespace Go.Proofs.YtplcmcealeeppaaGreatDoor.L10
open Go L8

/-! ### Numbers in range -/
mutual
def rngE : Ex → Bool
  | .mk _ _ _ n _ l => decide (-2147483648 ≤ n) && (decide (n ≤ 2147483647) && rngL l)
def rngL : List Ex → Bool
  | [] => true
  | x :: r => rngE x && rngL r
end
theorem rngE_eq (e : Ex) : rngE e = (decide (-2147483648 ≤ e.n) && (decide (e.n ≤ 2147483647) && rngL e.l)) := by cases e; rw [rngE]; rfl
theorem rngE_of {e : Ex} (h0 : -2147483648 ≤ e.n) (h1 : e.n ≤ 2147483647) (h : rngL e.l = true) : rngE e = true := by
  rw [rngE_eq, decide_eq_true h0, decide_eq_true h1, h]; rfl
theorem rngL_of : ∀ l : List Ex, (∀ j, j < l.length → rngE (l.getD j e0) = true) → rngL l = true
  | [], _ => by rw [rngL]
  | x :: r, h => by
    rw [rngL, show rngE x = true from h 0 (by simp), rngL_of r fun j hj => by have := h (j + 1) (by simpa using hj); simpa using this]
    rfl
theorem rng_1 {k o t : Nat} {n : Int} {s : Bs} {y : Ex} (h : rngE (.mk k o t n s [y]) = true) : rngE y = true := by
  rw [rngE, rngL] at h; simp only [Bool.and_eq_true] at h; exact h.2.2.1
theorem rng_2 {k o t : Nat} {n : Int} {s : Bs} {a b : Ex} (h : rngE (.mk k o t n s [a, b]) = true) : rngE a = true ∧ rngE b = true := by
  rw [rngE, rngL, rngL] at h; simp only [Bool.and_eq_true] at h; exact ⟨h.2.2.1, h.2.2.2.1⟩
/-! ### Tokens that exist -/
def TM (t : Tk) : Prop := may t = true ∧ t.a = 0 ∧ (-2147483648 ≤ t.n ∧ t.n ≤ 2147483647)
theorem tm_0 {t : Tk} (h : may t = true) (ha : t.a = 0) (hn : t.n = 0) : TM t := ⟨h, ha, by omega⟩
theorem tm_mk {o : Nat} (h1 : 1 ≤ o) (h2 : o ≤ 26) : TM (mk o) := tm_0 (mk_all h1 h2).1 (mk_all h1 h2).2.1 (by unfold mk; split <;> rfl)
theorem tm_b : TM lp ∧ TM rp ∧ TM lb ∧ TM rb := ⟨tm_0 (by decide) rfl rfl, tm_0 (by decide) rfl rfl, tm_0 (by decide) rfl rfl, tm_0 (by decide) rfl rfl⟩
theorem tk_tm : ∀ e : Ex, allE e = true → rngE e = true → ∀ t ∈ tkE e, TM t := by
  have hop : ∀ {e : Ex}, (∀ t ∈ tkE e, TM t) → ∀ t ∈ opT e, TM t := fun {e} h t ht => by
    unfold opT par at ht
    split at ht
    · simp only [List.mem_cons, List.mem_append, List.not_mem_nil, or_false] at ht
      rcases ht with rfl | ht | rfl
      · exact tm_b.1
      · exact h t ht
      · exact tm_b.2.1
    · exact h t ht
  refine Ex.ind fun e ih ha hr => ?_
  rcases own_ways (all_own ha) with ⟨n, rfl⟩ | ⟨n, h0, h1, rfl⟩ | ⟨n, hn, rfl⟩ | ⟨s, hs, rfl⟩ | ⟨s, y, hs, rfl⟩ | ⟨o, y, h1, h2, rfl⟩ | ⟨o, a, b, h1, h2, rfl⟩ | ⟨t, y, ht, rfl⟩ | ⟨s, hs, rfl⟩
  · rw [tk_1]; intro x hx; rw [List.mem_singleton.1 hx]
    rw [rngE] at hr; simp only [Bool.and_eq_true, decide_eq_true_eq] at hr
    exact ⟨may_nb n, rfl, hr.1, hr.2.1⟩
  · rw [tk_2]; intro x hx; rw [List.mem_singleton.1 hx]
    exact ⟨may_by h0 h1, rfl, show -2147483648 ≤ n by omega, show n ≤ 2147483647 by omega⟩
  · rw [tk_3]; intro x hx; rw [List.mem_singleton.1 hx]
    exact tm_0 (by rcases hn with rfl | rfl <;> decide) rfl rfl
  · rw [tk_4]; intro x hx; rw [List.mem_singleton.1 hx]
    exact tm_0 (may_nm hs) rfl rfl
  · rw [tk_5]; intro x hx
    simp only [List.mem_cons, List.mem_append, List.not_mem_nil, or_false] at hx
    rcases hx with rfl | rfl | hx | rfl
    · exact tm_0 (may_nm hs) rfl rfl
    · exact tm_b.2.2.1
    · exact ih y (List.mem_singleton.2 rfl) (all_1 ha) (rng_1 hr) x hx
    · exact tm_b.2.2.2
  · rw [tk_6]; intro x hx
    rcases List.mem_cons.1 hx with rfl | hx
    · exact tm_mk (by omega) h2
    · exact hop (ih y (List.mem_singleton.2 rfl) (all_1 ha) (rng_1 hr)) x hx
  · rw [tk_7]; intro x hx
    rcases List.mem_append.1 hx with hx | hx
    · exact hop (ih a (by show a ∈ [a, b]; simp) (all_2 ha).1 (rng_2 hr).1) x hx
    · rcases List.mem_cons.1 hx with rfl | hx
      · exact tm_mk h1 (by omega)
      · exact hop (ih b (by show b ∈ [a, b]; simp) (all_2 ha).2 (rng_2 hr).2) x hx
  · rw [tk_8]; intro x hx
    rcases List.mem_cons.1 hx with rfl | hx
    · exact tm_0 (type_wd ht).2.2.1 rfl rfl
    · exact hop (ih y (List.mem_singleton.2 rfl) (all_1 ha) (rng_1 hr)) x hx
  · rw [tk_9]; intro x hx
    simp only [List.mem_cons, List.not_mem_nil, or_false] at hx
    rcases hx with rfl | rfl
    · exact tm_0 (by decide) rfl rfl
    · exact tm_0 (may_nm hs) rfl rfl
theorem tk_pos {e : Ex} (h : allE e = true) : 0 < (tkE e).length := by
  rcases own_ways (all_own h) with ⟨n, rfl⟩ | ⟨n, h0, h1, rfl⟩ | ⟨n, hn, rfl⟩ | ⟨s, hs, rfl⟩ | ⟨s, y, hs, rfl⟩ | ⟨o, y, h1, h2, rfl⟩ | ⟨o, a, b, h1, h2, rfl⟩ | ⟨t, y, ht, rfl⟩ | ⟨s, hs, rfl⟩
  · rw [tk_1]; simp
  · rw [tk_2]; simp
  · rw [tk_3]; simp
  · rw [tk_4]; simp
  · rw [tk_5]; simp
  · rw [tk_6]; simp
  · rw [tk_7]; simp; omega
  · rw [tk_8]; simp
  · rw [tk_9]; simp
theorem at_put {l m : List Tk} (hk : kern m = kern l) (hm : ∀ t ∈ m, may t = true) (hl : ∀ t ∈ l, may t = true) : atB m = atB l := by
  funext i
  have hlen : m.length = l.length := by have := congrArg List.length hk; simpa [kern] using this
  by_cases h : i < l.length
  · have e1 : m.getD i z0 = m[i] := by simp [show i < m.length by omega]
    have e2 : l.getD i z0 = l[i] := by simp [h]
    unfold atB
    rw [e1, e2, if_pos (hm _ (List.getElem_mem _)), if_pos (hl _ (List.getElem_mem _))]
    have h1 : (kern m)[i]? = (kern l)[i]? := by rw [hk]
    simp only [kern, List.getElem?_map, List.getElem?_eq_getElem h, List.getElem?_eq_getElem (show i < m.length by omega), Option.map_some, Option.some.injEq, Prod.mk.injEq] at h1
    unfold base
    rw [h1.1, h1.2.1, h1.2.2]
  · rw [at_end (by omega), at_end (by omega)]
/-! ### Places alone -/
theorem tkN_at {l m : List Tk} (h : atB m = atB l) : ∀ d, tkN m d = tkN l d
  | 0 => by unfold tkN; funext i; unfold takesF namedF; rw [h]
  | d + 1 => by
    unfold tkN
    rw [tkN_at h d]
    funext i
    have hr : readsF (tkN l d) m = readsF (tkN l d) l := by
      funext i
      unfold readsF pairF
      rw [h]
    rw [hr]
    unfold takesF namedF
    rw [h]
theorem front_at {l m : List Tk} (h : atB m = atB l) : frontX m = frontX l := by
  unfold frontX rdN
  rw [tkN_at h 32]
  have hr : readsF (tkN l 32) m = readsF (tkN l 32) l := by
    funext i
    unfold readsF pairF
    rw [h]
  rw [hr]
/-- Less than was read: something else. -/
theorem front_less {l : List Tk} {n k : Nat} {x : Ex} (hn : 1 ≤ n) (h : frontX (l.take (n - 1)) = (x, k, 0)) : k < n := by
  rcases front_ways (l.take (n - 1)) with ⟨y, q, h1, h2, h3⟩ | ⟨e, h1, h2⟩
  · rw [h1] at h
    have hq : q = k := congrArg (fun p : Ex × Nat × Int => p.2.1) h
    have := (front_again h2 h3).2.1
    rw [List.length_take] at this
    omega
  · rw [h1] at h
    have h4 : e = 0 := congrArg (fun p : Ex × Nat × Int => p.2.2) h
    omega
end Go.Proofs.YtplcmcealeeppaaGreatDoor.L10
