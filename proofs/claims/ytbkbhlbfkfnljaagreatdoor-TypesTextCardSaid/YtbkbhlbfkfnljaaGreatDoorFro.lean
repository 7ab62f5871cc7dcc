/- The types that the reference's Front tries. Plain Lean. -/
import Derived.Test.YtbkbhlbfkfnljaaGreatDoorVar
set_option linter.unusedVariables false
set_option linter.unusedSimpArgs false
set_option linter.unusedVariables false
set_option linter.unusedSimpArgs false
namespace Go.Proofs.YtbkbhlbfkfnljaaGreatDoor
open Go L8 L9

def dimOf (l : List Tk) : Int := if 1 < l.length ∧ (l.getD 0 r0).tx = [91] ∧ 1 ≤ (l.getD 1 r0).n ∧ (l.getD 1 r0).n ≤ 64 then (l.getD 1 r0).n else 0
theorem dimOf_rng (l : List Tk) : 0 ≤ dimOf l ∧ dimOf l ≤ 64 := by unfold dimOf; split <;> omega
def protOf (l : List Tk) (i : Nat) : Bs := if i < l.length ∧ (l.getD i r0).k = 1 then (l.getD i r0).tx else []
def cand (l : List Tk) (k it i : Nat) : Ty := ⟨k, dimOf l, it, protOf l i⟩
def hit (l : List Tk) (k it i : Nat) : Bool := mayT (cand l k it i) && pre (tokT (cand l k it i)) l
theorem hit_front {l : List Tk} {k it i : Nat} (h : hit l k it i = true) : front l = some (cand l k it i) := by
  unfold hit at h
  rw [Bool.and_eq_true] at h
  exact front_of h.1 h.2
theorem core_tx {t : Ty} {x : Tk} {xs : List Tk} (h : mayT t = true) (hp : pre (coreT t) (x :: xs) = true) : x.k = 2 ∧ x.tx ≠ [91] := by
  have key : ∀ s, (∃ y ys, x :: xs = y :: ys ∧ isT y (kw s) = true ∧ True) → s ≠ [91] → x.k = 2 ∧ x.tx ≠ [91] := by
    rintro s ⟨y, ys, e, h2, _⟩ hs
    injection e with e1 _
    subst e1
    obtain ⟨g1, g2, _⟩ := (isT_iff _ _).1 h2
    exact ⟨g1, by rw [g2]; exact hs⟩
  obtain ⟨_, hw⟩ := may_ways h
  rcases hw with ⟨h1, e⟩ | ⟨h1, e⟩ | ⟨h1, e⟩ | rfl
  · rw [e] at hp
    have hc : coreT ⟨t.k, t.d, 0, []⟩ = [kw (wd t.k)] := by unfold coreT; dsimp only; rcases (prim_iff t.k).1 h1 with h | h | h <;> rw [h] <;> rfl
    rw [hc] at hp
    obtain ⟨y, ys, e1, h2, _⟩ := (pre_cons _ _ _).1 hp
    refine key (wd t.k) ⟨y, ys, e1, h2, trivial⟩ ?_
    rcases (prim_iff t.k).1 h1 with h | h | h <;> rw [h] <;> decide
  · rw [e] at hp
    obtain ⟨y, ys, e1, h2, _⟩ := (pre_cons _ _ _).1 hp
    exact key wChan ⟨y, ys, e1, h2, trivial⟩ (by decide)
  · rw [e] at hp
    obtain ⟨y, ys, e1, h2, _⟩ := (pre_cons (kw wChan) _ _).1 hp
    exact key wChan ⟨y, ys, e1, h2, trivial⟩ (by decide)
  · obtain ⟨y, ys, e1, h2, _⟩ := (pre_cons _ _ _).1 hp
    exact key wTimer ⟨y, ys, e1, h2, trivial⟩ (by decide)
/-- The dimension is the one that is tried; what lies behind it. -/
theorem front_parts {l : List Tk} {t : Ty} (h1 : mayT t = true) (h2 : pre (tokT t) l = true) : dimOf l = t.d ∧ (l.getD 0 r0).k ≠ 1 ∧ ∃ n r, (n = 0 ∨ n = 3) ∧ l.drop n = r ∧ n + r.length = l.length ∧ pre (coreT t) r = true := by
  obtain ⟨hd, _⟩ := may_ways h1
  unfold tokT at h2
  by_cases h0 : 0 < t.d
  · rw [dim_pos h0] at h2
    obtain ⟨a, r, rfl, g1, h2⟩ := (pre_cons _ _ _).1 h2
    obtain ⟨n, r, rfl, g2, h2⟩ := (pre_cons _ _ _).1 h2
    obtain ⟨b, r, rfl, g3, h2⟩ := (pre_cons _ _ _).1 h2
    have hn : n.n = t.d := ((isT_iff _ _).1 g2).2.2
    have ha : a.tx = [91] := ((isT_iff _ _).1 g1).2.1
    have hk : a.k = 5 := ((isT_iff _ _).1 g1).1
    refine ⟨?_, ?_, 3, r, .inr rfl, rfl, by simp; omega, h2⟩
    · unfold dimOf
      rw [if_pos ⟨by simp, ha, by show 1 ≤ n.n; omega, by show n.n ≤ 64; omega⟩]
      exact hn
    · show a.k ≠ 1; omega
  · rw [dim_zero h0] at h2
    have hne : l ≠ [] := by
      rintro rfl
      have : coreT t ≠ [] := by unfold coreT; split <;> (try split) <;> simp
      cases hc : coreT t with
      | nil => exact this hc
      | cons y ys => rw [List.nil_append, hc] at h2; cases h2
    obtain ⟨x, xs, rfl⟩ := List.exists_cons_of_ne_nil hne
    obtain ⟨g1, g2⟩ := core_tx h1 h2
    refine ⟨?_, ?_, 0, x :: xs, .inl rfl, rfl, by simp, h2⟩
    · unfold dimOf
      rw [if_neg (fun h => g2 h.2.1)]
      omega
    · show x.k ≠ 1; omega
/-- A type with which the list begins is among those that are tried. -/
theorem front_hit {l : List Tk} {t : Ty} (h : front l = some t) : 1 ≤ t.k ∧ t.k ≤ 5 ∧ t.i ≤ 3 ∧ ∃ i, i ≤ l.length ∧ i < 7 ∧ cand l t.k t.i i = t := by
  obtain ⟨h1, h2⟩ := front_some h
  obtain ⟨hdim, hk0, n, r, hn, hdr, hlen, hp⟩ := front_parts h1 h2
  have hnop : t.p = [] → cand l t.k t.i 0 = t := fun e => by
    unfold cand protOf
    rw [if_neg (fun g => hk0 g.2), hdim]
    obtain ⟨k, d, i, p⟩ := t
    simp only at e
    subst e
    rfl
  obtain ⟨hd, hw⟩ := may_ways h1
  rcases hw with ⟨g1, e⟩ | ⟨g1, e⟩ | ⟨g1, e⟩ | rfl
  · have hp0 : t.p = [] := by rw [e]
    have hi0 : t.i = 0 := by rw [e]
    have := (prim_iff t.k).1 g1
    exact ⟨by omega, by omega, by omega, 0, by omega, by omega, hnop hp0⟩
  · have hp0 : t.p = [] := by rw [e]
    have hk4 : t.k = 4 := by rw [e]
    have := (prim_iff t.i).1 g1
    exact ⟨by omega, by omega, by omega, 0, by omega, by omega, hnop hp0⟩
  · have hk4 : t.k = 4 := by rw [e]
    have hi0 : t.i = 0 := by rw [e]
    have hc : coreT t = [kw wChan, kw wOf, nm t.p] := by rw [e]; unfold coreT; dsimp only; rw [if_neg (name_ne g1)]; rfl
    rw [hc] at hp
    obtain ⟨x, xs, rfl, _, hp⟩ := (pre_cons _ _ _).1 hp
    obtain ⟨y, ys, rfl, _, hp⟩ := (pre_cons _ _ _).1 hp
    obtain ⟨z, zs, rfl, g4, hp⟩ := (pre_cons _ _ _).1 hp
    obtain ⟨q1, q2, _⟩ := (isT_iff _ _).1 g4
    have hz : l.getD (n + 2) r0 = z := by
      have : (l.drop n)[2]? = some z := by rw [hdr]; rfl
      rw [List.getElem?_drop] at this
      rw [List.getD_eq_getElem?_getD, this]
      rfl
    simp only [List.length_cons] at hlen
    refine ⟨by omega, by omega, by omega, n + 2, by omega, by omega, ?_⟩
    unfold cand protOf
    have hz1 : z.k = 1 := q1
    have hz2 : z.tx = t.p := q2
    rw [hz, if_pos ⟨by omega, hz1⟩, hdim, hz2]
  · exact ⟨by decide, by decide, by decide, 0, by omega, by omega, hnop rfl⟩
theorem front_none {l : List Tk} (h : ∀ k it i, 1 ≤ k → k ≤ 5 → it ≤ 3 → i ≤ l.length → i < 7 → hit l k it i = false) : front l = none := by
  cases hf : front l with
  | none => rfl
  | some t =>
    obtain ⟨h1, h2, h3, i, h4, h5, h6⟩ := front_hit hf
    have := h t.k t.i i h1 h2 h3 h4 h5
    obtain ⟨g1, g2⟩ := front_some hf
    unfold hit at this
    rw [h6, g1, g2] at this
    cases this
/-- What Front returns. -/
def frontR (l : List Tk) : Ty × Nat × Int := match front l with
  | some t => (t, (tokT t).length, 0)
  | none => (t0, 0, 90)
theorem frontR_hit {l : List Tk} {k it i : Nat} (h : hit l k it i = true) : frontR l = (cand l k it i, (tokT (cand l k it i)).length, 0) := by
  unfold frontR; rw [hit_front h]
theorem frontR_none {l : List Tk} (h : ∀ k it i, 1 ≤ k → k ≤ 5 → it ≤ 3 → i ≤ l.length → i < 7 → hit l k it i = false) : frontR l = (t0, 0, 90) := by
  unfold frontR; rw [front_none h]
end Go.Proofs.YtbkbhlbfkfnljaaGreatDoor
