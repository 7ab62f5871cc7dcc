/- Stores in memory: what can be read. -/
import Derived.Lib.LaidTab
import Derived.Stop.LaidErr
import Derived.OpenShut
import Derived.BigGuard
import Derived.Laws.EntriesVeiled
import Derived.Test.YtblckajejohlbaaDoorM01
import Derived.Test.YtblckajejohlbaaDoorM02
import Derived.Test.YtblckajejohlbaaDoorM03
set_option linter.unusedVariables false
set_option linter.unusedSimpArgs false
set_option linter.unusedVariables false
set_option linter.unusedSimpArgs false
namespace Go.Proofs.YtblckajejohlbaaDoor
open Go Go.RowKit L8 L22 L17
open L14 (inW)

/-- A slice of words that can be read. -/
structure WoR (w : World) (A : Option Addr) (c : Nat) (l : List Int) : Prop where
  le : l.length ≤ c
  mx : c ≤ maxLen
  rd : ∀ j, j < l.length → ∃ a, A = some a ∧ w.cell? (a.add j) = some (.int .i32 (l.getD j 0))
  wd : ∀ x ∈ l, inW x
theorem WoR.keep {w w' : World} {A : Option Addr} {c : Nat} {l : List Int} (h : WoR w A c l) (b : Below w.heap.size w w') : WoR w' A c l :=
  ⟨h.le, h.mx, fun j hj => by obtain ⟨a, e, hc⟩ := h.rd j hj; exact ⟨a, e, (b.cell (g_lt hc)).trans hc⟩, h.wd⟩
theorem WoR.nil (w : World) : WoR w none 0 [] := ⟨Nat.le_refl _, by simp [maxLen], fun j hj => absurd hj (by simp), fun x hx => by cases hx⟩
theorem getD_in {l : List Int} {j : Nat} (h : j < l.length) : l.getD j 0 ∈ l := by rw [List.getD_eq_getElem?_getD, List.getElem?_eq_getElem h]; exact List.getElem_mem h
theorem WoR.w {w : World} {A : Option Addr} {c : Nat} {l : List Int} (h : WoR w A c l) {j : Nat} (hj : j < l.length) : inW (l.getD j 0) := h.wd _ (getD_in hj)
/-- A slice of slices of words that can be read. -/
structure StR (w : World) (A : Option Addr) (c : Nat) (s : St) : Prop where
  le : s.length ≤ c
  mx : c ≤ maxLen
  rd : ∀ j, j < s.length → ∃ a, A = some a ∧ ∃ B n d, (s.getD j []).length = n ∧ w.cell? (a.add j) = some (.slice B n d) ∧ WoR w B d (s.getD j [])
theorem StR.keep {w w' : World} {A : Option Addr} {c : Nat} {s : St} (h : StR w A c s) (b : Below w.heap.size w w') : StR w' A c s :=
  ⟨h.le, h.mx, fun j hj => by obtain ⟨a, e, B, n, d, hn, hc, hw⟩ := h.rd j hj; exact ⟨a, e, B, n, d, hn, (b.cell (g_lt hc)).trans hc, hw.keep b⟩⟩
theorem StR.nil (w : World) : StR w none 0 [] := ⟨Nat.le_refl _, by simp [maxLen], fun j hj => absurd hj (by simp)⟩
theorem StR.w {w : World} {A : Option Addr} {c : Nat} {s : St} (h : StR w A c s) : stW s := fun l hl x hx => by
  obtain ⟨j, hj, rfl⟩ := List.getElem_of_mem hl
  obtain ⟨a, e, B, n, d, hn, hc, hw⟩ := h.rd j hj
  have e2 : s.getD j [] = s[j] := by simp [hj]
  rw [e2] at hw
  exact hw.wd x hx
theorem StR.sz {w : World} {A : Option Addr} {c : Nat} {s : St} (h : StR w A c s) {n : Nat} (hn : s.length = n) : (n : Int) ≤ 9223372036854775807 := by
  have := h.le
  have := h.mx
  unfold maxLen at this
  omega
end Go.Proofs.YtblckajejohlbaaDoor
/- Trees of one or two parts, in memory. -/
set_option linter.unusedVariables false
set_option linter.unusedSimpArgs false
namespace Go.Proofs.YtblckajejohlbaaDoor
open Go Go.RowKit L8 L22 L17

theorem KrR.first {w : World} {A : Option Addr} {c : Nat} {l : List Kx} (h : KrR w A c l) (hl : 0 < l.length) : ∃ ad, A = some ad ∧ ∃ B n d, (l.getD 0 k0).l.length = n ∧ OKk (l.getD 0 k0) ∧ KrR w B d (l.getD 0 k0).l ∧
    w.cell? ad = some (.int .u8 ((l.getD 0 k0).k : Int)) ∧ w.cell? ⟨ad.block, ad.off + 1, none⟩ = some (.int .u8 ((l.getD 0 k0).o : Int)) ∧ w.cell? ⟨ad.block, ad.off + 2, none⟩ = some (.int .u8 ((l.getD 0 k0).t : Int)) ∧ w.cell? ⟨ad.block, ad.off + 3, none⟩ = some (.int .i32 (l.getD 0 k0).n)
      ∧ w.cell? ⟨ad.block, ad.off + 4, none⟩ = some (.int .i64 (l.getD 0 k0).v) ∧ w.cell? ⟨ad.block, ad.off + 5, none⟩ = some (.slice B n d) := by
  obtain ⟨ad, e1, B, n, d, hn, ok, R, h0, h1, h2, h3, h4, h5⟩ := h.at (j := 0) hl
  rw [Nat.zero_mul, show ad.add 0 = ad from rfl] at h0 h1 h2 h3 h4 h5
  exact ⟨ad, e1, B, n, d, hn, ok, R, h0, h1, h2, h3, h4, h5⟩
/-- The second part. -/
theorem KrR.second {w : World} {A : Option Addr} {c : Nat} {l : List Kx} (h : KrR w A c l) (hl : 1 < l.length) : ∃ ad, A = some ad ∧ ∃ B n d, (l.getD 1 k0).l.length = n ∧ OKk (l.getD 1 k0) ∧ KrR w B d (l.getD 1 k0).l ∧
    w.cell? (ad.add 6) = some (.int .u8 ((l.getD 1 k0).k : Int)) ∧ w.cell? ⟨(ad.add 6).block, (ad.add 6).off + 1, none⟩ = some (.int .u8 ((l.getD 1 k0).o : Int)) ∧ w.cell? ⟨(ad.add 6).block, (ad.add 6).off + 2, none⟩ = some (.int .u8 ((l.getD 1 k0).t : Int)) ∧ w.cell? ⟨(ad.add 6).block, (ad.add 6).off + 3, none⟩ = some (.int .i32 (l.getD 1 k0).n)
      ∧ w.cell? ⟨(ad.add 6).block, (ad.add 6).off + 4, none⟩ = some (.int .i64 (l.getD 1 k0).v) ∧ w.cell? ⟨(ad.add 6).block, (ad.add 6).off + 5, none⟩ = some (.slice B n d) := by
  obtain ⟨ad, e1, B, n, d, hn, ok, R, h0, h1, h2, h3, h4, h5⟩ := h.at (j := 1) hl
  rw [Nat.one_mul] at h0 h1 h2 h3 h4 h5
  exact ⟨ad, e1, B, n, d, hn, ok, R, h0, h1, h2, h3, h4, h5⟩
theorem KrR.sec {w : World} {ad : Addr} {c : Nat} {l : List Kx} {a b : Kx} (h : KrR w (some ad) c l) (hl : l = [a, b]) : ∃ B n d, b.l.length = n ∧ OKk b ∧ KrR w B d b.l ∧
    w.cell? ⟨ad.block, ad.off + 6, none⟩ = some (.int .u8 (b.k : Int)) ∧ w.cell? ⟨ad.block, ad.off + 6 + 1, none⟩ = some (.int .u8 (b.o : Int)) ∧ w.cell? ⟨ad.block, ad.off + 6 + 2, none⟩ = some (.int .u8 (b.t : Int)) ∧ w.cell? ⟨ad.block, ad.off + 6 + 3, none⟩ = some (.int .i32 b.n)
      ∧ w.cell? ⟨ad.block, ad.off + 6 + 4, none⟩ = some (.int .i64 b.v) ∧ w.cell? ⟨ad.block, ad.off + 6 + 5, none⟩ = some (.slice B n d) := by
  subst hl
  obtain ⟨ad', e1, B, n, d, hn, ok, R, h0, h1, h2, h3, h4, h5⟩ := h.second (by simp)
  obtain rfl := Option.some.inj e1
  rw [show ad.add 6 = ⟨ad.block, ad.off + 6, none⟩ from rfl] at h0 h1 h2 h3 h4 h5
  exact ⟨B, n, d, hn, ok, R, h0, h1, h2, h3, h4, h5⟩
/-- The first part, where the row is known. -/
theorem KrR.fst {w : World} {ad : Addr} {c : Nat} {l r : List Kx} {a : Kx} (h : KrR w (some ad) c l) (hl : l = a :: r) : ∃ B n d, a.l.length = n ∧ OKk a ∧ KrR w B d a.l ∧
    w.cell? ad = some (.int .u8 (a.k : Int)) ∧ w.cell? ⟨ad.block, ad.off + 1, none⟩ = some (.int .u8 (a.o : Int)) ∧ w.cell? ⟨ad.block, ad.off + 2, none⟩ = some (.int .u8 (a.t : Int)) ∧ w.cell? ⟨ad.block, ad.off + 3, none⟩ = some (.int .i32 a.n)
      ∧ w.cell? ⟨ad.block, ad.off + 4, none⟩ = some (.int .i64 a.v) ∧ w.cell? ⟨ad.block, ad.off + 5, none⟩ = some (.slice B n d) := by
  subst hl
  obtain ⟨ad', e1, B, n, d, hn, ok, R, h0, h1, h2, h3, h4, h5⟩ := h.first (by simp)
  obtain rfl := Option.some.inj e1
  exact ⟨B, n, d, hn, ok, R, h0, h1, h2, h3, h4, h5⟩
theorem KrR.some_of {w : World} {A : Option Addr} {c : Nat} {l r : List Kx} {a : Kx} (h : KrR w A c l) (hl : l = a :: r) : ∃ ad, A = some ad := by
  subst hl
  obtain ⟨ad, e, _⟩ := h.first (by simp)
  exact ⟨ad, e⟩

theorem KrR.okp {w : World} {A : Option Addr} {c : Nat} {l : List Kx} (h : KrR w A c l) {x : Kx} (hx : x ∈ l) : OKk x := by
  obtain ⟨j, hj, rfl⟩ := List.getElem_of_mem hx
  obtain ⟨_, _, _, _, _, _, o, _⟩ := h.at hj
  simpa [hj] using o
theorem KrR.wn {w : World} {A : Option Addr} {c : Nat} {l : List Kx} (h : KrR w A c l) : wnK l := by
  induction h with
  | mk As cs le mx ok row sub ih =>
    refine wn_all fun x hx => ?_
    obtain ⟨j, hj, rfl⟩ := List.getElem_of_mem hx
    have o := ok j hj
    have i := ih j hj
    rw [List.getD_eq_getElem?_getD, List.getElem?_eq_getElem hj] at o i
    rw [wnX_eq]
    exact ⟨⟨o.2.2.2.1, o.2.2.2.2.1⟩, i⟩
/-- What is known on the way through a tree, beside a store. -/
structure VS (w X : World) (e : Kx) (A : Option Addr) (n c : Nat) (s : St) (S : Option Addr) (sc : Nat) : Prop where
  ks : KS w X e A n c
  st : StR X S sc s
theorem VS.new {w : World} {e : Kx} {A : Option Addr} {n c : Nat} {s : St} {S : Option Addr} {sc : Nat} (R : KrR w A c e.l) (T : StR w S sc s) : VS w (w.alloc (.cells (kxC e A n c) 45)) e A n c s S sc := ⟨KS.new R, T.keep (bal (b0 w) _)⟩
theorem VS.step {w X Y : World} {e : Kx} {A : Option Addr} {n c : Nat} {s : St} {S : Option Addr} {sc : Nat} (h : VS w X e A n c s S sc) (b : Below X.heap.size X Y) : VS w Y e A n c s S sc := ⟨h.ks.step b, h.st.keep b⟩
theorem VS.bel {w X : World} {e : Kx} {A : Option Addr} {n c : Nat} {s : St} {S : Option Addr} {sc : Nat} (h : VS w X e A n c s S sc) : Below w.heap.size w X := h.ks.bel
theorem VS.tr {w X : World} {e : Kx} {A : Option Addr} {n c : Nat} {s : St} {S : Option Addr} {sc : Nat} (h : VS w X e A n c s S sc) : KrR X A c e.l := h.ks.tr
theorem VS.box {w X : World} {e : Kx} {A : Option Addr} {n c : Nat} {s : St} {S : Option Addr} {sc : Nat} (h : VS w X e A n c s S sc) : X.cell? ⟨w.heap.size, 0, none⟩ = some (.int .u8 (e.k : Int)) ∧ X.cell? ⟨w.heap.size, 1, none⟩ = some (.int .u8 (e.o : Int)) ∧ X.cell? ⟨w.heap.size, 2, none⟩ = some (.int .u8 (e.t : Int)) ∧ X.cell? ⟨w.heap.size, 3, none⟩ = some (.int .i32 e.n) ∧ X.cell? ⟨w.heap.size, 4, none⟩ = some (.int .i64 e.v) ∧ X.cell? ⟨w.heap.size, 5, none⟩ = some (.slice A n c) := h.ks.box
end Go.Proofs.YtblckajejohlbaaDoor
/- The program: elements of a store. -/
set_option linter.unusedVariables false
set_option linter.unusedSimpArgs false
namespace Go.Proofs.YtblckajejohlbaaDoor
open Go Go.RowKit L8 L22 L17
open L14 (apO conO inW isT)

theorem nat_eqK (a b : Nat) : ((a : Int) == (b : Int)) = decide (a = b) := by by_cases h : a = b <;> simp [h]; omega
theorem int_eqK (a b : Int) : (a == b) = decide (a = b) := by by_cases h : a = b <;> simp [h]

set_option maxRecDepth 100000 in
set_option maxHeartbeats 4000000 in
theorem Has_any (s : St) (A : Option Addr) (n c : Nat) (v i : Int) (w : World) (R : StR w A c s) (hn : s.length = n) : Calls Tryd.prog 50 #[.slice A n c, .int .i64 v, .int .i64 i] w fun en w' => en = .returned (.bool (hasS s v i)) ∧ w = w' := by
  have hsz := R.sz hn
  by_cases h1 : v < 0
  · have e : hasS s v i = false := by unfold hasS; exact decide_eq_false (by omega)
    have q1 : decide ((0 : Int) ≤ v) = false := decide_eq_false (by omega)
    rw [e]
    clear h1 e R
    go_enter Tryd.func50, Tryd.ntmps50
    go_wp2
    go_ret
    exact ⟨rfl, rfl⟩
  have q1 : decide ((0 : Int) ≤ v) = true := decide_eq_true (by omega)
  by_cases h2 : (n : Int) ≤ v
  · have e : hasS s v i = false := by unfold hasS; exact decide_eq_false (by omega)
    have q2 : decide (v < (n : Int)) = false := decide_eq_false (by omega)
    rw [e]
    clear h1 h2 e R
    go_enter Tryd.func50, Tryd.ntmps50
    go_wp2
    go_ret
    exact ⟨rfl, rfl⟩
  have q2 : decide (v < (n : Int)) = true := decide_eq_true (by omega)
  by_cases h3 : i < 0
  · have e : hasS s v i = false := by unfold hasS; exact decide_eq_false (by omega)
    have q3 : decide ((0 : Int) ≤ i) = false := decide_eq_false (by omega)
    rw [e]
    clear h1 h2 h3 e R
    go_enter Tryd.func50, Tryd.ntmps50
    go_wp2
    go_ret
    exact ⟨rfl, rfl⟩
  have q3 : decide ((0 : Int) ≤ i) = true := decide_eq_true (by omega)
  obtain ⟨k, rfl⟩ : ∃ k : Nat, v = (k : Int) := ⟨v.toNat, by omega⟩
  obtain ⟨a, rfl, B, m, d, hm, hc, hw⟩ := R.rd k (by omega)
  have e : hasS s (k : Int) i = decide (i < (m : Int)) := by
    unfold hasS
    rw [Int.toNat_natCast, hm]
    exact decide_eq_decide.2 (by omega)
  rw [e]
  clear R hw e
  go_enter Tryd.func50, Tryd.ntmps50
  go_wp2
  go_ret
  exact ⟨rfl, rfl⟩
set_option maxRecDepth 100000 in
set_option maxHeartbeats 4000000 in
theorem At_any (s : St) (A : Option Addr) (n c : Nat) (v i : Int) (w : World) (R : StR w A c s) (hn : s.length = n) : Calls Tryd.prog 66 #[.slice A n c, .int .i64 v, .int .i64 i] w fun en w' => en = .returned (apR (atS s v i)) ∧ w = w' := by
  have C := Has_any s A n c v i w R hn
  have hsz := R.sz hn
  rw [at_has]
  unfold apR
  cases h : hasS s v i with
  | false =>
    rw [h] at C
    have C := Lib.hid C
    clear R hn h
    go_enter Tryd.func66, Tryd.ntmps66
    go_wp2_with (go_at_call 50; (with_reducible refine (C.out).mono ?_); rintro e w' ⟨rfl, rfl⟩)
    go_ret2
    exact ⟨rfl, rfl⟩
  | true =>
    rw [h] at C
    have C := Lib.hid C
    have hc : 0 ≤ v ∧ v < (s.length : Int) ∧ 0 ≤ i ∧ i < ((s.getD v.toNat []).length : Int) := by unfold hasS at h; exact of_decide_eq_true h
    obtain ⟨h1, h2, h3, h4⟩ := hc
    rw [hn] at h2
    obtain ⟨k, rfl⟩ : ∃ k : Nat, v = (k : Int) := ⟨v.toNat, by omega⟩
    obtain ⟨j, rfl⟩ : ∃ j : Nat, i = (j : Int) := ⟨i.toNat, by omega⟩
    rw [Int.toNat_natCast] at h4
    obtain ⟨a, rfl, B, m, d, hm, hc, hw⟩ := R.rd k (by omega)
    rw [hm] at h4
    obtain ⟨b, rfl, hb⟩ := hw.rd j (by omega)
    have hms : (m : Int) ≤ 9223372036854775807 := by
      have := hw.le
      have := hw.mx
      unfold maxLen at this
      omega
    rw [if_pos rfl, Int.toNat_natCast, Int.toNat_natCast]
    generalize (s.getD k []).getD j 0 = x at *
    clear R hn h hw hm
    go_enter Tryd.func66, Tryd.ntmps66
    go_wp2_with (go_at_call 50; (with_reducible refine (C.out).mono ?_); rintro e w' ⟨rfl, rfl⟩)
    go_ret2
    exact ⟨rfl, rfl⟩
theorem Decides_any (o : Nat) (a : Int) (ho : o < 256) (w : World) : Calls Tryd.prog 84 #[.int .u8 (o : Int), .int .i32 a] w fun en w' => en = .returned (.bool (decO o a)) ∧ w = w' := by
  have q0 : ((o : Int) == 20) = decide (o = 20) := nat_eqK _ 20
  have q1 : ((o : Int) == 21) = decide (o = 21) := nat_eqK _ 21
  have q2 : (a == 0) = decide (a = 0) := int_eqK _ 0
  have q3 : (a == 1) = decide (a = 1) := int_eqK _ 1
  unfold decO
  generalize decide (o = 20) = b0 at *
  generalize decide (o = 21) = b1 at *
  generalize decide (a = 0) = b2 at *
  generalize decide (a = 1) = b3 at *
  go_enter Tryd.func84, Tryd.ntmps84
  cases b0 <;> cases b1 <;> cases b2 <;> cases b3 <;> (go_wp2; go_ret; exact ⟨rfl, rfl⟩)
theorem Fits_any (k : Nat) (x : Int) (hk : 1 ≤ k ∧ k ≤ 3) (w : World) : Calls Tryd.prog 62 #[.int .u8 (k : Int), .int .i32 x] w fun en w' => en = .returned (.bool (fitV k x)) ∧ w = w' := by
  obtain ⟨b, hb⟩ : ∃ b, fitV k x = b := ⟨_, rfl⟩
  rw [hb]
  unfold fitV conO at hb
  have : k = 1 ∨ k = 2 ∨ k = 3 := by omega
  rcases this with rfl | rfl | rfl
  · have e : b = true := by rw [← hb, if_pos (.inl rfl)]; rfl
    subst e
    clear hb hk
    go_enter Tryd.func62, Tryd.ntmps62
    go_wp2
    go_ret
    exact ⟨rfl, rfl⟩
  · obtain ⟨p, hp⟩ : ∃ p, decide ((0 : Int) ≤ x) = p := ⟨_, rfl⟩
    obtain ⟨q, hq⟩ : ∃ q, decide (x ≤ (255 : Int)) = q := ⟨_, rfl⟩
    have e : b = (p && q) := by
      rw [← hb, ← hp, ← hq]
      by_cases h : 0 ≤ x ∧ x ≤ 255
      · rw [if_pos (by omega), decide_eq_true h.1, decide_eq_true h.2]; rfl
      · rw [if_neg (by omega)]
        by_cases h0 : 0 ≤ x
        · rw [decide_eq_false (show ¬ x ≤ 255 by omega), Bool.and_false]; rfl
        · rw [decide_eq_false h0]; rfl
    subst e
    clear hb hk
    go_enter Tryd.func62, Tryd.ntmps62
    cases p <;> cases q <;> (go_wp2; go_ret; exact ⟨rfl, rfl⟩)
  · obtain ⟨p, hp⟩ : ∃ p, decide ((0 : Int) ≤ x) = p := ⟨_, rfl⟩
    obtain ⟨q, hq⟩ : ∃ q, decide (x ≤ (1 : Int)) = q := ⟨_, rfl⟩
    have e : b = (p && q) := by
      rw [← hb, ← hp, ← hq]
      by_cases h : 0 ≤ x ∧ x ≤ 1
      · rw [if_pos (by omega), decide_eq_true h.1, decide_eq_true h.2]; rfl
      · rw [if_neg (by omega)]
        by_cases h0 : 0 ≤ x
        · rw [decide_eq_false (show ¬ x ≤ 1 by omega), Bool.and_false]; rfl
        · rw [decide_eq_false h0]; rfl
    subst e
    clear hb hk
    go_enter Tryd.func62, Tryd.ntmps62
    cases p <;> cases q <;> (go_wp2; go_ret; exact ⟨rfl, rfl⟩)
theorem Converted_any (k : Nat) (x : Int) (hk : 1 ≤ k ∧ k ≤ 3) (w : World) : Calls Tryd.prog 69 #[.int .u8 (k : Int), .int .i32 x] w fun en w' => en = .returned (apR (conO k x)) ∧ w = w' := by
  have C := Fits_any k x hk w
  have e : conO k x = if fitV k x = true then some x else none := by
    unfold fitV conO
    split <;> rfl
  rw [e]
  generalize fitV k x = p at *
  unfold apR
  have C := Lib.hid C
  clear hk e
  go_enter Tryd.func69, Tryd.ntmps69
  cases p <;> (go_wp2_with (go_at_call 62; (with_reducible refine (C.out).mono ?_); rintro e w' ⟨rfl, rfl⟩); go_ret2; exact ⟨rfl, rfl⟩)
end Go.Proofs.YtblckajejohlbaaDoor
/- The program: the value of an expression. -/
set_option linter.unusedVariables false
set_option linter.unusedSimpArgs false
namespace Go.Proofs.YtblckajejohlbaaDoor
open Go Go.RowKit L8 L22 L17
open L14 (apO conO inW isT)

set_option maxRecDepth 100000 in
set_option maxHeartbeats 4000000 in
theorem pv_1 (s : St) (S : Option Addr) (sn sc : Nat) (hs : s.length = sn) (e : Kx) (hk : e.k = 1) (A : Option Addr) (n c : Nat) (w : World) (R : KrR w A c e.l) (hn : e.l.length = n) (T : StR w S sc s) : Calls Tryd.prog 47 #[.slice S sn sc, kxV e A n c] w fun en w' => en = .returned (apR (some e.n)) ∧ Below w.heap.size w w' := by
  have q1 : ((e.k : Int) == 1) = true := by rw [hk]; rfl
  have HV := Lib.hid (VS.new (n := n) R T)
  have HB := Lib.hid HV.out.bel
  obtain ⟨p0, p1, p2, p3, p4, p5⟩ := HV.out.box
  clear R T HV hs hn hk
  unfold apR
  dsimp only [kxV, kxC] at *
  go_enter Tryd.func47, Tryd.ntmps47
  go_wp2
  go_ret2
  exact ⟨rfl, HB.out⟩
set_option maxRecDepth 100000 in
set_option maxHeartbeats 4000000 in
theorem pv_2 (s : St) (S : Option Addr) (sn sc : Nat) (hs : s.length = sn) (e : Kx) (hk : e.k = 2) (A : Option Addr) (n c : Nat) (w : World) (R : KrR w A c e.l) (hn : e.l.length = n) (T : StR w S sc s) : Calls Tryd.prog 47 #[.slice S sn sc, kxV e A n c] w fun en w' => en = .returned (apR (atS s e.v 0)) ∧ Below w.heap.size w w' := by
  have q1 : ((e.k : Int) == 1) = false := by rw [hk]; rfl
  have q2 : ((e.k : Int) == 2) = true := by rw [hk]; rfl
  have HV := Lib.hid (VS.new (n := n) R T)
  have HB := Lib.hid HV.out.bel
  obtain ⟨p0, p1, p2, p3, p4, p5⟩ := HV.out.box
  have CA := Lib.hid fun X (H : Hid (VS w X e A n c s S sc)) => At_any s S sn sc e.v 0 X H.out.st hs
  generalize atS s e.v 0 = y at *
  clear R T hs hn hk
  unfold apR at *
  dsimp only [kxV, kxC] at *
  go_enter Tryd.func47, Tryd.ntmps47
  go_wp2_with (go_at_call 66; (with_reducible refine (CA.out _ HV).mono ?_); rintro en w' ⟨rfl, rfl⟩)
  go_ret2
  exact ⟨rfl, HB.out⟩
set_option maxRecDepth 100000 in
set_option maxHeartbeats 4000000 in
theorem pv_none (s : St) (S : Option Addr) (sn sc : Nat) (hs : s.length = sn) (e : Kx) (a : Kx) (r : List Kx) (h : e.l = a :: r) (hk : e.k ≠ 1) (hk2 : e.k ≠ 2) (C0 : ∀ (B : Option Addr) (m d : Nat) (X : World), KrR X B d a.l → a.l.length = m → StR X S sc s → Calls Tryd.prog 47 #[.slice S sn sc, kxV a B m d] X fun en w' => en = .returned (apR none) ∧ Below X.heap.size X w') (A : Option Addr) (n c : Nat) (w : World) (R : KrR w A c e.l) (hn : e.l.length = n) (T : StR w S sc s) : Calls Tryd.prog 47 #[.slice S sn sc, kxV e A n c] w fun en w' => en = .returned (apR (none)) ∧ Below w.heap.size w w' := by
  have q1 : ((e.k : Int) == 1) = false := by simp; omega
  have q2 : ((e.k : Int) == 2) = false := by simp; omega
  have hsz : (n : Int) ≤ 9223372036854775807 := by have := R.le; have := R.mx; unfold maxLen at this; omega
  obtain ⟨ad, rfl⟩ := R.some_of h
  have HV := Lib.hid (VS.new (n := n) R T)
  have HB := Lib.hid HV.out.bel
  obtain ⟨p0, p1, p2, p3, p4, p5⟩ := HV.out.box
  have hn0 : (0 : Int) < (n : Int) := by rw [h, List.length_cons] at hn; omega
  obtain ⟨B, m, d, hm, oka, Ra, x0, x1, x2, x3, x4, x5⟩ := HV.out.tr.fst h
  have C := Lib.hid (C0 B m d _ Ra hm HV.out.st)
  have HP := Lib.hid fun X (H : Hid (VS w X e (some ad) n c s S sc)) => H.out.box
  clear R T Ra hm oka h hn C0
  clear hk hk2
  unfold apR at *
  clear hs
  dsimp only [kxV, kxC] at *
  go_enter Tryd.func47, Tryd.ntmps47
  go_wp2_with (go_at_call 47; (with_reducible refine (C.out).mono ?_); rintro en w2 ⟨rfl, b⟩; have H2 := Lib.hid (HV.out.step b); clear b; clear p0 p1 p2 p3 p4 p5; obtain ⟨p0, p1, p2, p3, p4, p5⟩ := HP.out _ H2)
  go_ret2
  exact ⟨rfl, H2.out.bel⟩
set_option maxRecDepth 100000 in
set_option maxHeartbeats 4000000 in
theorem pv_3 (s : St) (S : Option Addr) (sn sc : Nat) (hs : s.length = sn) (e : Kx) (a : Kx) (r : List Kx) (h : e.l = a :: r) (hk : e.k = 3) (x : Int) (hx : inW x) (C0 : ∀ (B : Option Addr) (m d : Nat) (X : World), KrR X B d a.l → a.l.length = m → StR X S sc s → Calls Tryd.prog 47 #[.slice S sn sc, kxV a B m d] X fun en w' => en = .returned (apR (some x)) ∧ Below X.heap.size X w') (A : Option Addr) (n c : Nat) (w : World) (R : KrR w A c e.l) (hn : e.l.length = n) (T : StR w S sc s) : Calls Tryd.prog 47 #[.slice S sn sc, kxV e A n c] w fun en w' => en = .returned (apR (atS s e.v x)) ∧ Below w.heap.size w w' := by
  have q1 : ((e.k : Int) == 1) = false := by rw [hk]; rfl
  have q2 : ((e.k : Int) == 2) = false := by rw [hk]; rfl
  have q3 : ((e.k : Int) == 3) = true := by rw [hk]; rfl
  have hsz : (n : Int) ≤ 9223372036854775807 := by have := R.le; have := R.mx; unfold maxLen at this; omega
  obtain ⟨ad, rfl⟩ := R.some_of h
  have HV := Lib.hid (VS.new (n := n) R T)
  have HB := Lib.hid HV.out.bel
  obtain ⟨p0, p1, p2, p3, p4, p5⟩ := HV.out.box
  have hn0 : (0 : Int) < (n : Int) := by rw [h, List.length_cons] at hn; omega
  obtain ⟨B, m, d, hm, oka, Ra, x0, x1, x2, x3, x4, x5⟩ := HV.out.tr.fst h
  have C := Lib.hid (C0 B m d _ Ra hm HV.out.st)
  have HP := Lib.hid fun X (H : Hid (VS w X e (some ad) n c s S sc)) => H.out.box
  have CA := Lib.hid fun X (H : Hid (VS w X e (some ad) n c s S sc)) => At_any s S sn sc e.v x X H.out.st hs
  clear R T Ra hm oka h hn C0
  clear hk hs
  obtain ⟨hx1, hx2⟩ := hx
  generalize atS s e.v x = y at *
  unfold apR at *
  dsimp only [kxV, kxC] at *
  go_enter Tryd.func47, Tryd.ntmps47
  go_wp2_with (first
    | (go_at_call 47; (with_reducible refine (C.out).mono ?_); rintro en w2 ⟨rfl, b⟩; have H2 := Lib.hid (HV.out.step b); clear b; clear p0 p1 p2 p3 p4 p5; obtain ⟨p0, p1, p2, p3, p4, p5⟩ := HP.out _ H2)
    | (go_at_call 66; (with_reducible refine (CA.out _ H2).mono ?_); rintro en w' ⟨rfl, rfl⟩))
  go_ret2
  exact ⟨rfl, H2.out.bel⟩
set_option maxRecDepth 100000 in
set_option maxHeartbeats 4000000 in
theorem pv_4 (s : St) (S : Option Addr) (sn sc : Nat) (hs : s.length = sn) (e : Kx) (a : Kx) (r : List Kx) (h : e.l = a :: r) (hk : e.k = 4) (x : Int) (hx : inW x) (C0 : ∀ (B : Option Addr) (m d : Nat) (X : World), KrR X B d a.l → a.l.length = m → StR X S sc s → Calls Tryd.prog 47 #[.slice S sn sc, kxV a B m d] X fun en w' => en = .returned (apR (some x)) ∧ Below X.heap.size X w') (A : Option Addr) (n c : Nat) (w : World) (R : KrR w A c e.l) (hn : e.l.length = n) (T : StR w S sc s) : Calls Tryd.prog 47 #[.slice S sn sc, kxV e A n c] w fun en w' => en = .returned (apR (apO e.o x 0)) ∧ Below w.heap.size w w' := by
  have q1 : ((e.k : Int) == 1) = false := by rw [hk]; rfl
  have q2 : ((e.k : Int) == 2) = false := by rw [hk]; rfl
  have q3 : ((e.k : Int) == 3) = false := by rw [hk]; rfl
  have q4 : ((e.k : Int) == 4) = true := by rw [hk]; rfl
  have hsz : (n : Int) ≤ 9223372036854775807 := by have := R.le; have := R.mx; unfold maxLen at this; omega
  obtain ⟨ad, rfl⟩ := R.some_of h
  have HV := Lib.hid (VS.new (n := n) R T)
  have HB := Lib.hid HV.out.bel
  obtain ⟨p0, p1, p2, p3, p4, p5⟩ := HV.out.box
  have hn0 : (0 : Int) < (n : Int) := by rw [h, List.length_cons] at hn; omega
  obtain ⟨B, m, d, hm, oka, Ra, x0, x1, x2, x3, x4, x5⟩ := HV.out.tr.fst h
  have C := Lib.hid (C0 B m d _ Ra hm HV.out.st)
  have HP := Lib.hid fun X (H : Hid (VS w X e (some ad) n c s S sc)) => H.out.box
  have CA := Lib.hid fun X => Apply_any e.o x 0 hx ⟨by omega, by omega⟩ X
  clear R T Ra hm oka h hn C0
  clear hk hs hx
  generalize apO e.o x 0 = y at *
  unfold ApR apR at *
  dsimp only [kxV, kxC] at *
  go_enter Tryd.func47, Tryd.ntmps47
  go_wp2_with (first
    | (go_at_call 47; (with_reducible refine (C.out).mono ?_); rintro en w2 ⟨rfl, b⟩; have H2 := Lib.hid (HV.out.step b); clear b; clear p0 p1 p2 p3 p4 p5; obtain ⟨p0, p1, p2, p3, p4, p5⟩ := HP.out _ H2)
    | (go_at_call 67; (with_reducible refine (CA.out _).mono ?_); rintro en w3 ⟨rfl, b⟩; have H3 := Lib.hid (H2.out.step b); clear b))
  go_ret2
  exact ⟨rfl, H3.out.bel⟩
set_option maxRecDepth 100000 in
set_option maxHeartbeats 4000000 in
theorem pv_6 (s : St) (S : Option Addr) (sn sc : Nat) (hs : s.length = sn) (e : Kx) (a : Kx) (r : List Kx) (h : e.l = a :: r) (hk : e.k = 6) (ht : 1 ≤ e.t ∧ e.t ≤ 3) (x : Int) (hx : inW x) (C0 : ∀ (B : Option Addr) (m d : Nat) (X : World), KrR X B d a.l → a.l.length = m → StR X S sc s → Calls Tryd.prog 47 #[.slice S sn sc, kxV a B m d] X fun en w' => en = .returned (apR (some x)) ∧ Below X.heap.size X w') (A : Option Addr) (n c : Nat) (w : World) (R : KrR w A c e.l) (hn : e.l.length = n) (T : StR w S sc s) : Calls Tryd.prog 47 #[.slice S sn sc, kxV e A n c] w fun en w' => en = .returned (apR (conO e.t x)) ∧ Below w.heap.size w w' := by
  have q1 : ((e.k : Int) == 1) = false := by rw [hk]; rfl
  have q2 : ((e.k : Int) == 2) = false := by rw [hk]; rfl
  have q3 : ((e.k : Int) == 3) = false := by rw [hk]; rfl
  have q4 : ((e.k : Int) == 4) = false := by rw [hk]; rfl
  have q5 : ((e.k : Int) == 5) = false := by rw [hk]; rfl
  have hsz : (n : Int) ≤ 9223372036854775807 := by have := R.le; have := R.mx; unfold maxLen at this; omega
  obtain ⟨ad, rfl⟩ := R.some_of h
  have HV := Lib.hid (VS.new (n := n) R T)
  have HB := Lib.hid HV.out.bel
  obtain ⟨p0, p1, p2, p3, p4, p5⟩ := HV.out.box
  have hn0 : (0 : Int) < (n : Int) := by rw [h, List.length_cons] at hn; omega
  obtain ⟨B, m, d, hm, oka, Ra, x0, x1, x2, x3, x4, x5⟩ := HV.out.tr.fst h
  have C := Lib.hid (C0 B m d _ Ra hm HV.out.st)
  have HP := Lib.hid fun X (H : Hid (VS w X e (some ad) n c s S sc)) => H.out.box
  have CA := Lib.hid fun X => Converted_any e.t x ht X
  clear R T Ra hm oka h hn C0
  clear hk hs hx ht
  generalize conO e.t x = y at *
  unfold apR at *
  dsimp only [kxV, kxC] at *
  go_enter Tryd.func47, Tryd.ntmps47
  go_wp2_with (first
    | (go_at_call 47; (with_reducible refine (C.out).mono ?_); rintro en w2 ⟨rfl, b⟩; have H2 := Lib.hid (HV.out.step b); clear b; clear p0 p1 p2 p3 p4 p5; obtain ⟨p0, p1, p2, p3, p4, p5⟩ := HP.out _ H2)
    | (go_at_call 69; (with_reducible refine (CA.out _).mono ?_); rintro en w' ⟨rfl, rfl⟩))
  go_ret2
  exact ⟨rfl, H2.out.bel⟩
set_option maxRecDepth 100000 in
set_option maxHeartbeats 4000000 in
theorem pd_d (s : St) (S : Option Addr) (sn sc : Nat) (e : Kx) (x : Int) (hx : inW x) (ho : e.o < 256) (hd : decO e.o x = true) (A : Option Addr) (n c : Nat) (w : World) (R : KrR w A c e.l) (hn : e.l.length = n) (T : StR w S sc s) : Calls Tryd.prog 68 #[.slice S sn sc, kxV e A n c, .int .i32 x] w fun en w' => en = .returned (apR (some x)) ∧ Below w.heap.size w w' := by
  have HV := Lib.hid (VS.new (n := n) R T)
  have HB := Lib.hid HV.out.bel
  obtain ⟨p0, p1, p2, p3, p4, p5⟩ := HV.out.box
  have CD := Lib.hid fun X => Decides_any e.o x ho X
  rw [hd] at CD
  clear R T HV hn ho hx hd
  unfold apR
  dsimp only [kxV, kxC] at *
  go_enter Tryd.func68, Tryd.ntmps68
  go_wp2_with (go_at_call 84; (with_reducible refine (CD.out _).mono ?_); rintro en w' ⟨rfl, rfl⟩)
  go_ret2
  exact ⟨rfl, HB.out⟩
set_option maxRecDepth 100000 in
set_option maxHeartbeats 4000000 in
theorem pd_n (s : St) (S : Option Addr) (sn sc : Nat) (e : Kx) (x : Int) (hx : inW x) (ho : e.o < 256) (hd : decO e.o x = false) (a b : Kx) (h : e.l = [a, b]) (D0 : ∀ (B : Option Addr) (m d : Nat) (X : World), KrR X B d b.l → b.l.length = m → StR X S sc s → Calls Tryd.prog 47 #[.slice S sn sc, kxV b B m d] X fun en w' => en = .returned (apR none) ∧ Below X.heap.size X w') (A : Option Addr) (n c : Nat) (w : World) (R : KrR w A c e.l) (hn : e.l.length = n) (T : StR w S sc s) : Calls Tryd.prog 68 #[.slice S sn sc, kxV e A n c, .int .i32 x] w fun en w' => en = .returned (apR (none)) ∧ Below w.heap.size w w' := by
  obtain ⟨ad, rfl⟩ := R.some_of h
  have HV := Lib.hid (VS.new (n := n) R T)
  have HB := Lib.hid HV.out.bel
  obtain ⟨p0, p1, p2, p3, p4, p5⟩ := HV.out.box
  obtain ⟨B2, m2, d2, hm2, okb, Rb, y0, y1, y2, y3, y4, y5⟩ := R.sec h
  have SB := Lib.hid fun X (H : Hid (VS w X e (some ad) n c s S sc)) => And.intro ((H.out.bel.cell (g_lt y0)).trans y0) (And.intro ((H.out.bel.cell (g_lt y1)).trans y1) (And.intro ((H.out.bel.cell (g_lt y2)).trans y2) (And.intro ((H.out.bel.cell (g_lt y3)).trans y3) (And.intro ((H.out.bel.cell (g_lt y4)).trans y4) ((H.out.bel.cell (g_lt y5)).trans y5)))))
  have CB := Lib.hid fun X (H : Hid (VS w X e (some ad) n c s S sc)) => D0 B2 m2 d2 X (Rb.keep H.out.bel) hm2 H.out.st
  have CD := Lib.hid fun X => Decides_any e.o x ho X
  rw [hd] at CD
  have HP := Lib.hid fun X (H : Hid (VS w X e (some ad) n c s S sc)) => H.out.box
  obtain rfl : n = 2 := by rw [h] at hn; exact hn.symm
  clear y0 y1 y2 y3 y4 y5
  obtain ⟨y0, y1, y2, y3, y4, y5⟩ := SB.out _ HV
  clear R T hn ho hx hd Rb hm2 okb h D0
  unfold apR at *
  dsimp only [kxV, kxC] at *
  go_enter Tryd.func68, Tryd.ntmps68
  go_wp2_with (first
    | (go_at_call 84; (with_reducible refine (CD.out _).mono ?_); rintro en w' ⟨rfl, rfl⟩)
    | (go_at_call 47; (with_reducible refine (CB.out _ HV).mono ?_); rintro en w2 ⟨rfl, b⟩; have H2 := Lib.hid (HV.out.step b); clear b; clear p0 p1 p2 p3 p4 p5; obtain ⟨p0, p1, p2, p3, p4, p5⟩ := HP.out _ H2))
  go_ret2
  exact ⟨rfl, H2.out.bel⟩
set_option maxRecDepth 100000 in
set_option maxHeartbeats 4000000 in
theorem pd_s (s : St) (S : Option Addr) (sn sc : Nat) (e : Kx) (x : Int) (hx : inW x) (ho : e.o < 256) (hd : decO e.o x = false) (a b : Kx) (h : e.l = [a, b]) (y : Int) (hy : inW y) (D0 : ∀ (B : Option Addr) (m d : Nat) (X : World), KrR X B d b.l → b.l.length = m → StR X S sc s → Calls Tryd.prog 47 #[.slice S sn sc, kxV b B m d] X fun en w' => en = .returned (apR (some y)) ∧ Below X.heap.size X w') (A : Option Addr) (n c : Nat) (w : World) (R : KrR w A c e.l) (hn : e.l.length = n) (T : StR w S sc s) : Calls Tryd.prog 68 #[.slice S sn sc, kxV e A n c, .int .i32 x] w fun en w' => en = .returned (apR (apO e.o x y)) ∧ Below w.heap.size w w' := by
  obtain ⟨ad, rfl⟩ := R.some_of h
  have HV := Lib.hid (VS.new (n := n) R T)
  have HB := Lib.hid HV.out.bel
  obtain ⟨p0, p1, p2, p3, p4, p5⟩ := HV.out.box
  obtain ⟨B2, m2, d2, hm2, okb, Rb, y0, y1, y2, y3, y4, y5⟩ := R.sec h
  have SB := Lib.hid fun X (H : Hid (VS w X e (some ad) n c s S sc)) => And.intro ((H.out.bel.cell (g_lt y0)).trans y0) (And.intro ((H.out.bel.cell (g_lt y1)).trans y1) (And.intro ((H.out.bel.cell (g_lt y2)).trans y2) (And.intro ((H.out.bel.cell (g_lt y3)).trans y3) (And.intro ((H.out.bel.cell (g_lt y4)).trans y4) ((H.out.bel.cell (g_lt y5)).trans y5)))))
  have CB := Lib.hid fun X (H : Hid (VS w X e (some ad) n c s S sc)) => D0 B2 m2 d2 X (Rb.keep H.out.bel) hm2 H.out.st
  have CD := Lib.hid fun X => Decides_any e.o x ho X
  rw [hd] at CD
  have HP := Lib.hid fun X (H : Hid (VS w X e (some ad) n c s S sc)) => H.out.box
  obtain rfl : n = 2 := by rw [h] at hn; exact hn.symm
  clear y0 y1 y2 y3 y4 y5
  obtain ⟨y0, y1, y2, y3, y4, y5⟩ := SB.out _ HV
  have CP := Lib.hid fun X => Apply_any e.o x y hx hy X
  clear R T hn ho hx hy hd Rb hm2 okb h D0
  generalize apO e.o x y = z at *
  unfold ApR apR at *
  dsimp only [kxV, kxC] at *
  go_enter Tryd.func68, Tryd.ntmps68
  go_wp2_with (first
    | (go_at_call 84; (with_reducible refine (CD.out _).mono ?_); rintro en w' ⟨rfl, rfl⟩)
    | (go_at_call 47; (with_reducible refine (CB.out _ HV).mono ?_); rintro en w2 ⟨rfl, b⟩; have H2 := Lib.hid (HV.out.step b); clear b; clear p0 p1 p2 p3 p4 p5; obtain ⟨p0, p1, p2, p3, p4, p5⟩ := HP.out _ H2)
    | (go_at_call 67; (with_reducible refine (CP.out _).mono ?_); rintro en w3 ⟨rfl, b⟩; have H3 := Lib.hid (H2.out.step b); clear b))
  go_ret2
  exact ⟨rfl, H3.out.bel⟩
set_option maxRecDepth 100000 in
set_option maxHeartbeats 4000000 in
theorem pv_5 (s : St) (S : Option Addr) (sn sc : Nat) (hs : s.length = sn) (e : Kx) (a : Kx) (r : List Kx) (h : e.l = a :: r) (hk : e.k = 5) (x : Int) (hx : inW x) (z : Option Int) (A : Option Addr) (n c : Nat) (C0 : ∀ (B : Option Addr) (m d : Nat) (X : World), KrR X B d a.l → a.l.length = m → StR X S sc s → Calls Tryd.prog 47 #[.slice S sn sc, kxV a B m d] X fun en w' => en = .returned (apR (some x)) ∧ Below X.heap.size X w')
    (D0 : ∀ X : World, KrR X A c e.l → StR X S sc s → Calls Tryd.prog 68 #[.slice S sn sc, kxV e A n c, .int .i32 x] X fun en w' => en = .returned (apR z) ∧ Below X.heap.size X w') (w : World) (R : KrR w A c e.l) (hn : e.l.length = n) (T : StR w S sc s) : Calls Tryd.prog 47 #[.slice S sn sc, kxV e A n c] w fun en w' => en = .returned (apR (z)) ∧ Below w.heap.size w w' := by
  have q1 : ((e.k : Int) == 1) = false := by rw [hk]; rfl
  have q2 : ((e.k : Int) == 2) = false := by rw [hk]; rfl
  have q3 : ((e.k : Int) == 3) = false := by rw [hk]; rfl
  have q4 : ((e.k : Int) == 4) = false := by rw [hk]; rfl
  have q5 : ((e.k : Int) == 5) = true := by rw [hk]; rfl
  have hsz : (n : Int) ≤ 9223372036854775807 := by have := R.le; have := R.mx; unfold maxLen at this; omega
  obtain ⟨ad, rfl⟩ := R.some_of h
  have HV := Lib.hid (VS.new (n := n) R T)
  have HB := Lib.hid HV.out.bel
  obtain ⟨p0, p1, p2, p3, p4, p5⟩ := HV.out.box
  have hn0 : (0 : Int) < (n : Int) := by rw [h, List.length_cons] at hn; omega
  obtain ⟨B, m, d, hm, oka, Ra, x0, x1, x2, x3, x4, x5⟩ := HV.out.tr.fst h
  have C := Lib.hid (C0 B m d _ Ra hm HV.out.st)
  have HP := Lib.hid fun X (H : Hid (VS w X e (some ad) n c s S sc)) => H.out.box
  have CD := Lib.hid fun X (H : Hid (VS w X e (some ad) n c s S sc)) => D0 X H.out.tr H.out.st
  clear R T Ra hm oka h hn C0
  clear hk hs hx D0
  unfold apR at *
  dsimp only [kxV, kxC] at *
  go_enter Tryd.func47, Tryd.ntmps47
  go_wp2_with (first
    | (go_at_call 47; (with_reducible refine (C.out).mono ?_); rintro en w2 ⟨rfl, b⟩; have H2 := Lib.hid (HV.out.step b); clear b; clear p0 p1 p2 p3 p4 p5; obtain ⟨p0, p1, p2, p3, p4, p5⟩ := HP.out _ H2)
    | (go_at_call 68; (with_reducible refine (CD.out _ H2).mono ?_); rintro en w3 ⟨rfl, b⟩; have H3 := Lib.hid (H2.out.step b); clear b))
  go_ret2
  exact ⟨rfl, H3.out.bel⟩
theorem PVal_any (s : St) (S : Option Addr) (sn sc : Nat) (hs : s.length = sn) (hw : stW s) : ∀ e : Kx, okX e = true → OKk e → ∀ (A : Option Addr) (n c : Nat) (w : World), KrR w A c e.l → e.l.length = n → StR w S sc s → Calls Tryd.prog 47 #[.slice S sn sc, kxV e A n c] w fun en w' => en = .returned (apR (vlX s e)) ∧ Below w.heap.size w w' := by
  refine Kx.ind fun e ih ok hok A n c w R hn T => ?_
  have hko : e.o < 256 := hok.2.1
  have vw : ∀ x : Kx, x ∈ e.l → okX x = true → ∀ v, vlX s x = some v → inW v := fun x h1 h2 v h => vl_w hw x h2 (wn_mem R.wn h1) v h
  rcases shape3 ok with ⟨h, hk⟩ | ⟨a, h, hk, oa⟩ | ⟨a, b, h, hk, oa, ob⟩
  · rcases hk with hk | hk
    · rw [vl_1 s hk]; exact pv_1 s S sn sc hs e hk A n c w R hn T
    · rw [vl_2 s hk]; exact pv_2 s S sn sc hs e hk A n c w R hn T
  · have ma : a ∈ e.l := by rw [h]; exact List.mem_cons_self ..
    have ga : e.l.getD 0 k0 = a := by rw [h]; rfl
    have hl : 0 < e.l.length := by rw [h]; simp
    have hoa := R.okp ma
    cases hv : vlX s a with
    | none =>
      rw [vl_none s (by omega) (by omega) hl (by rw [ga]; exact hv)]
      exact pv_none s S sn sc hs e a [] h (by omega) (by omega) (fun B m d X R hm T => by have := ih a ma oa hoa B m d X R hm T; rwa [hv] at this) A n c w R hn T
    | some x =>
      have hx := vw a ma oa x hv
      have C : ∀ (B : Option Addr) (m d : Nat) (X : World), KrR X B d a.l → a.l.length = m → StR X S sc s → Calls Tryd.prog 47 #[.slice S sn sc, kxV a B m d] X fun en w' => en = .returned (apR (some x)) ∧ Below X.heap.size X w' := fun B m d X R hm T => by have := ih a ma oa hoa B m d X R hm T; rwa [hv] at this
      rcases hk with hk | hk | hk
      · rw [vl_3 s hk hl (by rw [ga]; exact hv)]; exact pv_3 s S sn sc hs e a [] h hk x hx C A n c w R hn T
      · rw [vl_4 s hk hl (by rw [ga]; exact hv)]; exact pv_4 s S sn sc hs e a [] h hk x hx C A n c w R hn T
      · rw [vl_6 s hk hl (by rw [ga]; exact hv)]; exact pv_6 s S sn sc hs e a [] h hk (ok_t ok hk) x hx C A n c w R hn T
  · have ma : a ∈ e.l := by rw [h]; exact List.mem_cons_self ..
    have mb : b ∈ e.l := by rw [h]; exact List.mem_cons_of_mem _ (List.mem_cons_self ..)
    have ga : e.l.getD 0 k0 = a := by rw [h]; rfl
    have gb : e.l.getD 1 k0 = b := by rw [h]; rfl
    have hl : 1 < e.l.length := by rw [h]; simp
    have hoa := R.okp ma
    have hob := R.okp mb
    cases hv : vlX s a with
    | none =>
      rw [vl_none s (by omega) (by omega) (by omega) (by rw [ga]; exact hv)]
      exact pv_none s S sn sc hs e a [b] h (by omega) (by omega) (fun B m d X R hm T => by have := ih a ma oa hoa B m d X R hm T; rwa [hv] at this) A n c w R hn T
    | some x =>
      have hx := vw a ma oa x hv
      have C : ∀ (B : Option Addr) (m d : Nat) (X : World), KrR X B d a.l → a.l.length = m → StR X S sc s → Calls Tryd.prog 47 #[.slice S sn sc, kxV a B m d] X fun en w' => en = .returned (apR (some x)) ∧ Below X.heap.size X w' := fun B m d X R hm T => by have := ih a ma oa hoa B m d X R hm T; rwa [hv] at this
      have D : ∀ (B : Option Addr) (m d : Nat) (X : World), KrR X B d b.l → b.l.length = m → StR X S sc s → Calls Tryd.prog 47 #[.slice S sn sc, kxV b B m d] X fun en w' => en = .returned (apR (vlX s b)) ∧ Below X.heap.size X w' := fun B m d X R hm T => ih b mb ob hob B m d X R hm T
      cases hd : decO e.o x with
      | true =>
        rw [vl_5d s hk (by omega) (by rw [ga]; exact hv) hd]
        exact pv_5 s S sn sc hs e a [b] h hk x hx _ A n c C (fun X R T => pd_d s S sn sc e x hx hko hd A n c X R hn T) w R hn T
      | false =>
        cases hb : vlX s b with
        | none =>
          rw [hb] at D
          rw [vl_5n s hk hl (by rw [ga]; exact hv) hd (by rw [gb]; exact hb)]
          exact pv_5 s S sn sc hs e a [b] h hk x hx _ A n c C (fun X R T => pd_n s S sn sc e x hx hko hd a b h D A n c X R hn T) w R hn T
        | some y =>
          have hy := vw b mb ob y hb
          rw [hb] at D
          rw [vl_5 s hk hl (by rw [ga]; exact hv) hd (by rw [gb]; exact hb)]
          exact pv_5 s S sn sc hs e a [b] h hk x hx _ A n c C (fun X R T => pd_s s S sn sc e x hx hko hd a b h y hy D A n c X R hn T) w R hn T
end Go.Proofs.YtblckajejohlbaaDoor
/- The program: the fields of an expression are those of its kind. -/
set_option linter.unusedVariables false
set_option linter.unusedSimpArgs false
namespace Go.Proofs.YtblckajejohlbaaDoor
open Go Go.RowKit L8 L22 L17

/-! ### The table -/
abbrev Ev : Type := Int × Int × Int × Nat × Nat × Nat × Nat × Nat
def ev0 : Ev := (0, 0, 0, 0, 0, 0, 0, 0)
def evC (r : Ev) : List Value := [.int .i32 r.1, .int .i32 r.2.1, .int .i64 r.2.2.1, .int .u8 (r.2.2.2.1 : Int), .int .u8 (r.2.2.2.2.1 : Int), .int .u8 (r.2.2.2.2.2.1 : Int), .int .u8 (r.2.2.2.2.2.2.1 : Int), .int .i64 (r.2.2.2.2.2.2.2 : Int)]
def evT : List Ev := [ev0, (-2147483648, 2147483647, 0, 0, 0, 0, 0, 0), (0, 0, 255, 0, 0, 0, 0, 0), (0, 0, 255, 0, 0, 0, 0, 1), (0, 0, 0, 23, 26, 0, 0, 1), (0, 0, 0, 1, 22, 0, 0, 2), (0, 0, 0, 0, 0, 1, 3, 1)]
def ev (k : Nat) : Ev := evT.getD k ev0
/-- What the rows list of the program's tables: the forms. -/
structure T17 (w : World) : Prop where
  f : w.var? Tryd.prog "transputer/eval.forms" = some (evT.flatMap evC).toArray
theorem gE : Tryd.prog.globalNamed "transputer/eval.forms" = some 0 := by kernel_rfl
theorem T17.below {w X : World} (h : T17 w) (b : Below w.heap.size w X) : T17 X := by
  have hf := h.f
  refine ⟨?_⟩
  unfold World.var? at *
  rw [gE] at hf ⊢
  simp only [Option.bind_some] at hf ⊢
  have hlt : 0 < w.heap.size := by
    rcases Nat.lt_or_ge 0 w.heap.size with h' | h'
    · exact h'
    · rw [Array.getElem?_eq_none h'] at hf; simp at hf
  rw [b.block _ hlt]
  exact hf
theorem evC_at : ∀ (l : List Ev) (k j : Nat), k < l.length → j < 8 → (l.flatMap evC)[k * 8 + j]? = (evC (l.getD k ev0))[j]?
  | [], k, j, h, _ => by simp at h
  | x :: l, 0, j, _, hj => by
    rw [List.flatMap_cons, Nat.zero_mul, Nat.zero_add, List.getElem?_append_left (by show j < 8; exact hj)]
    rfl
  | x :: l, k + 1, j, h, hj => by
    have ih := evC_at l k j (by simpa using h) hj
    rw [List.flatMap_cons, show (k + 1) * 8 + j = (evC x).length + (k * 8 + j) by show _ = 8 + _; omega, List.getElem?_append_right (by omega), List.getD_cons_succ, ← ih]
    congr 1
    omega
theorem T17.form {w : World} (h : T17 w) {k : Nat} (hk : k < 7) : ∀ j, j < 8 → w.cell? ⟨0, k * 8 + j, none⟩ = (evC (ev k))[j]? := fun j hj => by
  rw [World.var?_cell gE h.f, List.getElem?_toArray]
  exact evC_at evT k j hk hj
theorem ev_small : ∀ k, k < 7 → (ev k).2.2.2.2.2.2.2 ≤ 2 ∧ (ev k).2.2.2.1 < 256 ∧ (ev k).2.2.2.2.1 < 256 ∧ (ev k).2.2.2.2.2.1 < 256 ∧ (ev k).2.2.2.2.2.2.1 < 256 := by decide
/-- The row says what is valid. -/
theorem ev_sh (e : Kx) (hok : OKk e) (h0 : 1 ≤ e.k) (h7 : e.k < 7) : shX e = (decide ((ev e.k).1 ≤ e.n) && (decide (e.n ≤ (ev e.k).2.1) && (decide (0 ≤ e.v) && (decide (e.v ≤ (ev e.k).2.2.1) && (decide ((ev e.k).2.2.2.1 ≤ e.o) && (decide (e.o ≤ (ev e.k).2.2.2.2.1) && (decide ((ev e.k).2.2.2.2.2.1 ≤ e.t) && (decide (e.t ≤ (ev e.k).2.2.2.2.2.2.1) && decide (e.l.length = (ev e.k).2.2.2.2.2.2.2))))))))) := by
  obtain ⟨_, _, _, hn1, hn2, _, _⟩ := hok
  rw [Bool.eq_iff_iff]
  have : e.k = 1 ∨ e.k = 2 ∨ e.k = 3 ∨ e.k = 4 ∨ e.k = 5 ∨ e.k = 6 := by omega
  rcases this with h | h | h | h | h | h
  · rw [h, show ev 1 = (-2147483648, 2147483647, 0, 0, 0, 0, 0, 0) from rfl]
    unfold shX; rw [if_pos h]
    simp only [Bool.and_eq_true, decide_eq_true_eq]; omega
  · rw [h, show ev 2 = (0, 0, 255, 0, 0, 0, 0, 0) from rfl]
    unfold shX; rw [if_neg (by omega), if_pos h]
    simp only [Bool.and_eq_true, decide_eq_true_eq]; omega
  · rw [h, show ev 3 = (0, 0, 255, 0, 0, 0, 0, 1) from rfl]
    unfold shX; rw [if_neg (by omega), if_neg (by omega), if_pos h]
    simp only [Bool.and_eq_true, decide_eq_true_eq]; omega
  · rw [h, show ev 4 = (0, 0, 0, 23, 26, 0, 0, 1) from rfl]
    unfold shX; rw [if_neg (by omega), if_neg (by omega), if_neg (by omega), if_pos h]
    simp only [Bool.and_eq_true, decide_eq_true_eq]; omega
  · rw [h, show ev 5 = (0, 0, 0, 1, 22, 0, 0, 2) from rfl]
    unfold shX; rw [if_neg (by omega), if_neg (by omega), if_neg (by omega), if_neg (by omega), if_pos h]
    simp only [Bool.and_eq_true, decide_eq_true_eq]; omega
  · rw [h, show ev 6 = (0, 0, 0, 0, 0, 1, 3, 1) from rfl]
    unfold shX; rw [if_neg (by omega), if_neg (by omega), if_neg (by omega), if_neg (by omega), if_neg (by omega), if_pos h]
    simp only [Bool.and_eq_true, decide_eq_true_eq]; omega
set_option maxRecDepth 100000 in
set_option maxHeartbeats 4000000 in
theorem Alone_out (e : Kx) (A : Option Addr) (n c : Nat) (w : World) (hk : e.k < 256) (h : e.k = 0 ∨ 7 ≤ e.k) : Calls Tryd.prog 65 #[kxV e A n c] w fun en w' => en = .returned (.bool false) ∧ Below w.heap.size w w' := by
  have hV := Lib.hid (bal (b0 w) (.cells (kxC e A n c) 45))
  obtain ⟨p0, p1, p2, p3, p4, p5⟩ := box6 (boxS_new w 45 (kxC e A n c))
  have hk0 : (0 : Int) ≤ (e.k : Int) := by omega
  have hk2 : (e.k : Int) < 256 := by omega
  by_cases h0 : e.k = 0
  · have q0 : ((e.k : Int) == 0) = true := by rw [h0]; rfl
    clear h0 hk h
    dsimp only [kxV, kxC] at *
    go_enter Tryd.func65, Tryd.ntmps65
    go_wp2
    go_ret
    exact ⟨rfl, hV.out⟩
  · have q0 : ((e.k : Int) == 0) = false := by simp; omega
    have h10 : 7 ≤ (e.k : Int) := by omega
    clear h0 hk h
    dsimp only [kxV, kxC] at *
    go_enter Tryd.func65, Tryd.ntmps65
    go_wp2
    go_ret
    exact ⟨rfl, hV.out⟩
set_option maxRecDepth 100000 in
set_option maxHeartbeats 16000000 in
theorem Alone_0 (e : Kx) (A : Option Addr) (n c : Nat) (w : World) (hk0 : (1 : Int) ≤ (e.k : Int)) (hk2 : (e.k : Int) < 7) (a0 a1 a2 : Int) (a3 a4 a5 a6 a7 : Nat) (p0 p1 p2 p3 p4 p5 p6 p7 p8 : Bool) (q0 : ((e.k : Int) == 0) = false)
    (d0 : decide (a0 ≤ e.n) = p0)
    (d1 : decide (e.n ≤ a1) = p1)
    (d2 : decide ((0 : Int) ≤ e.v) = p2)
    (d3 : decide (e.v ≤ a2) = p3)
    (d4 : decide ((a3 : Int) ≤ (e.o : Int)) = p4)
    (d5 : decide ((e.o : Int) ≤ (a4 : Int)) = p5)
    (d6 : decide ((a5 : Int) ≤ (e.t : Int)) = p6)
    (d7 : decide ((e.t : Int) ≤ (a6 : Int)) = p7)
    (u4 : decide (a3 ≤ e.o) = p4) (u5 : decide (e.o ≤ a4) = p5) (u6 : decide (a5 ≤ e.t) = p6) (u7 : decide (e.t ≤ a6) = p7) (d8 : ((n : Int) == (a7 : Int)) = p8)
    (V : World) (hV : w.alloc (.cells #[.int .u8 (e.k : Int), .int .u8 (e.o : Int), .int .u8 (e.t : Int), .int .i32 e.n, .int .i64 e.v, .slice A n c] 45) = V)
    (g0 : V.cell? ⟨0, e.k * 8, none⟩ = some (.int .i32 a0))
    (g1 : V.cell? ⟨0, e.k * 8 + 1, none⟩ = some (.int .i32 a1))
    (g2 : V.cell? ⟨0, e.k * 8 + 2, none⟩ = some (.int .i64 a2))
    (g3 : V.cell? ⟨0, e.k * 8 + 3, none⟩ = some (.int .u8 (a3 : Int)))
    (g4 : V.cell? ⟨0, e.k * 8 + 4, none⟩ = some (.int .u8 (a4 : Int)))
    (g5 : V.cell? ⟨0, e.k * 8 + 5, none⟩ = some (.int .u8 (a5 : Int)))
    (g6 : V.cell? ⟨0, e.k * 8 + 6, none⟩ = some (.int .u8 (a6 : Int)))
    (g7 : V.cell? ⟨0, e.k * 8 + 7, none⟩ = some (.int .i64 (a7 : Int)))
    (hBX : Hid (Below w.heap.size w (V.alloc (.cells #[.int .i32 a0, .int .i32 a1, .int .i64 a2, .int .u8 (a3 : Int), .int .u8 (a4 : Int), .int .u8 (a5 : Int), .int .u8 (a6 : Int), .int .i64 (a7 : Int)] 132)))) (hp : p0 = false) :
    Calls Tryd.prog 65 #[.agg #[.int .u8 (e.k : Int), .int .u8 (e.o : Int), .int .u8 (e.t : Int), .int .i32 e.n, .int .i64 e.v, .slice A n c]] w fun en w' => en = .returned (.bool (p0 && (p1 && (p2 && (p3 && (p4 && (p5 && (p6 && (p7 && (p8)))))))))) ∧ Below w.heap.size w w' := by
  subst hV
  obtain rfl := hp
  simp only [Bool.false_and, Bool.true_and, Bool.false_eq_true, if_true, if_false]
  clear d1 d2 d3 d4 d5 d6 d7 u4 u5 u6 u7 d8
  go_enter Tryd.func65, Tryd.ntmps65
  go_wp2
  all_goals (go_ret; exact ⟨rfl, hBX.out⟩)
set_option maxRecDepth 100000 in
set_option maxHeartbeats 16000000 in
theorem Alone_1 (e : Kx) (A : Option Addr) (n c : Nat) (w : World) (hk0 : (1 : Int) ≤ (e.k : Int)) (hk2 : (e.k : Int) < 7) (a0 a1 a2 : Int) (a3 a4 a5 a6 a7 : Nat) (p0 p1 p2 p3 p4 p5 p6 p7 p8 : Bool) (q0 : ((e.k : Int) == 0) = false)
    (d0 : decide (a0 ≤ e.n) = p0)
    (d1 : decide (e.n ≤ a1) = p1)
    (d2 : decide ((0 : Int) ≤ e.v) = p2)
    (d3 : decide (e.v ≤ a2) = p3)
    (d4 : decide ((a3 : Int) ≤ (e.o : Int)) = p4)
    (d5 : decide ((e.o : Int) ≤ (a4 : Int)) = p5)
    (d6 : decide ((a5 : Int) ≤ (e.t : Int)) = p6)
    (d7 : decide ((e.t : Int) ≤ (a6 : Int)) = p7)
    (u4 : decide (a3 ≤ e.o) = p4) (u5 : decide (e.o ≤ a4) = p5) (u6 : decide (a5 ≤ e.t) = p6) (u7 : decide (e.t ≤ a6) = p7) (d8 : ((n : Int) == (a7 : Int)) = p8)
    (V : World) (hV : w.alloc (.cells #[.int .u8 (e.k : Int), .int .u8 (e.o : Int), .int .u8 (e.t : Int), .int .i32 e.n, .int .i64 e.v, .slice A n c] 45) = V)
    (g0 : V.cell? ⟨0, e.k * 8, none⟩ = some (.int .i32 a0))
    (g1 : V.cell? ⟨0, e.k * 8 + 1, none⟩ = some (.int .i32 a1))
    (g2 : V.cell? ⟨0, e.k * 8 + 2, none⟩ = some (.int .i64 a2))
    (g3 : V.cell? ⟨0, e.k * 8 + 3, none⟩ = some (.int .u8 (a3 : Int)))
    (g4 : V.cell? ⟨0, e.k * 8 + 4, none⟩ = some (.int .u8 (a4 : Int)))
    (g5 : V.cell? ⟨0, e.k * 8 + 5, none⟩ = some (.int .u8 (a5 : Int)))
    (g6 : V.cell? ⟨0, e.k * 8 + 6, none⟩ = some (.int .u8 (a6 : Int)))
    (g7 : V.cell? ⟨0, e.k * 8 + 7, none⟩ = some (.int .i64 (a7 : Int)))
    (hBX : Hid (Below w.heap.size w (V.alloc (.cells #[.int .i32 a0, .int .i32 a1, .int .i64 a2, .int .u8 (a3 : Int), .int .u8 (a4 : Int), .int .u8 (a5 : Int), .int .u8 (a6 : Int), .int .i64 (a7 : Int)] 132)))) (hp : p0 = true ∧ p1 = false) :
    Calls Tryd.prog 65 #[.agg #[.int .u8 (e.k : Int), .int .u8 (e.o : Int), .int .u8 (e.t : Int), .int .i32 e.n, .int .i64 e.v, .slice A n c]] w fun en w' => en = .returned (.bool (p0 && (p1 && (p2 && (p3 && (p4 && (p5 && (p6 && (p7 && (p8)))))))))) ∧ Below w.heap.size w w' := by
  subst hV
  obtain ⟨rfl, rfl⟩ := hp
  simp only [Bool.false_and, Bool.true_and, Bool.false_eq_true, if_true, if_false]
  clear d2 d3 d4 d5 d6 d7 u4 u5 u6 u7 d8
  go_enter Tryd.func65, Tryd.ntmps65
  go_wp2
  all_goals (go_ret; exact ⟨rfl, hBX.out⟩)
set_option maxRecDepth 100000 in
set_option maxHeartbeats 16000000 in
theorem Alone_2 (e : Kx) (A : Option Addr) (n c : Nat) (w : World) (hk0 : (1 : Int) ≤ (e.k : Int)) (hk2 : (e.k : Int) < 7) (a0 a1 a2 : Int) (a3 a4 a5 a6 a7 : Nat) (p0 p1 p2 p3 p4 p5 p6 p7 p8 : Bool) (q0 : ((e.k : Int) == 0) = false)
    (d0 : decide (a0 ≤ e.n) = p0)
    (d1 : decide (e.n ≤ a1) = p1)
    (d2 : decide ((0 : Int) ≤ e.v) = p2)
    (d3 : decide (e.v ≤ a2) = p3)
    (d4 : decide ((a3 : Int) ≤ (e.o : Int)) = p4)
    (d5 : decide ((e.o : Int) ≤ (a4 : Int)) = p5)
    (d6 : decide ((a5 : Int) ≤ (e.t : Int)) = p6)
    (d7 : decide ((e.t : Int) ≤ (a6 : Int)) = p7)
    (u4 : decide (a3 ≤ e.o) = p4) (u5 : decide (e.o ≤ a4) = p5) (u6 : decide (a5 ≤ e.t) = p6) (u7 : decide (e.t ≤ a6) = p7) (d8 : ((n : Int) == (a7 : Int)) = p8)
    (V : World) (hV : w.alloc (.cells #[.int .u8 (e.k : Int), .int .u8 (e.o : Int), .int .u8 (e.t : Int), .int .i32 e.n, .int .i64 e.v, .slice A n c] 45) = V)
    (g0 : V.cell? ⟨0, e.k * 8, none⟩ = some (.int .i32 a0))
    (g1 : V.cell? ⟨0, e.k * 8 + 1, none⟩ = some (.int .i32 a1))
    (g2 : V.cell? ⟨0, e.k * 8 + 2, none⟩ = some (.int .i64 a2))
    (g3 : V.cell? ⟨0, e.k * 8 + 3, none⟩ = some (.int .u8 (a3 : Int)))
    (g4 : V.cell? ⟨0, e.k * 8 + 4, none⟩ = some (.int .u8 (a4 : Int)))
    (g5 : V.cell? ⟨0, e.k * 8 + 5, none⟩ = some (.int .u8 (a5 : Int)))
    (g6 : V.cell? ⟨0, e.k * 8 + 6, none⟩ = some (.int .u8 (a6 : Int)))
    (g7 : V.cell? ⟨0, e.k * 8 + 7, none⟩ = some (.int .i64 (a7 : Int)))
    (hBX : Hid (Below w.heap.size w (V.alloc (.cells #[.int .i32 a0, .int .i32 a1, .int .i64 a2, .int .u8 (a3 : Int), .int .u8 (a4 : Int), .int .u8 (a5 : Int), .int .u8 (a6 : Int), .int .i64 (a7 : Int)] 132)))) (hp : p0 = true ∧ p1 = true ∧ p2 = false) :
    Calls Tryd.prog 65 #[.agg #[.int .u8 (e.k : Int), .int .u8 (e.o : Int), .int .u8 (e.t : Int), .int .i32 e.n, .int .i64 e.v, .slice A n c]] w fun en w' => en = .returned (.bool (p0 && (p1 && (p2 && (p3 && (p4 && (p5 && (p6 && (p7 && (p8)))))))))) ∧ Below w.heap.size w w' := by
  subst hV
  obtain ⟨rfl, rfl, rfl⟩ := hp
  simp only [Bool.false_and, Bool.true_and, Bool.false_eq_true, if_true, if_false]
  clear d3 d4 d5 d6 d7 u4 u5 u6 u7 d8
  go_enter Tryd.func65, Tryd.ntmps65
  go_wp2
  all_goals (go_ret; exact ⟨rfl, hBX.out⟩)
set_option maxRecDepth 100000 in
set_option maxHeartbeats 16000000 in
theorem Alone_3 (e : Kx) (A : Option Addr) (n c : Nat) (w : World) (hk0 : (1 : Int) ≤ (e.k : Int)) (hk2 : (e.k : Int) < 7) (a0 a1 a2 : Int) (a3 a4 a5 a6 a7 : Nat) (p0 p1 p2 p3 p4 p5 p6 p7 p8 : Bool) (q0 : ((e.k : Int) == 0) = false)
    (d0 : decide (a0 ≤ e.n) = p0)
    (d1 : decide (e.n ≤ a1) = p1)
    (d2 : decide ((0 : Int) ≤ e.v) = p2)
    (d3 : decide (e.v ≤ a2) = p3)
    (d4 : decide ((a3 : Int) ≤ (e.o : Int)) = p4)
    (d5 : decide ((e.o : Int) ≤ (a4 : Int)) = p5)
    (d6 : decide ((a5 : Int) ≤ (e.t : Int)) = p6)
    (d7 : decide ((e.t : Int) ≤ (a6 : Int)) = p7)
    (u4 : decide (a3 ≤ e.o) = p4) (u5 : decide (e.o ≤ a4) = p5) (u6 : decide (a5 ≤ e.t) = p6) (u7 : decide (e.t ≤ a6) = p7) (d8 : ((n : Int) == (a7 : Int)) = p8)
    (V : World) (hV : w.alloc (.cells #[.int .u8 (e.k : Int), .int .u8 (e.o : Int), .int .u8 (e.t : Int), .int .i32 e.n, .int .i64 e.v, .slice A n c] 45) = V)
    (g0 : V.cell? ⟨0, e.k * 8, none⟩ = some (.int .i32 a0))
    (g1 : V.cell? ⟨0, e.k * 8 + 1, none⟩ = some (.int .i32 a1))
    (g2 : V.cell? ⟨0, e.k * 8 + 2, none⟩ = some (.int .i64 a2))
    (g3 : V.cell? ⟨0, e.k * 8 + 3, none⟩ = some (.int .u8 (a3 : Int)))
    (g4 : V.cell? ⟨0, e.k * 8 + 4, none⟩ = some (.int .u8 (a4 : Int)))
    (g5 : V.cell? ⟨0, e.k * 8 + 5, none⟩ = some (.int .u8 (a5 : Int)))
    (g6 : V.cell? ⟨0, e.k * 8 + 6, none⟩ = some (.int .u8 (a6 : Int)))
    (g7 : V.cell? ⟨0, e.k * 8 + 7, none⟩ = some (.int .i64 (a7 : Int)))
    (hBX : Hid (Below w.heap.size w (V.alloc (.cells #[.int .i32 a0, .int .i32 a1, .int .i64 a2, .int .u8 (a3 : Int), .int .u8 (a4 : Int), .int .u8 (a5 : Int), .int .u8 (a6 : Int), .int .i64 (a7 : Int)] 132)))) (hp : p0 = true ∧ p1 = true ∧ p2 = true ∧ p3 = false) :
    Calls Tryd.prog 65 #[.agg #[.int .u8 (e.k : Int), .int .u8 (e.o : Int), .int .u8 (e.t : Int), .int .i32 e.n, .int .i64 e.v, .slice A n c]] w fun en w' => en = .returned (.bool (p0 && (p1 && (p2 && (p3 && (p4 && (p5 && (p6 && (p7 && (p8)))))))))) ∧ Below w.heap.size w w' := by
  subst hV
  obtain ⟨rfl, rfl, rfl, rfl⟩ := hp
  simp only [Bool.false_and, Bool.true_and, Bool.false_eq_true, if_true, if_false]
  clear d4 d5 d6 d7 u4 u5 u6 u7 d8
  go_enter Tryd.func65, Tryd.ntmps65
  go_wp2
  all_goals (go_ret; exact ⟨rfl, hBX.out⟩)
set_option maxRecDepth 100000 in
set_option maxHeartbeats 16000000 in
theorem Alone_4 (e : Kx) (A : Option Addr) (n c : Nat) (w : World) (hk0 : (1 : Int) ≤ (e.k : Int)) (hk2 : (e.k : Int) < 7) (a0 a1 a2 : Int) (a3 a4 a5 a6 a7 : Nat) (p0 p1 p2 p3 p4 p5 p6 p7 p8 : Bool) (q0 : ((e.k : Int) == 0) = false)
    (d0 : decide (a0 ≤ e.n) = p0)
    (d1 : decide (e.n ≤ a1) = p1)
    (d2 : decide ((0 : Int) ≤ e.v) = p2)
    (d3 : decide (e.v ≤ a2) = p3)
    (d4 : decide ((a3 : Int) ≤ (e.o : Int)) = p4)
    (d5 : decide ((e.o : Int) ≤ (a4 : Int)) = p5)
    (d6 : decide ((a5 : Int) ≤ (e.t : Int)) = p6)
    (d7 : decide ((e.t : Int) ≤ (a6 : Int)) = p7)
    (u4 : decide (a3 ≤ e.o) = p4) (u5 : decide (e.o ≤ a4) = p5) (u6 : decide (a5 ≤ e.t) = p6) (u7 : decide (e.t ≤ a6) = p7) (d8 : ((n : Int) == (a7 : Int)) = p8)
    (V : World) (hV : w.alloc (.cells #[.int .u8 (e.k : Int), .int .u8 (e.o : Int), .int .u8 (e.t : Int), .int .i32 e.n, .int .i64 e.v, .slice A n c] 45) = V)
    (g0 : V.cell? ⟨0, e.k * 8, none⟩ = some (.int .i32 a0))
    (g1 : V.cell? ⟨0, e.k * 8 + 1, none⟩ = some (.int .i32 a1))
    (g2 : V.cell? ⟨0, e.k * 8 + 2, none⟩ = some (.int .i64 a2))
    (g3 : V.cell? ⟨0, e.k * 8 + 3, none⟩ = some (.int .u8 (a3 : Int)))
    (g4 : V.cell? ⟨0, e.k * 8 + 4, none⟩ = some (.int .u8 (a4 : Int)))
    (g5 : V.cell? ⟨0, e.k * 8 + 5, none⟩ = some (.int .u8 (a5 : Int)))
    (g6 : V.cell? ⟨0, e.k * 8 + 6, none⟩ = some (.int .u8 (a6 : Int)))
    (g7 : V.cell? ⟨0, e.k * 8 + 7, none⟩ = some (.int .i64 (a7 : Int)))
    (hBX : Hid (Below w.heap.size w (V.alloc (.cells #[.int .i32 a0, .int .i32 a1, .int .i64 a2, .int .u8 (a3 : Int), .int .u8 (a4 : Int), .int .u8 (a5 : Int), .int .u8 (a6 : Int), .int .i64 (a7 : Int)] 132)))) (hp : p0 = true ∧ p1 = true ∧ p2 = true ∧ p3 = true ∧ p4 = false) :
    Calls Tryd.prog 65 #[.agg #[.int .u8 (e.k : Int), .int .u8 (e.o : Int), .int .u8 (e.t : Int), .int .i32 e.n, .int .i64 e.v, .slice A n c]] w fun en w' => en = .returned (.bool (p0 && (p1 && (p2 && (p3 && (p4 && (p5 && (p6 && (p7 && (p8)))))))))) ∧ Below w.heap.size w w' := by
  subst hV
  obtain ⟨rfl, rfl, rfl, rfl, rfl⟩ := hp
  simp only [Bool.false_and, Bool.true_and, Bool.false_eq_true, if_true, if_false]
  clear d5 d6 d7 u5 u6 u7 d8
  go_enter Tryd.func65, Tryd.ntmps65
  go_wp2
  all_goals (go_ret; exact ⟨rfl, hBX.out⟩)
set_option maxRecDepth 100000 in
set_option maxHeartbeats 16000000 in
theorem Alone_5 (e : Kx) (A : Option Addr) (n c : Nat) (w : World) (hk0 : (1 : Int) ≤ (e.k : Int)) (hk2 : (e.k : Int) < 7) (a0 a1 a2 : Int) (a3 a4 a5 a6 a7 : Nat) (p0 p1 p2 p3 p4 p5 p6 p7 p8 : Bool) (q0 : ((e.k : Int) == 0) = false)
    (d0 : decide (a0 ≤ e.n) = p0)
    (d1 : decide (e.n ≤ a1) = p1)
    (d2 : decide ((0 : Int) ≤ e.v) = p2)
    (d3 : decide (e.v ≤ a2) = p3)
    (d4 : decide ((a3 : Int) ≤ (e.o : Int)) = p4)
    (d5 : decide ((e.o : Int) ≤ (a4 : Int)) = p5)
    (d6 : decide ((a5 : Int) ≤ (e.t : Int)) = p6)
    (d7 : decide ((e.t : Int) ≤ (a6 : Int)) = p7)
    (u4 : decide (a3 ≤ e.o) = p4) (u5 : decide (e.o ≤ a4) = p5) (u6 : decide (a5 ≤ e.t) = p6) (u7 : decide (e.t ≤ a6) = p7) (d8 : ((n : Int) == (a7 : Int)) = p8)
    (V : World) (hV : w.alloc (.cells #[.int .u8 (e.k : Int), .int .u8 (e.o : Int), .int .u8 (e.t : Int), .int .i32 e.n, .int .i64 e.v, .slice A n c] 45) = V)
    (g0 : V.cell? ⟨0, e.k * 8, none⟩ = some (.int .i32 a0))
    (g1 : V.cell? ⟨0, e.k * 8 + 1, none⟩ = some (.int .i32 a1))
    (g2 : V.cell? ⟨0, e.k * 8 + 2, none⟩ = some (.int .i64 a2))
    (g3 : V.cell? ⟨0, e.k * 8 + 3, none⟩ = some (.int .u8 (a3 : Int)))
    (g4 : V.cell? ⟨0, e.k * 8 + 4, none⟩ = some (.int .u8 (a4 : Int)))
    (g5 : V.cell? ⟨0, e.k * 8 + 5, none⟩ = some (.int .u8 (a5 : Int)))
    (g6 : V.cell? ⟨0, e.k * 8 + 6, none⟩ = some (.int .u8 (a6 : Int)))
    (g7 : V.cell? ⟨0, e.k * 8 + 7, none⟩ = some (.int .i64 (a7 : Int)))
    (hBX : Hid (Below w.heap.size w (V.alloc (.cells #[.int .i32 a0, .int .i32 a1, .int .i64 a2, .int .u8 (a3 : Int), .int .u8 (a4 : Int), .int .u8 (a5 : Int), .int .u8 (a6 : Int), .int .i64 (a7 : Int)] 132)))) (hp : p0 = true ∧ p1 = true ∧ p2 = true ∧ p3 = true ∧ p4 = true ∧ p5 = false) :
    Calls Tryd.prog 65 #[.agg #[.int .u8 (e.k : Int), .int .u8 (e.o : Int), .int .u8 (e.t : Int), .int .i32 e.n, .int .i64 e.v, .slice A n c]] w fun en w' => en = .returned (.bool (p0 && (p1 && (p2 && (p3 && (p4 && (p5 && (p6 && (p7 && (p8)))))))))) ∧ Below w.heap.size w w' := by
  subst hV
  obtain ⟨rfl, rfl, rfl, rfl, rfl, rfl⟩ := hp
  simp only [Bool.false_and, Bool.true_and, Bool.false_eq_true, if_true, if_false]
  clear d6 d7 u6 u7 d8
  go_enter Tryd.func65, Tryd.ntmps65
  go_wp2
  all_goals (go_ret; exact ⟨rfl, hBX.out⟩)
set_option maxRecDepth 100000 in
set_option maxHeartbeats 16000000 in
theorem Alone_6 (e : Kx) (A : Option Addr) (n c : Nat) (w : World) (hk0 : (1 : Int) ≤ (e.k : Int)) (hk2 : (e.k : Int) < 7) (a0 a1 a2 : Int) (a3 a4 a5 a6 a7 : Nat) (p0 p1 p2 p3 p4 p5 p6 p7 p8 : Bool) (q0 : ((e.k : Int) == 0) = false)
    (d0 : decide (a0 ≤ e.n) = p0)
    (d1 : decide (e.n ≤ a1) = p1)
    (d2 : decide ((0 : Int) ≤ e.v) = p2)
    (d3 : decide (e.v ≤ a2) = p3)
    (d4 : decide ((a3 : Int) ≤ (e.o : Int)) = p4)
    (d5 : decide ((e.o : Int) ≤ (a4 : Int)) = p5)
    (d6 : decide ((a5 : Int) ≤ (e.t : Int)) = p6)
    (d7 : decide ((e.t : Int) ≤ (a6 : Int)) = p7)
    (u4 : decide (a3 ≤ e.o) = p4) (u5 : decide (e.o ≤ a4) = p5) (u6 : decide (a5 ≤ e.t) = p6) (u7 : decide (e.t ≤ a6) = p7) (d8 : ((n : Int) == (a7 : Int)) = p8)
    (V : World) (hV : w.alloc (.cells #[.int .u8 (e.k : Int), .int .u8 (e.o : Int), .int .u8 (e.t : Int), .int .i32 e.n, .int .i64 e.v, .slice A n c] 45) = V)
    (g0 : V.cell? ⟨0, e.k * 8, none⟩ = some (.int .i32 a0))
    (g1 : V.cell? ⟨0, e.k * 8 + 1, none⟩ = some (.int .i32 a1))
    (g2 : V.cell? ⟨0, e.k * 8 + 2, none⟩ = some (.int .i64 a2))
    (g3 : V.cell? ⟨0, e.k * 8 + 3, none⟩ = some (.int .u8 (a3 : Int)))
    (g4 : V.cell? ⟨0, e.k * 8 + 4, none⟩ = some (.int .u8 (a4 : Int)))
    (g5 : V.cell? ⟨0, e.k * 8 + 5, none⟩ = some (.int .u8 (a5 : Int)))
    (g6 : V.cell? ⟨0, e.k * 8 + 6, none⟩ = some (.int .u8 (a6 : Int)))
    (g7 : V.cell? ⟨0, e.k * 8 + 7, none⟩ = some (.int .i64 (a7 : Int)))
    (hBX : Hid (Below w.heap.size w (V.alloc (.cells #[.int .i32 a0, .int .i32 a1, .int .i64 a2, .int .u8 (a3 : Int), .int .u8 (a4 : Int), .int .u8 (a5 : Int), .int .u8 (a6 : Int), .int .i64 (a7 : Int)] 132)))) (hp : p0 = true ∧ p1 = true ∧ p2 = true ∧ p3 = true ∧ p4 = true ∧ p5 = true ∧ p6 = false) :
    Calls Tryd.prog 65 #[.agg #[.int .u8 (e.k : Int), .int .u8 (e.o : Int), .int .u8 (e.t : Int), .int .i32 e.n, .int .i64 e.v, .slice A n c]] w fun en w' => en = .returned (.bool (p0 && (p1 && (p2 && (p3 && (p4 && (p5 && (p6 && (p7 && (p8)))))))))) ∧ Below w.heap.size w w' := by
  subst hV
  obtain ⟨rfl, rfl, rfl, rfl, rfl, rfl, rfl⟩ := hp
  simp only [Bool.false_and, Bool.true_and, Bool.false_eq_true, if_true, if_false]
  clear d7 u7 d8
  go_enter Tryd.func65, Tryd.ntmps65
  go_wp2
  all_goals (go_ret; exact ⟨rfl, hBX.out⟩)
set_option maxRecDepth 100000 in
set_option maxHeartbeats 16000000 in
theorem Alone_7 (e : Kx) (A : Option Addr) (n c : Nat) (w : World) (hk0 : (1 : Int) ≤ (e.k : Int)) (hk2 : (e.k : Int) < 7) (a0 a1 a2 : Int) (a3 a4 a5 a6 a7 : Nat) (p0 p1 p2 p3 p4 p5 p6 p7 p8 : Bool) (q0 : ((e.k : Int) == 0) = false)
    (d0 : decide (a0 ≤ e.n) = p0)
    (d1 : decide (e.n ≤ a1) = p1)
    (d2 : decide ((0 : Int) ≤ e.v) = p2)
    (d3 : decide (e.v ≤ a2) = p3)
    (d4 : decide ((a3 : Int) ≤ (e.o : Int)) = p4)
    (d5 : decide ((e.o : Int) ≤ (a4 : Int)) = p5)
    (d6 : decide ((a5 : Int) ≤ (e.t : Int)) = p6)
    (d7 : decide ((e.t : Int) ≤ (a6 : Int)) = p7)
    (u4 : decide (a3 ≤ e.o) = p4) (u5 : decide (e.o ≤ a4) = p5) (u6 : decide (a5 ≤ e.t) = p6) (u7 : decide (e.t ≤ a6) = p7) (d8 : ((n : Int) == (a7 : Int)) = p8)
    (V : World) (hV : w.alloc (.cells #[.int .u8 (e.k : Int), .int .u8 (e.o : Int), .int .u8 (e.t : Int), .int .i32 e.n, .int .i64 e.v, .slice A n c] 45) = V)
    (g0 : V.cell? ⟨0, e.k * 8, none⟩ = some (.int .i32 a0))
    (g1 : V.cell? ⟨0, e.k * 8 + 1, none⟩ = some (.int .i32 a1))
    (g2 : V.cell? ⟨0, e.k * 8 + 2, none⟩ = some (.int .i64 a2))
    (g3 : V.cell? ⟨0, e.k * 8 + 3, none⟩ = some (.int .u8 (a3 : Int)))
    (g4 : V.cell? ⟨0, e.k * 8 + 4, none⟩ = some (.int .u8 (a4 : Int)))
    (g5 : V.cell? ⟨0, e.k * 8 + 5, none⟩ = some (.int .u8 (a5 : Int)))
    (g6 : V.cell? ⟨0, e.k * 8 + 6, none⟩ = some (.int .u8 (a6 : Int)))
    (g7 : V.cell? ⟨0, e.k * 8 + 7, none⟩ = some (.int .i64 (a7 : Int)))
    (hBX : Hid (Below w.heap.size w (V.alloc (.cells #[.int .i32 a0, .int .i32 a1, .int .i64 a2, .int .u8 (a3 : Int), .int .u8 (a4 : Int), .int .u8 (a5 : Int), .int .u8 (a6 : Int), .int .i64 (a7 : Int)] 132)))) (hp : p0 = true ∧ p1 = true ∧ p2 = true ∧ p3 = true ∧ p4 = true ∧ p5 = true ∧ p6 = true ∧ p7 = false) :
    Calls Tryd.prog 65 #[.agg #[.int .u8 (e.k : Int), .int .u8 (e.o : Int), .int .u8 (e.t : Int), .int .i32 e.n, .int .i64 e.v, .slice A n c]] w fun en w' => en = .returned (.bool (p0 && (p1 && (p2 && (p3 && (p4 && (p5 && (p6 && (p7 && (p8)))))))))) ∧ Below w.heap.size w w' := by
  subst hV
  obtain ⟨rfl, rfl, rfl, rfl, rfl, rfl, rfl, rfl⟩ := hp
  simp only [Bool.false_and, Bool.true_and, Bool.false_eq_true, if_true, if_false]
  clear d8
  go_enter Tryd.func65, Tryd.ntmps65
  go_wp2
  all_goals (go_ret; exact ⟨rfl, hBX.out⟩)
set_option maxRecDepth 100000 in
set_option maxHeartbeats 16000000 in
theorem Alone_8 (e : Kx) (A : Option Addr) (n c : Nat) (w : World) (hk0 : (1 : Int) ≤ (e.k : Int)) (hk2 : (e.k : Int) < 7) (a0 a1 a2 : Int) (a3 a4 a5 a6 a7 : Nat) (p0 p1 p2 p3 p4 p5 p6 p7 p8 : Bool) (q0 : ((e.k : Int) == 0) = false)
    (d0 : decide (a0 ≤ e.n) = p0)
    (d1 : decide (e.n ≤ a1) = p1)
    (d2 : decide ((0 : Int) ≤ e.v) = p2)
    (d3 : decide (e.v ≤ a2) = p3)
    (d4 : decide ((a3 : Int) ≤ (e.o : Int)) = p4)
    (d5 : decide ((e.o : Int) ≤ (a4 : Int)) = p5)
    (d6 : decide ((a5 : Int) ≤ (e.t : Int)) = p6)
    (d7 : decide ((e.t : Int) ≤ (a6 : Int)) = p7)
    (u4 : decide (a3 ≤ e.o) = p4) (u5 : decide (e.o ≤ a4) = p5) (u6 : decide (a5 ≤ e.t) = p6) (u7 : decide (e.t ≤ a6) = p7) (d8 : ((n : Int) == (a7 : Int)) = p8)
    (V : World) (hV : w.alloc (.cells #[.int .u8 (e.k : Int), .int .u8 (e.o : Int), .int .u8 (e.t : Int), .int .i32 e.n, .int .i64 e.v, .slice A n c] 45) = V)
    (g0 : V.cell? ⟨0, e.k * 8, none⟩ = some (.int .i32 a0))
    (g1 : V.cell? ⟨0, e.k * 8 + 1, none⟩ = some (.int .i32 a1))
    (g2 : V.cell? ⟨0, e.k * 8 + 2, none⟩ = some (.int .i64 a2))
    (g3 : V.cell? ⟨0, e.k * 8 + 3, none⟩ = some (.int .u8 (a3 : Int)))
    (g4 : V.cell? ⟨0, e.k * 8 + 4, none⟩ = some (.int .u8 (a4 : Int)))
    (g5 : V.cell? ⟨0, e.k * 8 + 5, none⟩ = some (.int .u8 (a5 : Int)))
    (g6 : V.cell? ⟨0, e.k * 8 + 6, none⟩ = some (.int .u8 (a6 : Int)))
    (g7 : V.cell? ⟨0, e.k * 8 + 7, none⟩ = some (.int .i64 (a7 : Int)))
    (hBX : Hid (Below w.heap.size w (V.alloc (.cells #[.int .i32 a0, .int .i32 a1, .int .i64 a2, .int .u8 (a3 : Int), .int .u8 (a4 : Int), .int .u8 (a5 : Int), .int .u8 (a6 : Int), .int .i64 (a7 : Int)] 132)))) (hp : p0 = true ∧ p1 = true ∧ p2 = true ∧ p3 = true ∧ p4 = true ∧ p5 = true ∧ p6 = true ∧ p7 = true ∧ p8 = false) :
    Calls Tryd.prog 65 #[.agg #[.int .u8 (e.k : Int), .int .u8 (e.o : Int), .int .u8 (e.t : Int), .int .i32 e.n, .int .i64 e.v, .slice A n c]] w fun en w' => en = .returned (.bool (p0 && (p1 && (p2 && (p3 && (p4 && (p5 && (p6 && (p7 && (p8)))))))))) ∧ Below w.heap.size w w' := by
  subst hV
  obtain ⟨rfl, rfl, rfl, rfl, rfl, rfl, rfl, rfl, rfl⟩ := hp
  simp only [Bool.false_and, Bool.true_and, Bool.false_eq_true, if_true, if_false]
  go_enter Tryd.func65, Tryd.ntmps65
  go_wp2
  all_goals (go_ret; exact ⟨rfl, hBX.out⟩)
set_option maxRecDepth 100000 in
set_option maxHeartbeats 16000000 in
theorem Alone_9 (e : Kx) (A : Option Addr) (n c : Nat) (w : World) (hk0 : (1 : Int) ≤ (e.k : Int)) (hk2 : (e.k : Int) < 7) (a0 a1 a2 : Int) (a3 a4 a5 a6 a7 : Nat) (p0 p1 p2 p3 p4 p5 p6 p7 p8 : Bool) (q0 : ((e.k : Int) == 0) = false)
    (d0 : decide (a0 ≤ e.n) = p0)
    (d1 : decide (e.n ≤ a1) = p1)
    (d2 : decide ((0 : Int) ≤ e.v) = p2)
    (d3 : decide (e.v ≤ a2) = p3)
    (d4 : decide ((a3 : Int) ≤ (e.o : Int)) = p4)
    (d5 : decide ((e.o : Int) ≤ (a4 : Int)) = p5)
    (d6 : decide ((a5 : Int) ≤ (e.t : Int)) = p6)
    (d7 : decide ((e.t : Int) ≤ (a6 : Int)) = p7)
    (u4 : decide (a3 ≤ e.o) = p4) (u5 : decide (e.o ≤ a4) = p5) (u6 : decide (a5 ≤ e.t) = p6) (u7 : decide (e.t ≤ a6) = p7) (d8 : ((n : Int) == (a7 : Int)) = p8)
    (V : World) (hV : w.alloc (.cells #[.int .u8 (e.k : Int), .int .u8 (e.o : Int), .int .u8 (e.t : Int), .int .i32 e.n, .int .i64 e.v, .slice A n c] 45) = V)
    (g0 : V.cell? ⟨0, e.k * 8, none⟩ = some (.int .i32 a0))
    (g1 : V.cell? ⟨0, e.k * 8 + 1, none⟩ = some (.int .i32 a1))
    (g2 : V.cell? ⟨0, e.k * 8 + 2, none⟩ = some (.int .i64 a2))
    (g3 : V.cell? ⟨0, e.k * 8 + 3, none⟩ = some (.int .u8 (a3 : Int)))
    (g4 : V.cell? ⟨0, e.k * 8 + 4, none⟩ = some (.int .u8 (a4 : Int)))
    (g5 : V.cell? ⟨0, e.k * 8 + 5, none⟩ = some (.int .u8 (a5 : Int)))
    (g6 : V.cell? ⟨0, e.k * 8 + 6, none⟩ = some (.int .u8 (a6 : Int)))
    (g7 : V.cell? ⟨0, e.k * 8 + 7, none⟩ = some (.int .i64 (a7 : Int)))
    (hBX : Hid (Below w.heap.size w (V.alloc (.cells #[.int .i32 a0, .int .i32 a1, .int .i64 a2, .int .u8 (a3 : Int), .int .u8 (a4 : Int), .int .u8 (a5 : Int), .int .u8 (a6 : Int), .int .i64 (a7 : Int)] 132)))) (hp : p0 = true ∧ p1 = true ∧ p2 = true ∧ p3 = true ∧ p4 = true ∧ p5 = true ∧ p6 = true ∧ p7 = true ∧ p8 = true) :
    Calls Tryd.prog 65 #[.agg #[.int .u8 (e.k : Int), .int .u8 (e.o : Int), .int .u8 (e.t : Int), .int .i32 e.n, .int .i64 e.v, .slice A n c]] w fun en w' => en = .returned (.bool (p0 && (p1 && (p2 && (p3 && (p4 && (p5 && (p6 && (p7 && (p8)))))))))) ∧ Below w.heap.size w w' := by
  subst hV
  obtain ⟨rfl, rfl, rfl, rfl, rfl, rfl, rfl, rfl, rfl⟩ := hp
  simp only [Bool.false_and, Bool.true_and, Bool.false_eq_true, if_true, if_false]
  go_enter Tryd.func65, Tryd.ntmps65
  go_wp2
  all_goals (go_ret; exact ⟨rfl, hBX.out⟩)
theorem Alone_any (e : Kx) (A : Option Addr) (n c : Nat) (w : World) (hok : OKk e) (hn : e.l.length = n) (hT : T17 w) : Calls Tryd.prog 65 #[kxV e A n c] w fun en w' => en = .returned (.bool (shX e)) ∧ Below w.heap.size w w' := by
  by_cases hr : e.k = 0 ∨ 7 ≤ e.k
  · have hs : shX e = false := by
      unfold shX
      rw [if_neg (by omega), if_neg (by omega), if_neg (by omega), if_neg (by omega), if_neg (by omega), if_neg (by omega)]
    rw [hs]
    exact Alone_out e A n c w hok.1 hr
  have hk0 : (1 : Int) ≤ (e.k : Int) := by omega
  have hk2 : (e.k : Int) < 7 := by omega
  have q0 : ((e.k : Int) == 0) = false := by simp; omega
  have hV := hT.below (bal (b0 w) (.cells (kxC e A n c) 45))
  have g := hV.form (k := e.k) (by omega)
  have hBX := Lib.hid (bal (bal (b0 w) (.cells (kxC e A n c) 45)) (.cells #[.int .i32 (ev e.k).1, .int .i32 (ev e.k).2.1, .int .i64 (ev e.k).2.2.1, .int .u8 ((ev e.k).2.2.2.1 : Int), .int .u8 ((ev e.k).2.2.2.2.1 : Int), .int .u8 ((ev e.k).2.2.2.2.2.1 : Int), .int .u8 ((ev e.k).2.2.2.2.2.2.1 : Int), .int .i64 ((ev e.k).2.2.2.2.2.2.2 : Int)] 132))
  have d8 : ((n : Int) == ((ev e.k).2.2.2.2.2.2.2 : Int)) = decide (e.l.length = (ev e.k).2.2.2.2.2.2.2) := by rw [hn]; exact nat_eqK _ _
  have u : ∀ {a b : Nat} {x : Bool}, decide ((a : Int) ≤ (b : Int)) = x → decide (a ≤ b) = x := fun h => by rw [← h]; exact decide_eq_decide.2 (by omega)
  rw [ev_sh e hok (by omega) (by omega)]
  have uu : ∀ a b : Nat, decide ((a : Int) ≤ (b : Int)) = decide (a ≤ b) := fun a b => decide_eq_decide.2 (by omega)
  obtain ⟨p0, hp0⟩ : ∃ p, decide ((ev e.k).1 ≤ e.n) = p := ⟨_, rfl⟩
  obtain ⟨p1, hp1⟩ : ∃ p, decide (e.n ≤ (ev e.k).2.1) = p := ⟨_, rfl⟩
  obtain ⟨p2, hp2⟩ : ∃ p, decide (0 ≤ e.v) = p := ⟨_, rfl⟩
  obtain ⟨p3, hp3⟩ : ∃ p, decide (e.v ≤ (ev e.k).2.2.1) = p := ⟨_, rfl⟩
  obtain ⟨p4, hp4⟩ : ∃ p, decide ((ev e.k).2.2.2.1 ≤ e.o) = p := ⟨_, rfl⟩
  obtain ⟨p5, hp5⟩ : ∃ p, decide (e.o ≤ (ev e.k).2.2.2.2.1) = p := ⟨_, rfl⟩
  obtain ⟨p6, hp6⟩ : ∃ p, decide ((ev e.k).2.2.2.2.2.1 ≤ e.t) = p := ⟨_, rfl⟩
  obtain ⟨p7, hp7⟩ : ∃ p, decide (e.t ≤ (ev e.k).2.2.2.2.2.2.1) = p := ⟨_, rfl⟩
  obtain ⟨p8, hp8⟩ : ∃ p, decide (e.l.length = (ev e.k).2.2.2.2.2.2.2) = p := ⟨_, rfl⟩
  rw [hp8] at d8
  rw [hp0, hp1, hp2, hp3, hp4, hp5, hp6, hp7, hp8]
  have k4 := (uu _ _).trans hp4
  have k5 := (uu _ _).trans hp5
  have k6 := (uu _ _).trans hp6
  have k7 := (uu _ _).trans hp7
  by_cases r0 : p0 = false
  · exact Alone_0 e A n c w hk0 hk2 _ _ _ _ _ _ _ _ p0 p1 p2 p3 p4 p5 p6 p7 p8 q0 hp0 hp1 hp2 hp3 k4 k5 k6 k7 hp4 hp5 hp6 hp7 d8 _ rfl (g 0 (by omega)) (g 1 (by omega)) (g 2 (by omega)) (g 3 (by omega)) (g 4 (by omega)) (g 5 (by omega)) (g 6 (by omega)) (g 7 (by omega)) hBX r0
  have r0 : p0 = true := by simpa using r0
  by_cases r1 : p1 = false
  · exact Alone_1 e A n c w hk0 hk2 _ _ _ _ _ _ _ _ p0 p1 p2 p3 p4 p5 p6 p7 p8 q0 hp0 hp1 hp2 hp3 k4 k5 k6 k7 hp4 hp5 hp6 hp7 d8 _ rfl (g 0 (by omega)) (g 1 (by omega)) (g 2 (by omega)) (g 3 (by omega)) (g 4 (by omega)) (g 5 (by omega)) (g 6 (by omega)) (g 7 (by omega)) hBX ⟨r0, r1⟩
  have r1 : p1 = true := by simpa using r1
  by_cases r2 : p2 = false
  · exact Alone_2 e A n c w hk0 hk2 _ _ _ _ _ _ _ _ p0 p1 p2 p3 p4 p5 p6 p7 p8 q0 hp0 hp1 hp2 hp3 k4 k5 k6 k7 hp4 hp5 hp6 hp7 d8 _ rfl (g 0 (by omega)) (g 1 (by omega)) (g 2 (by omega)) (g 3 (by omega)) (g 4 (by omega)) (g 5 (by omega)) (g 6 (by omega)) (g 7 (by omega)) hBX ⟨r0, r1, r2⟩
  have r2 : p2 = true := by simpa using r2
  by_cases r3 : p3 = false
  · exact Alone_3 e A n c w hk0 hk2 _ _ _ _ _ _ _ _ p0 p1 p2 p3 p4 p5 p6 p7 p8 q0 hp0 hp1 hp2 hp3 k4 k5 k6 k7 hp4 hp5 hp6 hp7 d8 _ rfl (g 0 (by omega)) (g 1 (by omega)) (g 2 (by omega)) (g 3 (by omega)) (g 4 (by omega)) (g 5 (by omega)) (g 6 (by omega)) (g 7 (by omega)) hBX ⟨r0, r1, r2, r3⟩
  have r3 : p3 = true := by simpa using r3
  by_cases r4 : p4 = false
  · exact Alone_4 e A n c w hk0 hk2 _ _ _ _ _ _ _ _ p0 p1 p2 p3 p4 p5 p6 p7 p8 q0 hp0 hp1 hp2 hp3 k4 k5 k6 k7 hp4 hp5 hp6 hp7 d8 _ rfl (g 0 (by omega)) (g 1 (by omega)) (g 2 (by omega)) (g 3 (by omega)) (g 4 (by omega)) (g 5 (by omega)) (g 6 (by omega)) (g 7 (by omega)) hBX ⟨r0, r1, r2, r3, r4⟩
  have r4 : p4 = true := by simpa using r4
  by_cases r5 : p5 = false
  · exact Alone_5 e A n c w hk0 hk2 _ _ _ _ _ _ _ _ p0 p1 p2 p3 p4 p5 p6 p7 p8 q0 hp0 hp1 hp2 hp3 k4 k5 k6 k7 hp4 hp5 hp6 hp7 d8 _ rfl (g 0 (by omega)) (g 1 (by omega)) (g 2 (by omega)) (g 3 (by omega)) (g 4 (by omega)) (g 5 (by omega)) (g 6 (by omega)) (g 7 (by omega)) hBX ⟨r0, r1, r2, r3, r4, r5⟩
  have r5 : p5 = true := by simpa using r5
  by_cases r6 : p6 = false
  · exact Alone_6 e A n c w hk0 hk2 _ _ _ _ _ _ _ _ p0 p1 p2 p3 p4 p5 p6 p7 p8 q0 hp0 hp1 hp2 hp3 k4 k5 k6 k7 hp4 hp5 hp6 hp7 d8 _ rfl (g 0 (by omega)) (g 1 (by omega)) (g 2 (by omega)) (g 3 (by omega)) (g 4 (by omega)) (g 5 (by omega)) (g 6 (by omega)) (g 7 (by omega)) hBX ⟨r0, r1, r2, r3, r4, r5, r6⟩
  have r6 : p6 = true := by simpa using r6
  by_cases r7 : p7 = false
  · exact Alone_7 e A n c w hk0 hk2 _ _ _ _ _ _ _ _ p0 p1 p2 p3 p4 p5 p6 p7 p8 q0 hp0 hp1 hp2 hp3 k4 k5 k6 k7 hp4 hp5 hp6 hp7 d8 _ rfl (g 0 (by omega)) (g 1 (by omega)) (g 2 (by omega)) (g 3 (by omega)) (g 4 (by omega)) (g 5 (by omega)) (g 6 (by omega)) (g 7 (by omega)) hBX ⟨r0, r1, r2, r3, r4, r5, r6, r7⟩
  have r7 : p7 = true := by simpa using r7
  by_cases r8 : p8 = false
  · exact Alone_8 e A n c w hk0 hk2 _ _ _ _ _ _ _ _ p0 p1 p2 p3 p4 p5 p6 p7 p8 q0 hp0 hp1 hp2 hp3 k4 k5 k6 k7 hp4 hp5 hp6 hp7 d8 _ rfl (g 0 (by omega)) (g 1 (by omega)) (g 2 (by omega)) (g 3 (by omega)) (g 4 (by omega)) (g 5 (by omega)) (g 6 (by omega)) (g 7 (by omega)) hBX ⟨r0, r1, r2, r3, r4, r5, r6, r7, r8⟩
  have r8 : p8 = true := by simpa using r8
  exact Alone_9 e A n c w hk0 hk2 _ _ _ _ _ _ _ _ p0 p1 p2 p3 p4 p5 p6 p7 p8 q0 hp0 hp1 hp2 hp3 k4 k5 k6 k7 hp4 hp5 hp6 hp7 d8 _ rfl (g 0 (by omega)) (g 1 (by omega)) (g 2 (by omega)) (g 3 (by omega)) (g 4 (by omega)) (g 5 (by omega)) (g 6 (by omega)) (g 7 (by omega)) hBX ⟨r0, r1, r2, r3, r4, r5, r6, r7, r8⟩
end Go.Proofs.YtblckajejohlbaaDoor
/- The program: which expressions are valid (a closure that calls itself and counts). -/
set_option linter.unusedVariables false
set_option linter.unusedSimpArgs false
namespace Go.Proofs.YtblckajejohlbaaDoor
open Go Go.RowKit L8 L22 L17

/-- Inside isValid: its boxes. -/
structure WI (w X : World) (bs bw : Nat) (z : Nat) : Prop where
  b : Below w.heap.size w X
  hs : w.heap.size ≤ bs
  sz : BoxS X bs 3 #[.int .i64 (z : Int)]
  wi : BoxS X bw 110 #[.func (.func 64) #[] #[.pointer (some ⟨bs, 0, none⟩), .pointer (some ⟨bw, 0, none⟩)]]
theorem fr_below {w X Y : World} {bs : Nat} (b : Below w.heap.size w X) (hs : w.heap.size ≤ bs) (f : Fr X Y (fun k => k = bs)) : Below w.heap.size w Y :=
  b.trans (f.below b.size fun k hk => by omega)
theorem fr_al {X Y : World} {P : Nat → Prop} (f : Fr X Y P) (o : Obj) : Fr X (Y.alloc o) P := f.trans (Fr.of (b0 Y |> fun b => bal b o) (fun _ => False)) (fun _ h => h) (fun _ _ h => h.elim)
theorem fr_set1 (W : World) (g j : Nat) (v : Value) : Fr W (W.setCell ⟨g, j, none⟩ v) (fun k => k = g) :=
  ⟨rfl, rfl, rfl, by show _ ≤ (W.heap.modify g _).size; rw [Array.size_modify]; exact Nat.le_refl _, fun k hk hr => Below.heap_setCell W ⟨g, j, none⟩ v k (fun e => hr (by rw [show k = g from e]))⟩
theorem fr_tr {X Y Z : World} {b : Nat} (f : Fr X Y (fun k => k = b)) (g : Fr Y Z (fun k => k = b)) : Fr X Z (fun k => k = b) := f.trans g (fun _ h => h) fun _ _ h => h
theorem WI.ne {w X : World} {bs bw z : Nat} (h : WI w X bs bw z) : bs ≠ bw := box_ne h.sz h.wi (by decide)
theorem WI.fr {w X Y : World} {bs bw z z' : Nat} (h : WI w X bs bw z) (f : Fr X Y (fun k => k = bs)) (s : BoxS Y bs 3 #[.int .i64 (z' : Int)]) : WI w Y bs bw z' :=
  ⟨fr_below h.b h.hs f, h.hs, s, f.box h.wi (fun e => h.ne e.symm)⟩
theorem WI.bel {w X Y : World} {bs bw z : Nat} (h : WI w X bs bw z) (b : Below X.heap.size X Y) : WI w Y bs bw z := ⟨blw h.b b, h.hs, h.sz.below b, h.wi.below b⟩
theorem WI.set {w X : World} {bs bw z z' : Nat} (h : WI w X bs bw z) : WI w (X.setCell ⟨bs, 0, none⟩ (.int .i64 (z' : Int))) bs bw z' := h.fr (fr_set1 X bs 0 _) (by simpa using boxset h.sz 0 (.int .i64 (z' : Int)))
/-- The world inside a call of the closure: what it began with, and the box of its tree. -/
structure WV (w X Y : World) (bs bw z : Nat) (e : Kx) (A : Option Addr) (n c : Nat) : Prop where
  wi : WI w Y bs bw z
  fr : Fr X Y (fun k => k = bs)
  bx : BoxS Y X.heap.size 45 (kxC e A n c)
  lt : bs < X.heap.size
theorem WV.new {w X : World} {bs bw z : Nat} (h : WI w X bs bw z) (e : Kx) (A : Option Addr) (n c : Nat) : WV w X (X.alloc (.cells (kxC e A n c) 45)) bs bw z e A n c :=
  ⟨h.bel (bal (b0 X) _), Fr.of (bal (b0 X) _) _, boxS_new X _ _, h.sz.lt⟩
theorem WV.step {w X Y Z : World} {bs bw z z' : Nat} {e : Kx} {A : Option Addr} {n c : Nat} (h : WV w X Y bs bw z e A n c) (f : Fr Y Z (fun k => k = bs)) (s : BoxS Z bs 3 #[.int .i64 (z' : Int)]) : WV w X Z bs bw z' e A n c :=
  ⟨h.wi.fr f s, fr_tr h.fr f, f.box h.bx (fun e => by have := h.lt; omega), h.lt⟩
theorem WV.up {w X : World} {bs bw z : Nat} (h : WI w X bs bw z) (e : Kx) (A : Option Addr) (n c : Nat) : WV w X ((X.alloc (.cells (kxC e A n c) 45)).setCell ⟨bs, 0, none⟩ (.int .i64 ((z : Int) + 1))) bs bw (z + 1) e A n c := by
  have k := WV.new h e A n c
  have s := boxset k.wi.sz 0 (.int .i64 ((z : Int) + 1))
  refine k.step (z' := z + 1) (fr_set1 _ bs 0 _) ?_
  rw [show (((z + 1 : Nat)) : Int) = (z : Int) + 1 by omega]
  simpa using s
theorem WV.bel {w X Y Z : World} {bs bw z : Nat} {e : Kx} {A : Option Addr} {n c : Nat} (h : WV w X Y bs bw z e A n c) (b : Below Y.heap.size Y Z) : WV w X Z bs bw z e A n c :=
  h.step (Fr.of b _) (h.wi.sz.below b)
theorem WV.cells {w X Y : World} {bs bw z : Nat} {e : Kx} {A : Option Addr} {n c : Nat} (h : WV w X Y bs bw z e A n c) : (Y.cell? ⟨bs, 0, none⟩ = some (.int .i64 (z : Int)) ∧ Y.frozen? ⟨bs, 0, none⟩ = false ∧ Y.cell? ⟨bw, 0, none⟩ = some (.func (.func 64) #[] #[.pointer (some ⟨bs, 0, none⟩), .pointer (some ⟨bw, 0, none⟩)])) ∧
    (Y.cell? ⟨X.heap.size, 0, none⟩ = some (.int .u8 (e.k : Int)) ∧ Y.cell? ⟨X.heap.size, 1, none⟩ = some (.int .u8 (e.o : Int)) ∧ Y.cell? ⟨X.heap.size, 2, none⟩ = some (.int .u8 (e.t : Int)) ∧ Y.cell? ⟨X.heap.size, 3, none⟩ = some (.int .i32 e.n) ∧ Y.cell? ⟨X.heap.size, 4, none⟩ = some (.int .i64 e.v) ∧ Y.cell? ⟨X.heap.size, 5, none⟩ = some (.slice A n c)) :=
  ⟨⟨(h.wi.sz.cell 0).trans rfl, h.wi.sz.frozen 0, (h.wi.wi.cell 0).trans rfl⟩, box6 h.bx⟩
/-- What a call of the closure answers. -/
def WiR (X : World) (bs z : Nat) (e : Kx) (d : Nat) (en : Ending) (w' : World) : Prop := ∃ z' : Nat, en = .returned (.bool (fitX e (256 - z) (33 - d))) ∧ Fr X w' (fun k => k = bs) ∧ BoxS w' bs 3 #[.int .i64 (z' : Int)] ∧ (fitX e (256 - z) (33 - d) = true → z' = z + szX e)
theorem wv_no {w X Y : World} {bs bw z z0 d : Nat} {e : Kx} {A : Option Addr} {n c : Nat} (h : WV w X Y bs bw z e A n c) (hf : fitX e (256 - z0) (33 - d) = false) : WiR X bs z0 e d (.returned (.bool false)) Y := ⟨z, by rw [hf], h.fr, h.wi.sz, fun k => by rw [hf] at k; cases k⟩
set_option maxRecDepth 100000 in
set_option maxHeartbeats 8000000 in
theorem Within_any (w : World) (hT : T17 w) (bs bw : Nat) : ∀ e : Kx, ∀ (A : Option Addr) (n c : Nat) (X : World) (z d : Nat), WI w X bs bw z → KrR w A c e.l → OKk e → e.l.length = n → z ≤ 256 → 1 ≤ d → d ≤ 33 →
    Calls Tryd.prog 64 #[kxV e A n c, .int .i64 (d : Int), .pointer (some ⟨bs, 0, none⟩), .pointer (some ⟨bw, 0, none⟩)] X (WiR X bs z e d) := by
  refine Kx.ind fun e ih A n c X z d HX R hok hn hz hd1 hd => ?_
  have H0 := Lib.hid (WV.new HX e A n c)
  have H1 := Lib.hid (WV.up HX e A n c)
  have hsz : (n : Int) ≤ 9223372036854775807 := by have := R.le; have := R.mx; unfold maxLen at this; omega
  have hz0 : (0 : Int) ≤ (z : Int) := by omega
  have hz1 : (z : Int) ≤ 256 := by omega
  have hd0 : (1 : Int) ≤ (d : Int) := by omega
  have hd2 : (d : Int) ≤ 33 := by omega
  obtain ⟨⟨s0, s1, s2⟩, p0, p1, p2, p3, p4, p5⟩ := H0.out.cells
  obtain ⟨⟨t0, t1, t2⟩, r0, r1, r2, r3, r4, r5⟩ := H1.out.cells
  by_cases h1 : z = 256
  · have hf : fitX e (256 - z) (33 - d) = false := fit_first (.inl (by omega))
    have HE := Lib.hid (wv_no (d := d) (z0 := z) H1.out hf)
    have q1 : decide ((256 : Int) < (z : Int) + 1) = true := decide_eq_true (by omega)
    clear H0 ih R hok hn h1 hf
    dsimp only [kxV, kxC] at *
    go_enter Tryd.func64, Tryd.ntmps64
    go_wp2
    go_ret
    exact HE.out
  have q1 : decide ((256 : Int) < (z : Int) + 1) = false := decide_eq_false (by omega)
  by_cases h2 : d = 33
  · have hf : fitX e (256 - z) (33 - d) = false := fit_first (.inr (.inl (by omega)))
    have HE := Lib.hid (wv_no (d := d) (z0 := z) H1.out hf)
    have q2 : decide ((32 : Int) < (d : Int)) = true := decide_eq_true (by omega)
    clear H0 ih R hok hn h1 h2 hf
    dsimp only [kxV, kxC] at *
    go_enter Tryd.func64, Tryd.ntmps64
    go_wp2
    go_ret
    exact HE.out
  have q2 : decide ((32 : Int) < (d : Int)) = false := decide_eq_false (by omega)
  have CO := Alone_any e A n c _ hok hn (hT.below H1.out.wi.b)
  have HP := Lib.hid fun Y z (H : Hid (WV w X Y bs bw z e A n c)) => H.out.cells
  cases ho : shX e with
  | false =>
    have hf : fitX e (256 - z) (33 - d) = false := fit_first (.inr (.inr ho))
    have HE := Lib.hid fun Y z' (H : Hid (WV w X Y bs bw z' e A n c)) => wv_no (d := d) (z0 := z) H.out hf
    rw [ho] at CO
    have CO := Lib.hid CO
    clear H0 ih R hok hn h1 h2 hf ho
    dsimp only [kxV, kxC] at *
    go_enter Tryd.func64, Tryd.ntmps64
    go_wp2_with (go_at_call 65; (with_reducible refine (CO.out).mono ?_); rintro en w2 ⟨rfl, b⟩; have H2 := Lib.hid (H1.out.bel b); clear b)
    go_ret
    exact HE.out _ _ H2
  | true =>
    rw [ho] at CO
    have CO := Lib.hid CO
    have HN := Lib.hid hn
    have IH : Hid (∀ j, j < n → ∀ (B : Option Addr) (m f z : Nat) (Y : World), WI w Y bs bw z → KrR w B f (e.l.getD j k0).l → OKk (e.l.getD j k0) → (e.l.getD j k0).l.length = m → z ≤ 256 → Calls Tryd.prog 64 #[kxV (e.l.getD j k0) B m f, .int .i64 ((d : Int) + 1), .pointer (some ⟨bs, 0, none⟩), .pointer (some ⟨bw, 0, none⟩)] Y (WiR Y bs z (e.l.getD j k0) (d + 1))) :=
      Lib.hid fun j hj B m f z Y HI R ok hm hz => by
        have := ih _ (memK (by omega)) B m f Y z (d + 1) HI R ok hm hz (by omega) (by omega)
        rwa [show ((d + 1 : Nat) : Int) = (d : Int) + 1 by omega] at this
    have RT := Lib.hid fun j (hj : j < e.l.length) => R.at hj
    have U0 := Lib.hid (upto_zero (e := e) (r := 256 - z) (d := 32 - d) (by omega))
    have UN := Lib.hid fun i (h : upto e (256 - z) (32 - d) i) (hi : i < e.l.length) (hf : fitX (e.l.getD i k0) ((256 - z) - (1 + szK (e.l.take i))) (32 - d) = true) => upto_next h hi hf
    have US := Lib.hid fun i (h : upto e (256 - z) (32 - d) i) => h.2
    have UZ := Lib.hid fun i (hi : i < e.l.length) => (show 1 + szK (e.l.take (i + 1)) = 1 + szK (e.l.take i) + szX (e.l.getD i k0) by rw [szK_take hi]; omega)
    have UE := Lib.hid fun Y z' (H : Hid (WV w X Y bs bw z' e A n c)) (hz' : z' = z + (1 + szK (e.l.take n))) (h : upto e (256 - z) (32 - d) n) => (show WiR X bs z e d (.returned (.bool true)) Y by
      rw [← HN.out] at h
      have hf := upto_end h ho
      rw [show 32 - d + 1 = 33 - d by omega] at hf
      refine ⟨z', by rw [hf], H.out.fr, H.out.wi.sz, fun _ => ?_⟩
      rw [hz', ← HN.out, List.take_length, szX_eq])
    have UF := Lib.hid fun Y z' (H : Hid (WV w X Y bs bw z' e A n c)) i (hi : i < e.l.length) (hf : fitX (e.l.getD i k0) ((256 - z) - (1 + szK (e.l.take i))) (32 - d) = false) => (show WiR X bs z e d (.returned (.bool false)) Y by
      have hf := upto_fail (r := 256 - z) (d := 32 - d) hi hf
      rw [show 32 - d + 1 = 33 - d by omega] at hf
      exact wv_no (d := d) (z0 := z) H.out hf)
    have hz00 : szK (e.l.take 0) = 0 := by simp [szK]
    clear H0 ih R hok h1 h2 ho hn
    dsimp only [kxV, kxC] at *
    go_enter Tryd.func64, Tryd.ntmps64
    go_wp2_with (go_at_call 65; (with_reducible refine (CO.out).mono ?_); rintro en w2 ⟨rfl, b⟩; have H2 := Lib.hid (H1.out.bel b); clear b; clear s0 s1 s2 p0 p1 p2 p3 p4 p5 t0 t1 t2 r0 r1 r2 r3 r4 r5; obtain ⟨⟨t0, t1, t2⟩, r0, r1, r2, r3, r4, r5⟩ := HP.out _ _ H2)
    go_loopw [25] (fun ι wr => ∃ j : Nat, j ≤ n ∧ ι = .int .i64 j ∧ Hid (upto e (256 - z) (32 - d) j) ∧ ∃ z' : Nat, z' = z + (1 + szK (e.l.take j)) ∧ Hid (WV w X wr bs bw z' e A n c)) (fun ι _ => n - (intOf ι).toNat)
    case atStart => exact ⟨0, Nat.zero_le _, rfl, U0, _, by rw [hz00], H2⟩
    case round =>
      obtain ⟨j, hj, rfl, HU, z', hz', H⟩ := hrel
      have hj0 : (0 : Int) ≤ (j : Int) := by omega
      have hs := US.out j HU.out
      clear t0 t1 t2 r0 r1 r2 r3 r4 r5
      obtain ⟨⟨t0, t1, t2⟩, r0, r1, r2, r3, r4, r5⟩ := H.out.cells
      by_cases hlt : (j : Int) < (n : Int)
      · have hjn : j < e.l.length := by have := HN.out; omega
        obtain ⟨ad, rfl, B, m, f, hm, hok, Rc, y0, y1, y2, y3, y4, y5⟩ := RT.out j hjn
        have x0 := (H.out.wi.b.cell (g_lt y0)).trans y0
        have x1 := (H.out.wi.b.cell (g_lt y1)).trans y1
        have x2 := (H.out.wi.b.cell (g_lt y2)).trans y2
        have x3 := (H.out.wi.b.cell (g_lt y3)).trans y3
        have x4 := (H.out.wi.b.cell (g_lt y4)).trans y4
        have x5 := (H.out.wi.b.cell (g_lt y5)).trans y5
        have hg : ∀ g : Bool, fitX (e.l.getD j k0) ((256 - z) - (1 + szK (e.l.take j))) (32 - d) = g → Hid (∀ Y, Hid (WV w X Y bs bw z' e (some ad) n c) → Calls Tryd.prog 64 #[kxV (e.l.getD j k0) B m f, .int .i64 ((d : Int) + 1), .pointer (some ⟨bs, 0, none⟩), .pointer (some ⟨bw, 0, none⟩)] Y fun en w' => ∃ z3 : Nat, en = .returned (.bool g) ∧ Fr Y w' (fun k => k = bs) ∧ BoxS w' bs 3 #[.int .i64 (z3 : Int)] ∧ (g = true → z3 = z' + szX (e.l.getD j k0))) := fun g hg => Lib.hid fun Y HY => by
          have := IH.out j (by omega) B m f z' Y HY.out.wi Rc hok hm (by omega)
          unfold WiR at this
          rw [show 256 - z' = (256 - z) - (1 + szK (e.l.take j)) by omega, show 33 - (d + 1) = 32 - d by omega, hg] at this
          exact this
        have H2 := Lib.hid (H.out.bel (bal (b0 wr) (.cells (kxC (e.l.getD j k0) B m f) 45)))
        clear r0 r1 r2 r3 r4
        obtain ⟨⟨u0, u1, u2⟩, v0, v1, v2, v3, v4, v5⟩ := H2.out.cells
        clear v0 v1 v2 v3 v4 y0 y1 y2 y3 y4 y5
        cases hft : fitX (e.l.getD j k0) ((256 - z) - (1 + szK (e.l.take j))) (32 - d) with
        | false =>
          have C := hg false hft
          have HE := Lib.hid fun Y z' (H : Hid (WV w X Y bs bw z' e (some ad) n c)) => UF.out Y z' H j hjn hft
          clear hg hft Rc hm hok
          generalize e.l.getD j k0 = y at *
          dsimp only [kxV, kxC] at *
          go_wp2_with (go_at_call 64; (with_reducible refine (C.out _ H2).mono ?_); rintro e1 w3 ⟨z3, rfl, f3, s3, _⟩; have H3 := Lib.hid (H2.out.step f3 s3); clear f3 s3)
          go_ret
          exact HE.out _ _ H3
        | true =>
          have C := hg true hft
          have HU3 := Lib.hid (UN.out j HU.out hjn hft)
          have hzz := Lib.hid (UZ.out j hjn)
          clear hg hft Rc hm hok
          generalize hu : szX (e.l.getD j k0) = u at *
          clear hu
          generalize e.l.getD j k0 = y at *
          dsimp only [kxV, kxC] at *
          go_wp2_with (go_at_call 64; (with_reducible refine (C.out _ H2).mono ?_); rintro e1 w3 ⟨z3, rfl, f3, s3, h3⟩; have H3 := Lib.hid (H2.out.step f3 s3); have Z3 := Lib.hid (h3 rfl); clear f3 s3 h3)
          go_roundw
          case rel => exact ⟨j + 1, by omega, by go_num, HU3, z3, by rw [Z3.out, hz', hzz.out]; omega, H3⟩
          case measure => simp [intOf]; omega
      · obtain rfl : j = n := by omega
        have HE := Lib.hid (UE.out _ _ H hz' HU.out)
        go_wp2
        go_ret
        exact HE.out
/-- isValid. -/
theorem IsValid_any (e : Kx) (A : Option Addr) (n c : Nat) (w : World) (R : KrR w A c e.l) (hok : OKk e) (hn : e.l.length = n) (hT : T17 w) : Calls Tryd.prog 46 #[kxV e A n c] w fun en w' => en = .returned (.bool (mayX e)) ∧ Below w.heap.size w w' := by
  have HX : Hid (WI w ((((w.alloc (.cells (kxC e A n c) 45)).alloc (.cells #[.int .i64 0] 3))).alloc (.cells #[.func (.func 64) #[] #[.pointer (some ⟨w.heap.size + 1, 0, none⟩), .pointer (some ⟨w.heap.size + 1 + 1, 0, none⟩)]] 110)) (w.heap.size + 1) (w.heap.size + 1 + 1) 0) := by
    have hb := boxS_new ((w.alloc (.cells (kxC e A n c) 45)).alloc (.cells #[.int .i64 0] 3)) 110 #[.func (.func 64) #[] #[.pointer (some ⟨w.heap.size + 1, 0, none⟩), .pointer (some ⟨w.heap.size + 1 + 1, 0, none⟩)]]
    have hs := (boxS_new (w.alloc (.cells (kxC e A n c) 45)) 3 #[.int .i64 0]).alloc (.cells #[.func (.func 64) #[] #[.pointer (some ⟨w.heap.size + 1, 0, none⟩), .pointer (some ⟨w.heap.size + 1 + 1, 0, none⟩)]] 110)
    rw [World.size_alloc] at hb hs
    rw [World.size_alloc] at hb
    exact Lib.hid ⟨bal (bal (bal (b0 w) _) _) _, by omega, hs, hb⟩
  have C := Within_any w hT _ _ e A n c _ 0 1 HX.out R hok hn (by omega) (by omega) (by omega)
  rw [show ((1 : Nat) : Int) = 1 from rfl] at C
  have C := Lib.hid C
  have HE := Lib.hid fun w' (h : WiR ((((w.alloc (.cells (kxC e A n c) 45)).alloc (.cells #[.int .i64 0] 3))).alloc (.cells #[.func (.func 64) #[] #[.pointer (some ⟨w.heap.size + 1, 0, none⟩), .pointer (some ⟨w.heap.size + 1 + 1, 0, none⟩)]] 110)) (w.heap.size + 1) 0 e 1 (.returned (.bool (mayX e))) w') => (show Below w.heap.size w w' by obtain ⟨z, _, f, _⟩ := h; exact fr_below HX.out.b HX.out.hs f)
  have HM : Hid (fitX e (256 - 0) (33 - 1) = mayX e) := Lib.hid rfl
  clear R hok hn hT
  dsimp only [kxV, kxC] at *
  go_enter Tryd.func46, Tryd.ntmps46
  go_wp2_with (go_at_call 64; (with_reducible refine (C.out).mono ?_); rintro en w2 h; have HB := Lib.hid (HE.out w2 (by obtain ⟨z, h1, h2⟩ := h; exact ⟨z, by rw [HM.out], h2⟩)); obtain ⟨z, rfl, _⟩ := h; rw [HM.out])
  go_ret
  exact ⟨rfl, HB.out⟩
end Go.Proofs.YtblckajejohlbaaDoor
/- The program: Value, index, Place, Same. -/
set_option linter.unusedVariables false
set_option linter.unusedSimpArgs false
namespace Go.Proofs.YtblckajejohlbaaDoor
open Go Go.RowKit L8 L22 L17
open L14 (apO conO inW isT)

set_option maxRecDepth 100000 in
set_option maxHeartbeats 4000000 in
theorem PValue_any (s : St) (S : Option Addr) (sn sc : Nat) (hs : s.length = sn) (e : Kx) (A : Option Addr) (n c : Nat) (w : World) (R : KrR w A c e.l) (hok : OKk e) (hn : e.l.length = n) (T : StR w S sc s) (hT : T17 w) : Calls Tryd.prog 19 #[.slice S sn sc, kxV e A n c] w fun en w' => en = .returned (apR (valK s e)) ∧ Below w.heap.size w w' := by
  have HV := Lib.hid (VS.new (n := n) R T)
  have CM := IsValid_any e A n c _ HV.out.tr hok hn (hT.below HV.out.bel)
  have HP := Lib.hid fun X (H : Hid (VS w X e A n c s S sc)) => H.out.box
  obtain ⟨p0, p1, p2, p3, p4, p5⟩ := HV.out.box
  cases hm : mayX e with
  | false =>
    rw [hm] at CM
    have CM := Lib.hid CM
    rw [valK_no hm]
    clear R T hok hn hT hm
    unfold apR
    dsimp only [kxV, kxC] at *
    go_enter Tryd.func19, Tryd.ntmps19
    go_wp2_with (go_at_call 46; (with_reducible refine (CM.out).mono ?_); rintro en w2 ⟨rfl, b⟩; have H2 := Lib.hid (HV.out.step b); clear b)
    go_ret2
    exact ⟨rfl, H2.out.bel⟩
  | true =>
    rw [hm] at CM
    have CM := Lib.hid CM
    rw [valK_is hm]
    have C := Lib.hid fun X (H : Hid (VS w X e A n c s S sc)) => PVal_any s S sn sc hs T.w e (may_iff.1 hm).1 hok A n c X H.out.tr hn H.out.st
    generalize vlX s e = y at *
    clear R T hok hn hT hm
    unfold apR at *
    dsimp only [kxV, kxC] at *
    go_enter Tryd.func19, Tryd.ntmps19
    go_wp2_with (first
      | (go_at_call 46; (with_reducible refine (CM.out).mono ?_); rintro en w2 ⟨rfl, b⟩; have H2 := Lib.hid (HV.out.step b); clear b; clear p0 p1 p2 p3 p4 p5; obtain ⟨p0, p1, p2, p3, p4, p5⟩ := HP.out _ H2)
      | (go_at_call 47; (with_reducible refine (C.out _ H2).mono ?_); rintro en w3 ⟨rfl, b⟩; have H3 := Lib.hid (H2.out.step b); clear b))
    go_ret2
    exact ⟨rfl, H3.out.bel⟩
end Go.Proofs.YtblckajejohlbaaDoor
