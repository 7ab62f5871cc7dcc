/- The law EvalPlaces. -/
import Derived.Test.YtblckajejohlbaaDoorM10
import Derived.Test.YtblckajejohlbaaDoorM09
import Derived.Test.YtblckajejohlbaaDoorErd
set_option linter.unusedVariables false
set_option linter.unusedSimpArgs false
set_option linter.unusedVariables false
set_option linter.unusedSimpArgs false
namespace Go.Proofs.YtblckajejohlbaaDoor
open Go Go.RowKit L8 L22 L17
open L14 (inW)

/-- A store of the call's own whose words change; its lists stay as long as they were. -/
structure LwW (w X : World) (A : Option Addr) (n c : Nat) (vs : List Value) (t : St) : Prop where
  b : Below w.heap.size w X
  o : ∃ u, OwS X w.heap.size A n c vs u ∧ ∀ i, (u.getD i []).length = (t.getD i []).length
theorem LwW.new {w X : World} {A : Option Addr} {n c : Nat} {vs : List Value} {t : St} (b : Below w.heap.size w X) (o : OwS X w.heap.size A n c vs t) : LwW w X A n c vs t := ⟨b, t, o, fun _ => rfl⟩
theorem LwW.step {w X Y : World} {A : Option Addr} {n c : Nat} {vs : List Value} {t : St} (h : LwW w X A n c vs t) (b : Below X.heap.size X Y) : LwW w Y A n c vs t := ⟨blw h.b b, by obtain ⟨u, o, q⟩ := h.o; exact ⟨u, o.keep b, q⟩⟩
theorem LwW.row {w X : World} {A : Option Addr} {n c : Nat} {vs : List Value} {t : St} (h : LwW w X A n c vs t) {k : Nat} (hk : k < n) : ∃ g P d, A = some ⟨g, 0, none⟩ ∧ X.cell? ⟨g, k, none⟩ = some (.slice P (t.getD k []).length d) ∧ (t.getD k []).length ≤ maxLen := by
  obtain ⟨u, o, q⟩ := h.o
  obtain ⟨g, rfl, _, _⟩ := o.out (by omega)
  obtain ⟨P, d, e, r⟩ := o.row k hk
  rw [e, q] at r
  have hw := (o.st)
  refine ⟨g, P, d, rfl, ?_, ?_⟩
  · rw [o.own.cellAt k (by omega), ← q, ← e, List.getD_eq_getElem?_getD, List.getElem?_eq_getElem (by rw [o.vlen]; exact hk)]
    rfl
  · have := wor_own r (stW_get o.wd k)
    have h1 := this.le
    have h2 := this.mx
    rw [q] at h1
    omega
theorem LwW.wr {w X : World} {A : Option Addr} {n c : Nat} {vs : List Value} {t : St} (h : LwW w X A n c vs t) {k j : Nat} (hk : k < n) (hj : j < (t.getD k []).length) : ∃ g q d y, A = some ⟨g, 0, none⟩ ∧ X.cell? ⟨g, k, none⟩ = some (.slice (some ⟨q, 0, none⟩) (t.getD k []).length d) ∧ X.cell? ⟨q, j, none⟩ = some (.int .i32 y) ∧ X.frozen? ⟨q, j, none⟩ = false ∧ inW y ∧
    ∀ x, inW x → LwW w (X.setCell ⟨q, j, none⟩ (.int .i32 x)) A n c vs t := by
  obtain ⟨u, o, q⟩ := h.o
  obtain ⟨g, rfl, _, _⟩ := o.out (by omega)
  have hu : j < (u.getD k []).length := by rw [q]; exact hj
  obtain ⟨r, d, e, h1, h2, h3, h4, h5⟩ := o.wr hk hu
  refine ⟨g, r, d, (u.getD k []).getD j 0, rfl, ?_, h3, h4, stW_get o.wd k _ ?_, fun x hx => ?_⟩
  · rw [o.own.cellAt k (by omega), ← q, ← e, List.getD_eq_getElem?_getD, List.getElem?_eq_getElem (by rw [o.vlen]; exact hk)]
    rfl
  · generalize u.getD k [] = y at hu
    rw [List.getD_eq_getElem?_getD, List.getElem?_eq_getElem hu]
    exact List.getElem_mem hu
  · obtain ⟨p1, p2⟩ := h5 x hx
    refine ⟨bset h.b h1 _, _, p1, fun i => ?_⟩
    rw [set_getD (by rw [o.len]; exact hk)]
    by_cases e : i = k
    · subst e; rw [if_pos rfl, List.length_set, q]
    · rw [if_neg e, q]
/-- With the place in its box. -/
structure LwP (w X : World) (v : Int) (l : List Kx) (A : Option Addr) (n c : Nat) (s : St) (S : Option Addr) (sc : Nat) : Prop where
  p : PB w X v A n c s S sc
  t : T17 X
  r : KrR X A c l
theorem LwP.step {w X Y : World} {v : Int} {l : List Kx} {A : Option Addr} {n c : Nat} {s : St} {S : Option Addr} {sc : Nat} (h : LwP w X v l A n c s S sc) (b : Below X.heap.size X Y) : LwP w Y v l A n c s S sc := ⟨h.p.step b, h.t.below b, h.r.keep b⟩
theorem wrap32_w (x : Int) : inW (wrap32 x) := by unfold inW wrap32; omega
set_option maxRecDepth 100000 in
set_option maxHeartbeats 16000000 in
theorem walkEvalPlaces (s : St) (S : Option Addr) (sn sc : Nat) (hs : s.length = sn) (pv : Int) (l : List Kx) (A : Option Addr) (n c : Nat) (hn : l.length = n) (v i x : Int) (hx : inW x) (w : World) (T : StR w S sc s) (hM : StM s) (R : KrR w A c l) (hT : T17 w) : Calls Tryd.prog 5 #[.slice S sn sc, .agg #[.int .i64 pv, .slice A n c], .int .i64 v, .int .i64 i, .int .i32 x] w fun en w' => en = .returned (.bool true) ∧ Below w.heap.size w w' := by
  have H0 : Hid (LwP w (w.alloc (.cells #[.int .i64 pv, .slice A n c] 50)) pv l A n c s S sc) := Lib.hid ⟨⟨bal (b0 w) _, boxS_new w _ _, T.keep (bal (b0 w) _)⟩, hT.below (bal (b0 w) _), R.keep (bal (b0 w) _)⟩
  have CG := Lib.hid fun X (h : Hid (LwP w X pv l A n c s S sc)) => great_any s S sn sc X h.out.p.st hs hM.b (by rw [← hs]; exact hM.n)
  have HP := Lib.hid fun X (h : Hid (LwP w X pv l A n c s S sc)) => h.out.p.c
  have CA := Lib.hid fun X (h : T17 X) => awake_any X h
  have C1 := Lib.hid fun X (h : Hid (LwP w X pv l A n c s S sc)) => PPlace_any s S sn sc hs pv l A n c X h.out.r hn h.out.p.st h.out.t
  have C2 := Lib.hid fun X (h : Hid (LwP w X pv l A n c s S sc)) => RPlace_any s S sn sc hs pv l A n c X h.out.r hn h.out.p.st
  unfold plR at C1 C2
  generalize (if (plS s pv l).isSome = true then pv else 0) = a at *
  generalize (plS s pv l).getD 0 = b at *
  generalize (plS s pv l).isSome = z at *
  have q1 : (a == a) = true := by simp
  have q2 : (b == b) = true := by simp
  have q3 : (z == z) = true := by simp
  obtain ⟨p0, p1⟩ := HP.out _ H0
  by_cases g0 : 600 < grS s
  · rw [decide_eq_true g0] at CG
    go_enter Tryd.func5, Tryd.ntmps5
    go_wp2_with (first
      | (go_at_call 11; (with_reducible refine (CG.out _ H0).mono ?_); rintro en w1 ⟨rfl, rfl⟩)
      | (go_at_call 12; (with_reducible refine (CA.out _ H0.out.t).mono ?_); rintro en w1 ⟨rfl, b⟩; have H1 := Lib.hid (H0.out.step b); clear b))
    go_ret
    exact ⟨rfl, H1.out.p.b⟩
  rw [decide_eq_false g0] at CG
  have h6 : sn ≤ 1000000 := by unfold grS at g0; omega
  have M3 : Hid (∀ X, Hid (LwP w X pv l A n c s S sc) → Calls Tryd.prog 23 #[.slice S sn sc, .int .i64 (-1), .int .i64 0, .int .i32 0] X fun en w' => ∃ K kc, en = .returned (.slice K sn kc) ∧ StR w' K kc s ∧ Below X.heap.size X w') := Lib.hid fun X h => (RPut_any s S sn sc (-1) 0 0 ⟨by decide, by decide⟩ X h.out.p.st hs hM.b h6).mono fun en w' ⟨A', c', vs, h1, h2, h3⟩ => by
    rw [put_m, hs] at h1 h2
    exact ⟨A', c', h1, h2.st, h3⟩
  have M4 : Hid (∀ X, Hid (LwP w X pv l A n c s S sc) → Calls Tryd.prog 24 #[.slice S sn sc, .int .i64 v, .int .i64 i, .int .i32 x] X fun en w' => ∃ A' c' vs, en = .returned (.slice A' sn c') ∧ LwW X w' A' sn c' vs (putS s v i x) ∧ StR w' A' c' (putS s v i x)) := Lib.hid fun X h => (PPut_any s S sn sc v i x hx X h.out.p.st hs hM.b h6).mono fun en w' ⟨A', c', vs, h1, h2, h3⟩ => by
    rw [put_len, hs] at h1 h2
    exact ⟨A', c', vs, h1, .new h3 h2, h2.st⟩
  have M5 : Hid (∀ X, Hid (LwP w X pv l A n c s S sc) → Calls Tryd.prog 23 #[.slice S sn sc, .int .i64 v, .int .i64 i, .int .i32 x] X fun en w' => ∃ K kc, en = .returned (.slice K sn kc) ∧ StR w' K kc (putS s v i x) ∧ Below X.heap.size X w') := Lib.hid fun X h => (RPut_any s S sn sc v i x hx X h.out.p.st hs hM.b h6).mono fun en w' ⟨A', c', vs, h1, h2, h3⟩ => by
    rw [put_len, hs] at h1 h2
    exact ⟨A', c', h1, h2.st, h3⟩
  have M6 : Hid (∀ X P Q a b, StR X P a (putS s v i x) → StR X Q b (putS s v i x) → Calls Tryd.prog 15 #[.slice P sn a, .slice Q sn b] X fun en w' => en = .returned (.bool true) ∧ Below X.heap.size X w') := Lib.hid fun X P Q a b h1 h2 => by
    have := RSame_any (putS s v i x) (putS s v i x) P Q sn sn a b X h1 h2 (by rw [put_len, hs]) (by rw [put_len, hs])
    rwa [decide_eq_true rfl] at this
  have M7 : Hid (∀ X P Q a b, StR X P a s → StR X Q b s → Calls Tryd.prog 15 #[.slice P sn a, .slice Q sn b] X fun en w' => en = .returned (.bool true) ∧ Below X.heap.size X w') := Lib.hid fun X P Q a b h1 h2 => by
    have := RSame_any s s P Q sn sn a b X h1 h2 hs hs
    rwa [decide_eq_true rfl] at this
  generalize putS s v i x = t at *
  clear T R hT
  go_enter Tryd.func5, Tryd.ntmps5
  go_wp2_with (first
      | (go_at_call 11; (with_reducible refine (CG.out _ H0).mono ?_); rintro en w1 ⟨rfl, rfl⟩)
      | (go_at_call 21; (with_reducible refine (C1.out _ H0).mono ?_); rintro en w1 ⟨rfl, b⟩; have H1 := Lib.hid (H0.out.step b); clear b; clear p0 p1; obtain ⟨p0, p1⟩ := HP.out _ H1)
      | (go_at_call 22; (with_reducible refine (C2.out _ H1).mono ?_); rintro en w2 ⟨rfl, b⟩; have H2 := Lib.hid (H1.out.step b); clear b; clear p0 p1; obtain ⟨p0, p1⟩ := HP.out _ H2)
      | (go_at_call 23; (with_reducible refine (M3.out _ H2).mono ?_); rintro en w3 ⟨K, kc, rfl, o, b⟩; have H3 := Lib.hid (H2.out.step b); have K3 := Lib.hid o; clear o b)
      | (go_at_call 24; (with_reducible refine (M4.out _ H3).mono ?_); rintro en w4 ⟨A', c', vs, rfl, o, r⟩; have O4 := Lib.hid o; have H4 := Lib.hid (H3.out.step o.b); have R4 := Lib.hid r; clear o r)
      | (go_at_call 23; (with_reducible refine (M5.out _ H4).mono ?_); rintro en w5 ⟨U, uc, rfl, r, b⟩; have O5 := Lib.hid (O4.out.step b); have H5 := Lib.hid (H4.out.step b); have R5 := Lib.hid (R4.out.keep b); have U5 := Lib.hid r; clear b r)
      | (go_at_call 15; (with_reducible refine (M6.out _ _ _ _ _ R5.out U5.out).mono ?_); rintro en w6 ⟨rfl, b⟩; have O6 := Lib.hid (O5.out.step b); clear b))
  have N3 := Lib.hid (show T17 w3 from H3.out.t)
  have B3 := Lib.hid (show Below w.heap.size w w3 from H3.out.p.b)
  have S3 := Lib.hid (show StR w3 S sc s from H3.out.p.st)
  have hsz : (sn : Int) ≤ 9223372036854775807 := by omega
  clear p0 p1 R4 R5 U5 O4 O5 H0 H1 H2 H3 H4 H5 M3 M4 M5 M6 CG HP C1 C2 q1 q2 q3 g0
  go_loopw [68] (fun ι wr => ∃ k : Nat, k ≤ sn ∧ ι = .int .i64 k ∧ Hid (LwW w3 wr A' sn c' vs t)) (fun ι _ => sn - (intOf ι).toNat)
  case atStart => exact ⟨0, Nat.zero_le _, rfl, O6⟩
  case round =>
    obtain ⟨k, hk, rfl, O⟩ := hrel
    have hk0 : (0 : Int) ≤ (k : Int) := by omega
    by_cases hlt : (k : Int) < (sn : Int)
    · obtain ⟨g, P, d, rfl, hc, hmx⟩ := O.out.row (k := k) (by omega)
      have WR := Lib.hid fun X j (h : LwW w3 X (some ⟨g, 0, none⟩) sn c' vs t) (hj : j < (t.getD k []).length) => h.wr (k := k) (by omega) hj
      have RW := Lib.hid fun X (h : LwW w3 X (some ⟨g, 0, none⟩) sn c' vs t) => h.row (k := k) (by omega)
      generalize (t.getD k []).length = m at *
      unfold maxLen at hmx
      have hm0 : (0 : Int) ≤ (m : Int) := by omega
      go_wp2
      go_loopw [76] (fun ι wr => ∃ j : Nat, j ≤ m ∧ ι = .int .i64 j ∧ Hid (LwW w3 wr (some ⟨g, 0, none⟩) sn c' vs t)) (fun ι _ => m - (intOf ι).toNat)
      case atStart => exact ⟨0, Nat.zero_le _, rfl, O⟩
      case round =>
        obtain ⟨j, hj, rfl, O⟩ := hrel
        have hj0 : (0 : Int) ≤ (j : Int) := by omega
        by_cases hlj : (j : Int) < (m : Int)
        · obtain ⟨g', q, d', y, e1, hc2, hy, hfz, hyw, hst⟩ := WR.out _ j O.out (by omega)
          injection e1 with e1
          injection e1 with e1
          subst e1
          go_wp2
          go_roundw
          case rel => exact ⟨j + 1, by omega, by go_num, Lib.hid (hst _ (wrap32_w _))⟩
          case measure => simp [intOf]; omega
        · obtain rfl : j = m := by omega
          go_wp2
          go_roundw
          case rel => exact ⟨k + 1, by omega, by go_num, O⟩
          case measure => simp [intOf]; omega
    · obtain rfl : k = sn := by omega
      have S7 := Lib.hid (S3.out.keep O.out.b)
      have K7 := Lib.hid (K3.out.keep O.out.b)
      have T7 := Lib.hid (N3.out.below O.out.b)
      have B7 := Lib.hid (blw B3.out O.out.b)
      go_wp2_with (first
        | (go_at_call 15; (with_reducible refine (M7.out _ _ _ _ _ S7.out K7.out).mono ?_); rintro en w8 ⟨rfl, b⟩; have T8 := Lib.hid (T7.out.below b); have B8 := Lib.hid (blw B7.out b); clear b)
        | (go_at_call 12; (with_reducible refine (CA.out _ T8.out).mono ?_); rintro en w9 ⟨rfl, b⟩; have B9 := Lib.hid (blw B8.out b); clear b))
      go_ret
      exact ⟨rfl, B9.out⟩
end Go.Proofs.YtblckajejohlbaaDoor
