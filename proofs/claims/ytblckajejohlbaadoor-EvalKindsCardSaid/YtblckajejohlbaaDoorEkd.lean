/- The law EvalKinds. -/
import Derived.Test.YtblckajejohlbaaDoorEst
import Derived.Test.YtblckajejohlbaaDoorEfu
set_option linter.unusedVariables false
set_option linter.unusedSimpArgs false
set_option linter.unusedVariables false
set_option linter.unusedSimpArgs false
namespace Go.Proofs.YtblckajejohlbaaDoor
open Go Go.RowKit L8 L22 L17
open L14 (inW)

/-- What the law was handed. -/
structure KdS (w X : World) (vs : List Vr) (A : Option Addr) (c : Nat) (l : List Int) (L : Option Addr) (lc : Nat) (e : Kx) (E : Option Addr) (m d : Nat) : Prop where
  ks : KS w X e E m d
  t : T17 X
  v : VaR X A c vs
  l : WoR X L lc l
theorem KdS.step {w X Y : World} {vs : List Vr} {A : Option Addr} {c : Nat} {l : List Int} {L : Option Addr} {lc : Nat} {e : Kx} {E : Option Addr} {m d : Nat} (h : KdS w X vs A c l L lc e E m d) (b : Below X.heap.size X Y) : KdS w Y vs A c l L lc e E m d := ⟨h.ks.step b, h.t.below b, h.v.keep b, h.l.keep b⟩
/-- .. with the kernel. -/
structure KdK (w V X : World) (vs : List Vr) (A : Option Addr) (n c : Nat) (l : List Int) (L : Option Addr) (lc : Nat) (e : Kx) (E : Option Addr) (m d : Nat) : Prop where
  s : KdS w X vs A c l L lc e E m d
  k : KB V X A n c
theorem KdK.step {w V X Y : World} {vs : List Vr} {A : Option Addr} {n c : Nat} {l : List Int} {L : Option Addr} {lc : Nat} {e : Kx} {E : Option Addr} {m d : Nat} (h : KdK w V X vs A n c l L lc e E m d) (b : Below X.heap.size X Y) : KdK w V Y vs A n c l L lc e E m d := ⟨h.s.step b, h.k.step b⟩
/-- A store of the call's own that is one of the variables; V: the world ahead of it. -/
structure StK (V X : World) (A : Option Addr) (n c : Nat) (us : List Value) (vs : List Vr) : Prop where
  b : Below V.heap.size V X
  o : ∃ u, OwS X V.heap.size A n c us u ∧ mayS vs u = true
theorem StK.step {V X Y : World} {A : Option Addr} {n c : Nat} {us : List Value} {vs : List Vr} (h : StK V X A n c us vs) (b : Below X.heap.size X Y) : StK V Y A n c us vs := ⟨blw h.b b, by obtain ⟨u, o, q⟩ := h.o; exact ⟨u, o.keep b, q⟩⟩
theorem StK.row {V X : World} {A : Option Addr} {n c : Nat} {us : List Value} {vs : List Vr} (h : StK V X A n c us vs) {k : Nat} (hk : k < n) : ∃ g P d, A = some ⟨g, 0, none⟩ ∧ X.cell? ⟨g, k, none⟩ = some (.slice P (lngV (vs.getD k v0)) d) ∧ sndV (vs.getD k v0) = true := by
  obtain ⟨u, o, q⟩ := h.o
  obtain ⟨g, rfl, _, _⟩ := o.out (by omega)
  obtain ⟨P, d, e, r⟩ := o.row k hk
  have hk' : k < u.length := by rw [o.len]; exact hk
  rw [e, may_lng q hk'] at r
  refine ⟨g, P, d, rfl, ?_, may_snd q hk'⟩
  rw [o.own.cellAt k (by omega), ← may_lng q hk', ← e, List.getD_eq_getElem?_getD, List.getElem?_eq_getElem (by rw [o.vlen]; exact hk)]
  rfl
/-- A word of it is written, and perhaps once more. -/
theorem StK.wr {V X : World} {A : Option Addr} {n c : Nat} {us : List Value} {vs : List Vr} (h : StK V X A n c us vs) {k j : Nat} (hk : k < n) (hj : j < lngV (vs.getD k v0)) : ∃ g q d y, A = some ⟨g, 0, none⟩ ∧ X.cell? ⟨g, k, none⟩ = some (.slice (some ⟨q, 0, none⟩) (lngV (vs.getD k v0)) d) ∧ X.cell? ⟨q, j, none⟩ = some (.int .i32 y) ∧ X.frozen? ⟨q, j, none⟩ = false ∧ V.heap.size ≤ q ∧
    (∀ b cs, BoxS X b 79 cs → b ≠ q) ∧
    ∀ x, inW x → ((X.setCell ⟨q, j, none⟩ (.int .i32 x)).cell? ⟨g, k, none⟩ = some (.slice (some ⟨q, 0, none⟩) (lngV (vs.getD k v0)) d) ∧ (X.setCell ⟨q, j, none⟩ (.int .i32 x)).cell? ⟨q, j, none⟩ = some (.int .i32 x) ∧ (X.setCell ⟨q, j, none⟩ (.int .i32 x)).frozen? ⟨q, j, none⟩ = false ∧ Below V.heap.size V (X.setCell ⟨q, j, none⟩ (.int .i32 x))) ∧
      (L17.fitV (vs.getD k v0).1 x = true → StK V (X.setCell ⟨q, j, none⟩ (.int .i32 x)) A n c us vs) ∧
      ∀ z, inW z → L17.fitV (vs.getD k v0).1 z = true → StK V ((X.setCell ⟨q, j, none⟩ (.int .i32 x)).setCell ⟨q, j, none⟩ (.int .i32 z)) A n c us vs := by
  obtain ⟨u, o, q⟩ := h.o
  obtain ⟨g, rfl, hg1, hg2⟩ := o.out (by omega)
  have hk' : k < u.length := by rw [o.len]; exact hk
  have hlen := may_lng q hk'
  have hu : j < (u.getD k []).length := by omega
  obtain ⟨r, d, e, h1, h2, h3, h4, h5⟩ := o.wr hk hu
  have row : ∀ (W : World) (u' : St), OwS W V.heap.size (some ⟨g, 0, none⟩) n c us u' → W.cell? ⟨g, k, none⟩ = some (.slice (some ⟨r, 0, none⟩) (lngV (vs.getD k v0)) d) := fun W u' o' => by
    rw [o'.own.cellAt k (by omega), ← hlen, ← e, List.getD_eq_getElem?_getD, List.getElem?_eq_getElem (by rw [o.vlen]; exact hk)]
    rfl
  refine ⟨g, r, d, (u.getD k []).getD j 0, rfl, row X u o, h3, h4, h1, fun b cs hb => ?_, fun x hx => ?_⟩
  · obtain ⟨P, d', e', rr⟩ := o.row k hk
    rw [e] at e' rr
    rcases rr.2 with ⟨hv, _⟩ | ⟨g', cap, cur, hv, _, hh, _⟩
    · cases hv
    · injection hv with hv
      injection hv with hv
      injection hv with hv
      subst hv
      exact box_ne hb (show BoxS X r 21 cur from hh) (by decide)
  obtain ⟨p1, p2⟩ := h5 x hx
  have hl2 : k < (u.set k ((u.getD k []).set j x)).length := by rw [List.length_set]; exact hk'
  have hg : (u.set k ((u.getD k []).set j x)).getD k [] = (u.getD k []).set j x := L17.getD_set_self hk' _ _
  have hu2 : j < ((u.set k ((u.getD k []).set j x)).getD k []).length := by rw [hg, List.length_set]; exact hu
  obtain ⟨r', d', e', h1', h2', h3', h4', h5'⟩ := p1.wr hk hu2
  rw [e, hg, List.length_set] at e'
  injection e' with e1 e2 e3
  injection e1 with e1
  injection e1 with e1
  subst e1
  rw [hg, L17.getD_set_self hu] at h3'
  refine ⟨⟨row _ _ p1, h3', h4', bset h.b h1 _⟩, fun hf => ⟨bset h.b h1 _, _, p1, may_set q hk' j hf⟩, fun z hz hf => ?_⟩
  obtain ⟨s1, s2⟩ := h5' z hz
  rw [hg, List.set_set, List.set_set] at s1
  exact ⟨bset (bset h.b h1 _) h1 _, _, s1, may_set q hk' j hf⟩
/-- .. and the store behind the loops. -/
structure KdT (w V X : World) (vs : List Vr) (A : Option Addr) (n c : Nat) (l : List Int) (L : Option Addr) (lc : Nat) (e : Kx) (E : Option Addr) (m d : Nat) (u : St) (P : Option Addr) (a : Nat) : Prop where
  x : KdK w V X vs A n c l L lc e E m d
  r : StR X P a u
theorem KdT.step {w V X Y : World} {vs : List Vr} {A : Option Addr} {n c : Nat} {l : List Int} {L : Option Addr} {lc : Nat} {e : Kx} {E : Option Addr} {m d : Nat} {u : St} {P : Option Addr} {a : Nat} (h : KdT w V X vs A n c l L lc e E m d u P a) (b : Below X.heap.size X Y) : KdT w V Y vs A n c l L lc e E m d u P a := ⟨h.x.step b, h.r.keep b⟩
theorem and255_w (x : Int) : inW (bits .and .i32 x 255) ∧ L17.fitV 2 (bits .and .i32 x 255) = true := by
  rw [and_255]
  exact ⟨by unfold inW; omega, fit_byte (by omega)⟩
theorem and1_w (x : Int) : inW (bits .and .i32 x 1) ∧ L17.fitV 3 (bits .and .i32 x 1) = true := by
  rw [and_1]
  exact ⟨by unfold inW; omega, fit_bool (by omega)⟩
theorem apR_none : apR none = .tuple #[.int .i32 0, .bool false] := rfl
theorem apR_some (x : Int) : apR (some x) = .tuple #[.int .i32 x, .bool true] := rfl
set_option maxRecDepth 100000 in
set_option maxHeartbeats 16000000 in
theorem walkEvalKinds (vs : List Vr) (A : Option Addr) (n c : Nat) (hn : vs.length = n) (l : List Int) (L : Option Addr) (ln lc : Nat) (hl : l.length = ln) (e : Kx) (E : Option Addr) (m d : Nat) (hm : e.l.length = m) (ok : OKk e) (w : World) (RV : VaR w A c vs) (RL : WoR w L lc l) (R : KrR w E d e.l) (hT : T17 w) : Calls Tryd.prog 10 #[.slice A n c, .slice L ln lc, kxV e E m d] w fun en w' => en = .returned (.bool true) ∧ Below w.heap.size w w' := by
  have H0 : Hid (KdS w (w.alloc (.cells (kxC e E m d) 45)) vs A c l L lc e E m d) := Lib.hid ⟨KS.new R, hT.below (bal (b0 w) _), RV.keep (bal (b0 w) _), RL.keep (bal (b0 w) _)⟩
  have CA := Lib.hid fun X (h : Hid (KdS w X vs A c l L lc e E m d)) => awake_any X h.out.t
  have hv := RV.sz hn
  have hmx : ln ≤ maxLen := by have := RL.le; have := RL.mx; omega
  unfold maxLen at hmx
  have HP := Lib.hid fun X (H : Hid (KdS w X vs A c l L lc e E m d)) => H.out.ks.box
  obtain ⟨p0, p1, p2, p3, p4, p5⟩ := HP.out _ H0
  clear RV RL R hT
  dsimp only [kxV, kxC] at *
  by_cases g0 : 300 < n
  · have g0' : (300 : Int) < (n : Int) := by omega
    go_enter Tryd.func10, Tryd.ntmps10
    go_wp2_with (go_at_call 12; (with_reducible refine (CA.out _ H0).mono ?_); rintro en w1 ⟨rfl, b⟩; have H1 := Lib.hid (H0.out.step b); clear b)
    go_ret
    exact ⟨rfl, H1.out.ks.bel⟩
  have g0' : ¬ (300 : Int) < (n : Int) := by omega
  by_cases g1 : 600 < ln
  · have g1' : (600 : Int) < (ln : Int) := by omega
    go_enter Tryd.func10, Tryd.ntmps10
    go_wp2_with (go_at_call 12; (with_reducible refine (CA.out _ H0).mono ?_); rintro en w1 ⟨rfl, b⟩; have H1 := Lib.hid (H0.out.step b); clear b)
    go_ret
    exact ⟨rfl, H1.out.ks.bel⟩
  have g1' : ¬ (600 : Int) < (ln : Int) := by omega
  go_enter Tryd.func10, Tryd.ntmps10
  go_upto_region 4 with fail
  have H1 : Hid (KdK w (w.alloc (.cells #[.int .u8 (e.k : Int), .int .u8 (e.o : Int), .int .u8 (e.t : Int), .int .i32 e.n, .int .i64 e.v, .slice E m d] 45)) ((w.alloc (.cells #[.int .u8 (e.k : Int), .int .u8 (e.o : Int), .int .u8 (e.t : Int), .int .i32 e.n, .int .i64 e.v, .slice E m d] 45)).alloc (.cells #[.slice A n c, .slice none 0 0, .int .u8 0, .int .i64 0, .int .i64 0, .int .u8 0, .slice none 0 0, .slice none 0 0, .slice none 0 0, .slice none 0 0, .slice none 0 0] 37)) vs A n c l L lc e E m d) := Lib.hid ⟨H0.out.step (bal (b0 _) _), KB.new _ A n c⟩
  have hV : Hid ((w.alloc (.cells #[.int .u8 (e.k : Int), .int .u8 (e.o : Int), .int .u8 (e.t : Int), .int .i32 e.n, .int .i64 e.v, .slice E m d] 45)).heap.size = w.heap.size + 1) := Lib.hid (World.size_alloc _ _)
  clear p0 p1 p2 p3 p4 p5 H0
  generalize w.alloc (.cells #[.int .u8 (e.k : Int), .int .u8 (e.o : Int), .int .u8 (e.t : Int), .int .i32 e.n, .int .i64 e.v, .slice E m d] 45) = V1 at *
  generalize V1.alloc (.cells #[.slice A n c, .slice none 0 0, .int .u8 0, .int .i64 0, .int .i64 0, .int .u8 0, .slice none 0 0, .slice none 0 0, .slice none 0 0, .slice none 0 0, .slice none 0 0] 37) = W2 at *
  have HK : Hid (∀ X, Hid (KdK w V1 X vs A n c l L lc e E m d) → X.cell? ⟨w.heap.size + 1, 0, none⟩ = some (.slice A n c) ∧ X.cell? ⟨w.heap.size + 1, 1, none⟩ = some (.slice none 0 0) ∧ X.cell? ⟨w.heap.size + 1, 2, none⟩ = some (.int .u8 0) ∧ X.cell? ⟨w.heap.size + 1, 3, none⟩ = some (.int .i64 0) ∧ X.cell? ⟨w.heap.size + 1, 4, none⟩ = some (.int .i64 0) ∧ X.cell? ⟨w.heap.size + 1, 5, none⟩ = some (.int .u8 0) ∧ X.cell? ⟨w.heap.size + 1, 6, none⟩ = some (.slice none 0 0) ∧ X.cell? ⟨w.heap.size + 1, 7, none⟩ = some (.slice none 0 0) ∧ X.cell? ⟨w.heap.size + 1, 8, none⟩ = some (.slice none 0 0) ∧ X.cell? ⟨w.heap.size + 1, 9, none⟩ = some (.slice none 0 0) ∧ X.cell? ⟨w.heap.size + 1, 10, none⟩ = some (.slice none 0 0)) := Lib.hid fun X H => by
    have h := H.out.k.cc
    simp only [hV.out] at h
    exact h
  have HQ := Lib.hid fun X (H : Hid (KdK w V1 X vs A n c l L lc e E m d)) => H.out.s.ks.box
  have CB := Lib.hid fun X (h : Hid (KdK w V1 X vs A n c l L lc e E m d)) => awake_any X h.out.s.t
  clear CA HP hV
  obtain ⟨k0, k1, k2, k3, k4, k5, k6, k7, k8, k9, k10⟩ := HK.out _ H1
  cases hsn : sndL vs with
  | false =>
    have CS : Hid (∀ X, Hid (KdK w V1 X vs A n c l L lc e E m d) → Calls Tryd.prog 13 #[kzV A n c] X fun en w' => ∃ P a, en = .returned (.slice P 0 a) ∧ StR w' P a [] ∧ Below X.heap.size X w') := Lib.hid fun X h => (PStore_no vs A n c X h.out.s.v hn hsn).mono fun en w' ⟨P, a, us, h1, h2, h3⟩ => ⟨P, a, h1, h2.st, h3⟩
    have CR : Hid (∀ X, Hid (KdK w V1 X vs A n c l L lc e E m d) → Calls Tryd.prog 14 #[kzV A n c] X fun en w' => ∃ P a, en = .returned (.slice P 0 a) ∧ Below X.heap.size X w') := Lib.hid fun X h => (RStore_any vs A n c X h.out.s.v hn).mono fun en w' ⟨P, a, us, h1, h2, h3⟩ => by
      rw [hsn] at h1
      exact ⟨P, a, h1, h3⟩
    have CM : Hid (∀ X P a, Hid (KdK w V1 X vs A n c l L lc e E m d) → StR X P a [] → Calls Tryd.prog 17 #[kzV A n c, .slice P 0 a] X fun en w' => en = .returned (.bool false) ∧ Below X.heap.size X w') := Lib.hid fun X P a h r => by
      have := RMay_any vs [] A P n 0 c a X h.out.s.v r hn rfl
      rwa [may_unsound hsn] at this
    clear hsn
    go_wp2_with (first
      | (go_at_call 13; (with_reducible refine (CS.out _ H1).mono ?_); rintro en w2 ⟨P, a, rfl, o, b⟩; have H2 := Lib.hid (H1.out.step b); have O2 := Lib.hid o; clear o b; clear k0 k1 k2 k3 k4 k5 k6 k7 k8 k9 k10; obtain ⟨k0, k1, k2, k3, k4, k5, k6, k7, k8, k9, k10⟩ := HK.out _ H2)
      | (go_at_call 17; (with_reducible refine (CM.out _ _ _ H2 O2.out).mono ?_); rintro en w3 ⟨rfl, b⟩; have H3 := Lib.hid (H2.out.step b); clear b; clear k0 k1 k2 k3 k4 k5 k6 k7 k8 k9 k10; obtain ⟨k0, k1, k2, k3, k4, k5, k6, k7, k8, k9, k10⟩ := HK.out _ H3)
      | (go_at_call 14; (with_reducible refine (CR.out _ H3).mono ?_); rintro en w4 ⟨Q, q, rfl, b⟩; have H4 := Lib.hid (H3.out.step b); clear b)
      | (go_at_call 12; (with_reducible refine (CB.out _ H4).mono ?_); rintro en w5 ⟨rfl, b⟩; have H5 := Lib.hid (H4.out.step b); clear b))
    go_ret
    exact ⟨rfl, H5.out.s.ks.bel⟩
  | true =>
  have CS : Hid (∀ X, Hid (KdK w V1 X vs A n c l L lc e E m d) → Calls Tryd.prog 13 #[kzV A n c] X fun en w' => ∃ P a us, en = .returned (.slice P n a) ∧ StK X w' P n a us vs ∧ StR w' P a (stoV vs) ∧ Below X.heap.size X w') := Lib.hid fun X h => (PStore_yes vs A n c X h.out.s.v hn hsn).mono fun en w' ⟨P, a, us, h1, h2, h3⟩ => by
    rw [sto_len, hn] at h1 h2
    exact ⟨P, a, us, h1, ⟨h3, _, h2, sto_may hsn⟩, h2.st, h3⟩
  have CM : Hid (∀ X P a, Hid (KdK w V1 X vs A n c l L lc e E m d) → StR X P a (stoV vs) → Calls Tryd.prog 17 #[kzV A n c, .slice P n a] X fun en w' => en = .returned (.bool true) ∧ Below X.heap.size X w') := Lib.hid fun X P a h r => by
    have := RMay_any vs (stoV vs) A P n n c a X h.out.s.v r hn (by rw [sto_len, hn])
    rwa [sto_may hsn] at this
  clear hsn
  go_wp2_with (first
      | (go_at_call 13; (with_reducible refine (CS.out _ H1).mono ?_); rintro en w2 ⟨P, a, us, rfl, o, r, b⟩; have H2 := Lib.hid (H1.out.step b); have O2 := Lib.hid o; have R2 := Lib.hid r; clear o r b; clear k0 k1 k2 k3 k4 k5 k6 k7 k8 k9 k10; obtain ⟨k0, k1, k2, k3, k4, k5, k6, k7, k8, k9, k10⟩ := HK.out _ H2)
      | (go_at_call 17; (with_reducible refine (CM.out _ _ _ H2 R2.out).mono ?_); rintro en w3 ⟨rfl, b⟩; have H3 := Lib.hid (H2.out.step b); have O3 := Lib.hid (O2.out.step b); clear b; clear k0 k1 k2 k3 k4 k5 k6 k7 k8 k9 k10))
  clear CS CM R2 O2 H2 H3
  have hn0 : (0 : Int) ≤ (n : Int) := by omega
  have hl0 : (0 : Int) ≤ (ln : Int) := by omega
  have HN := Lib.hid hn
  have HL := Lib.hid hl
  clear hn hl
  go_loopw [9, 51] (fun t ι wr => ∃ i q : Nat, i ≤ n ∧ q ≤ ln ∧ t = .int .i64 q ∧ ι = .int .i64 i ∧ Hid (StK W2 wr P n a us vs)) (fun _ ι _ => n - (intOf ι).toNat)
  case atStart => exact ⟨0, 0, Nat.zero_le _, Nat.zero_le _, rfl, rfl, O3⟩
  case round =>
    obtain ⟨i, q, hi, hq, rfl, rfl, H⟩ := hrel
    have hi0 : (0 : Int) ≤ (i : Int) := by omega
    by_cases hlt : (i : Int) < (n : Int)
    · have hin : i < n := by omega
      obtain ⟨V, hV⟩ : ∃ V, V = wr := ⟨_, rfl⟩
      subst hV
      obtain ⟨aa, rfl, z0, z1⟩ := (H1.out.s.v.keep H.out.b).rd i (by have := HN.out; omega)
      obtain ⟨g, Pi, di, rfl, y0, hsy⟩ := H.out.row hin
      have WR := Lib.hid fun X j (h : StK W2 X (some ⟨g, 0, none⟩) n a us vs) (hj : j < lngV (vs.getD i v0)) => h.wr (k := i) hin hj
      have hly := lng_le hsy
      have hkd : Hid ((vs.getD i v0).1 = 1 ∨ (vs.getD i v0).1 = 2 ∨ (vs.getD i v0).1 = 3) := Lib.hid (by unfold sndV at hsy; simp only [Bool.and_eq_true, decide_eq_true_eq] at hsy; omega)
      clear hsy
      generalize vs.getD i v0 = y at *
      generalize lngV y = N at *
      have H' : Hid (StK W2 (V.alloc (.cells #[.int .u8 (y.1 : Int), .int .i64 y.2] 79)) (some ⟨g, 0, none⟩) n a us vs) := Lib.hid (H.out.step (bal (b0 _) _))
      have B' : Hid (BoxS (V.alloc (.cells #[.int .u8 (y.1 : Int), .int .i64 y.2] 79)) V.heap.size 79 #[.int .u8 (y.1 : Int), .int .i64 y.2]) := Lib.hid (boxS_new V _ _)
      have hN0 : (0 : Int) ≤ (N : Int) := by omega
      have hN1 : (N : Int) ≤ 64 := by omega
      have y0' := ((bal (b0 V) (.cells #[.int .u8 (y.1 : Int), .int .i64 y.2] 79)).cell (g_lt y0)).trans y0
      go_wp2
      go_loopw [9, 61] (fun t ι wx => ∃ j q : Nat, j ≤ N ∧ q ≤ ln ∧ t = .int .i64 q ∧ ι = .int .i64 j ∧ Hid (StK W2 wx (some ⟨g, 0, none⟩) n a us vs) ∧ Hid (BoxS wx V.heap.size 79 #[.int .u8 (y.1 : Int), .int .i64 y.2])) (fun _ ι _ => N - (intOf ι).toNat)
      case atStart => exact ⟨0, q, Nat.zero_le _, hq, rfl, rfl, H', B'⟩
      case round =>
        clear z0 z1 y0 y0' H' B' H O3 hq
        obtain ⟨j, q, hj, hq, rfl, rfl, H, B⟩ := hrel
        have hj0 : (0 : Int) ≤ (j : Int) := by omega
        have hq0 : (0 : Int) ≤ (q : Int) := by omega
        by_cases hlj : (j : Int) < (N : Int)
        · by_cases hql : (q : Int) < (ln : Int)
          · have hqn : ((q : Int) == (ln : Int)) = false := by simp; omega
            have IX : Hid (StK W2 wr.drew (some ⟨g, 0, none⟩) n a us vs) := Lib.hid (H.out.step (bdrew (b0 wr) 1))
            have BX : Hid (BoxS wr.drew V.heap.size 79 #[.int .u8 (y.1 : Int), .int .i64 y.2]) := Lib.hid B.out
            obtain ⟨g', r, dr, yo, e1, f0, f1, f2, f3, f4, f5⟩ := WR.out _ j IX.out (by omega)
            injection e1 with e1
            injection e1 with e1
            subst e1
            obtain ⟨la, rfl, uw⟩ := H1.out.s.l.rd q (by have := HL.out; omega)
            have u0 := (IX.out.b.cell (g_lt uw)).trans uw
            have hxw : inW (l.getD q 0) := H1.out.s.l.w (by have := HL.out; omega)
            generalize l.getD q 0 = x at *
            obtain ⟨⟨s0, s1, s2, s3⟩, s4, s5⟩ := f5 x hxw
            have u1 := (s3.cell (g_lt uw)).trans uw
            have S0 := Lib.hid (And.intro f0 u0)
            have S1 : Hid ((wr.setCell ⟨r, j, none⟩ (.int .i32 x)).drew.cell? ⟨g, i, none⟩ = some (.slice (some ⟨r, 0, none⟩) N dr) ∧ (wr.setCell ⟨r, j, none⟩ (.int .i32 x)).drew.cell? (la.add q) = some (.int .i32 x)) := Lib.hid ⟨s0, u1⟩
            have hi1 : (i : Int) < (n : Int) := hlt
            go_upto_region 17 with fail
            go_region_held3 (fun w' => w'.cell? ⟨g, i, none⟩ = some (.slice (some ⟨r, 0, none⟩) N dr) ∧ w'.cell? (la.add q) = some (.int .i32 x))
              (first | (with_reducible exact S1.out) | (with_reducible exact S0.out)) (fail)
            have B2 : BoxS (wr.setCell ⟨r, j, none⟩ (.int .i32 x)).drew V.heap.size 79 #[.int .u8 (y.1 : Int), .int .i64 y.2] := boxS_other BX.out (f4 _ _ BX.out) _
            have t1 : (wr.setCell ⟨r, j, none⟩ (.int .i32 x)).drew.cell? ⟨r, j, none⟩ = some (.int .i32 x) := s1
            have t2 : (wr.setCell ⟨r, j, none⟩ (.int .i32 x)).drew.frozen? ⟨r, j, none⟩ = false := s2
            have t0 := S1.out.1
            have T4 : Hid (L17.fitV y.1 x = true → StK W2 (wr.setCell ⟨r, j, none⟩ (.int .i32 x)).drew (some ⟨g, 0, none⟩) n a us vs) := Lib.hid s4
            have T5 : Hid (∀ z, inW z → L17.fitV y.1 z = true → StK W2 ((wr.setCell ⟨r, j, none⟩ (.int .i32 x)).drew.setCell ⟨r, j, none⟩ (.int .i32 z)) (some ⟨g, 0, none⟩) n a us vs) := Lib.hid s5
            have HB2 := Lib.hid B2
            have hne := Lib.hid (f4 _ _ BX.out)
            obtain ⟨b0', b1'⟩ := box2v B2
            go_step
            go_step
            clear uw S0 S1 f0 f1 f2 f3 s0 s1 s2 s3 s4 s5 u0 u1 IX BX B H B2 f5 WR
            generalize (wr.setCell ⟨r, j, none⟩ (.int .i32 x)).drew = Y at *
            rcases hkd.out with hy | hy | hy
            · have e2 : ((y.1 : Int) == 2) = false := by rw [hy]; rfl
              have e3 : ((y.1 : Int) == 3) = false := by rw [hy]; rfl
              have F := Lib.hid (T4.out (by rw [hy]; exact fit_int x))
              clear hy T4 T5
              go_wp2
              go_roundw
              case rel => exact ⟨j + 1, q + 1, by omega, by omega, by go_num, by go_num, F, HB2⟩
              case measure => simp [intOf]; omega
            · have e2 : ((y.1 : Int) == 2) = true := by rw [hy]; rfl
              have F := Lib.hid (T5.out _ (and255_w x).1 (by rw [hy]; exact (and255_w x).2))
              have G := Lib.hid (boxS_other HB2.out hne.out (j := j) (.int .i32 (bits .and .i32 x 255)))
              clear hy T4 T5
              go_wp2
              go_roundw
              case rel => exact ⟨j + 1, q + 1, by omega, by omega, by go_num, by go_num, F, G⟩
              case measure => simp [intOf]; omega
            · have e2 : ((y.1 : Int) == 2) = false := by rw [hy]; rfl
              have e3 : ((y.1 : Int) == 3) = true := by rw [hy]; rfl
              have F := Lib.hid (T5.out _ (and1_w x).1 (by rw [hy]; exact (and1_w x).2))
              have G := Lib.hid (boxS_other HB2.out hne.out (j := j) (.int .i32 (bits .and .i32 x 1)))
              clear hy T4 T5
              go_wp2
              go_roundw
              case rel => exact ⟨j + 1, q + 1, by omega, by omega, by go_num, by go_num, F, G⟩
              case measure => simp [intOf]; omega
          · obtain rfl : q = ln := by omega
            go_wp2
            go_roundw
            case rel => exact ⟨i + 1, q, by omega, Nat.le_refl _, rfl, by go_num, H⟩
            case measure => simp [intOf]; omega
        · obtain rfl : j = N := by omega
          go_wp2
          go_roundw
          case rel => exact ⟨i + 1, q, by omega, hq, rfl, by go_num, H⟩
          case measure => simp [intOf]; omega
    · obtain rfl : i = n := by omega
      obtain ⟨u, o, hmay⟩ := H.out.o
      have hlu := o.len
      have K0 : Hid (KdT w V1 wr vs A i c l L lc e E m d u P a) := Lib.hid ⟨H1.out.step H.out.b, o.st⟩
      have HK2 := Lib.hid fun X (h : Hid (KdT w V1 X vs A i c l L lc e E m d u P a)) => HK.out X (Lib.hid h.out.x)
      have HQ2 := Lib.hid fun X (h : Hid (KdT w V1 X vs A i c l L lc e E m d u P a)) => h.out.x.s.ks.box
      have CW := Lib.hid fun X (h : Hid (KdT w V1 X vs A i c l L lc e E m d u P a)) => awake_any X h.out.x.s.t
      have CM2 : Hid (∀ X, Hid (KdT w V1 X vs A i c l L lc e E m d u P a) → Calls Tryd.prog 16 #[kzV A i c, .slice P i a] X fun en w' => en = .returned (.bool true) ∧ Below X.heap.size X w') := Lib.hid fun X h => by
        have := PMay_any vs u A P i i c a X h.out.x.s.v h.out.r HN.out hlu
        rwa [hmay] at this
      have CV := Lib.hid fun X (h : Hid (KdT w V1 X vs A i c l L lc e E m d u P a)) => PValue_any u P i a hlu e E m d X h.out.x.s.ks.tr ok hm h.out.r h.out.x.s.t
      have CF3 : Hid (∀ X, Hid (KdT w V1 X vs A i c l L lc e E m d u P a) → Calls Tryd.prog 35 #[.slice A i c, kxV e E m d, .int .u8 3] X fun en w' => en = .returned (.bool (mayX e && ftX vs e 3)) ∧ Below X.heap.size X w') := Lib.hid fun X h => by
        have := RFits_any vs A i c HN.out e E m d 3 X (by omega) h.out.x.s.ks.tr hm ok h.out.x.s.v
        exact this
      have CF2 : Hid (∀ X, Hid (KdT w V1 X vs A i c l L lc e E m d u P a) → Calls Tryd.prog 35 #[.slice A i c, kxV e E m d, .int .u8 2] X fun en w' => en = .returned (.bool (mayX e && ftX vs e 2)) ∧ Below X.heap.size X w') := Lib.hid fun X h => by
        have := RFits_any vs A i c HN.out e E m d 2 X (by omega) h.out.x.s.ks.tr hm ok h.out.x.s.v
        exact this
      have KX : Hid (∀ x, valK u e = some x → ((mayX e && ftX vs e 3) = true → x = 0 ∨ x = 1) ∧ ((mayX e && ftX vs e 2) = true → 0 ≤ x ∧ x ≤ 255)) := Lib.hid fun x hx => by
        have hmy : mayX e = true := by
          cases h : mayX e with
          | true => rfl
          | false => rw [valK_no h] at hx; cases hx
        rw [valK_is hmy] at hx
        have ho : okX e = true := (may_iff.1 hmy).1
        rw [hmy]
        exact ⟨fun h => bool_fit (kinds hmay ho (.inr rfl) (by simpa using h) hx), fun h => byte_fit (kinds hmay ho (.inl rfl) (by simpa using h) hx)⟩
      clear H o hmay hlu HK HQ H1 CB O3 hq
      generalize (mayX e && ftX vs e 3) = f3 at *
      generalize (mayX e && ftX vs e 2) = f2 at *
      generalize valK u e = v at *
      obtain ⟨k0, k1, k2, k3, k4, k5, k6, k7, k8, k9, k10⟩ := HK2.out _ K0
      unfold apR at CV
      dsimp only [kxV] at CV CF3 CF2
      cases v with
      | none =>
        clear KX CF3 CF2
        dsimp only [Option.getD_none, Option.isSome_none] at CV
        go_wp2_with (first
          | (go_at_call 16; (with_reducible refine (CM2.out _ K0).mono ?_); rintro en w1 ⟨rfl, b⟩; have K1 := Lib.hid (K0.out.step b); clear b; clear k0 k1 k2 k3 k4 k5 k6 k7 k8 k9 k10; obtain ⟨p0, p1, p2, p3, p4, p5⟩ := HQ2.out _ K1)
          | (go_at_call 19; (with_reducible refine (CV.out _ K1).mono ?_); rintro en w2 ⟨rfl, b⟩; have K2 := Lib.hid (K1.out.step b); clear b; clear p0 p1 p2 p3 p4 p5; obtain ⟨p0, p1, p2, p3, p4, p5⟩ := HQ2.out _ K2)
          | (go_at_call 12; (with_reducible refine (CW.out _ K2).mono ?_); rintro en w5 ⟨rfl, b⟩; have K5 := Lib.hid (K2.out.step b); clear b))
        go_ret
        exact ⟨rfl, K5.out.x.s.ks.bel⟩
      | some x =>
        obtain ⟨hx3, hx2⟩ := KX.out x rfl
        clear KX
        dsimp only [Option.getD_some, Option.isSome_some] at CV
        cases f3 with
        | true =>
          rcases hx3 rfl with rfl | rfl
          all_goals
            clear hx3 hx2
            cases f2
            all_goals
              go_wp2_with (first
                | (go_at_call 16; (with_reducible refine (CM2.out _ K0).mono ?_); rintro en w1 ⟨rfl, b⟩; have K1 := Lib.hid (K0.out.step b); clear b; clear k0 k1 k2 k3 k4 k5 k6 k7 k8 k9 k10; obtain ⟨p0, p1, p2, p3, p4, p5⟩ := HQ2.out _ K1)
                | (go_at_call 19; (with_reducible refine (CV.out _ K1).mono ?_); rintro en w2 ⟨rfl, b⟩; have K2 := Lib.hid (K1.out.step b); clear b; clear p0 p1 p2 p3 p4 p5; obtain ⟨p0, p1, p2, p3, p4, p5⟩ := HQ2.out _ K2)
                | (go_at_call 35; (with_reducible refine (CF3.out _ K2).mono ?_); rintro en w3 ⟨rfl, b⟩; have K3 := Lib.hid (K2.out.step b); clear b; clear p0 p1 p2 p3 p4 p5; obtain ⟨p0, p1, p2, p3, p4, p5⟩ := HQ2.out _ K3)
                | (go_at_call 35; (with_reducible refine (CF2.out _ K3).mono ?_); rintro en w4 ⟨rfl, b⟩; have K4 := Lib.hid (K3.out.step b); clear b; clear p0 p1 p2 p3 p4 p5; obtain ⟨p0, p1, p2, p3, p4, p5⟩ := HQ2.out _ K4)
                | (go_at_call 12; (with_reducible refine (CW.out _ K4).mono ?_); rintro en w5 ⟨rfl, b⟩; have K5 := Lib.hid (K4.out.step b); clear b))
              go_ret
              exact ⟨rfl, K5.out.x.s.ks.bel⟩
        | false =>
          clear hx3
          cases f2 with
          | true =>
            have n0 : ¬ x < 0 := by have := hx2 rfl; omega
            have n1 : ¬ (255 : Int) < x := by have := hx2 rfl; omega
            clear hx2
            go_wp2_with (first
              | (go_at_call 16; (with_reducible refine (CM2.out _ K0).mono ?_); rintro en w1 ⟨rfl, b⟩; have K1 := Lib.hid (K0.out.step b); clear b; clear k0 k1 k2 k3 k4 k5 k6 k7 k8 k9 k10; obtain ⟨p0, p1, p2, p3, p4, p5⟩ := HQ2.out _ K1)
              | (go_at_call 19; (with_reducible refine (CV.out _ K1).mono ?_); rintro en w2 ⟨rfl, b⟩; have K2 := Lib.hid (K1.out.step b); clear b; clear p0 p1 p2 p3 p4 p5; obtain ⟨p0, p1, p2, p3, p4, p5⟩ := HQ2.out _ K2)
              | (go_at_call 35; (with_reducible refine (CF3.out _ K2).mono ?_); rintro en w3 ⟨rfl, b⟩; have K3 := Lib.hid (K2.out.step b); clear b; clear p0 p1 p2 p3 p4 p5; obtain ⟨p0, p1, p2, p3, p4, p5⟩ := HQ2.out _ K3)
              | (go_at_call 35; (with_reducible refine (CF2.out _ K3).mono ?_); rintro en w4 ⟨rfl, b⟩; have K4 := Lib.hid (K3.out.step b); clear b; clear p0 p1 p2 p3 p4 p5; obtain ⟨p0, p1, p2, p3, p4, p5⟩ := HQ2.out _ K4)
              | (go_at_call 12; (with_reducible refine (CW.out _ K4).mono ?_); rintro en w5 ⟨rfl, b⟩; have K5 := Lib.hid (K4.out.step b); clear b))
            go_ret
            exact ⟨rfl, K5.out.x.s.ks.bel⟩
          | false =>
            clear hx2
            go_wp2_with (first
              | (go_at_call 16; (with_reducible refine (CM2.out _ K0).mono ?_); rintro en w1 ⟨rfl, b⟩; have K1 := Lib.hid (K0.out.step b); clear b; clear k0 k1 k2 k3 k4 k5 k6 k7 k8 k9 k10; obtain ⟨p0, p1, p2, p3, p4, p5⟩ := HQ2.out _ K1)
              | (go_at_call 19; (with_reducible refine (CV.out _ K1).mono ?_); rintro en w2 ⟨rfl, b⟩; have K2 := Lib.hid (K1.out.step b); clear b; clear p0 p1 p2 p3 p4 p5; obtain ⟨p0, p1, p2, p3, p4, p5⟩ := HQ2.out _ K2)
              | (go_at_call 35; (with_reducible refine (CF3.out _ K2).mono ?_); rintro en w3 ⟨rfl, b⟩; have K3 := Lib.hid (K2.out.step b); clear b; clear p0 p1 p2 p3 p4 p5; obtain ⟨p0, p1, p2, p3, p4, p5⟩ := HQ2.out _ K3)
              | (go_at_call 35; (with_reducible refine (CF2.out _ K3).mono ?_); rintro en w4 ⟨rfl, b⟩; have K4 := Lib.hid (K3.out.step b); clear b; clear p0 p1 p2 p3 p4 p5; obtain ⟨p0, p1, p2, p3, p4, p5⟩ := HQ2.out _ K4)
              | (go_at_call 12; (with_reducible refine (CW.out _ K4).mono ?_); rintro en w5 ⟨rfl, b⟩; have K5 := Lib.hid (K4.out.step b); clear b))
            go_ret
            exact ⟨rfl, K5.out.x.s.ks.bel⟩
end Go.Proofs.YtblckajejohlbaaDoor
