/- The law EvalPut. -/
import Derived.Test.YtblckajejohlbaaDoorM10
import Derived.Test.YtblckajejohlbaaDoorEpx
import Derived.Deep.QuietTactic
import Derived.BigQuiet
set_option linter.unusedVariables false
set_option linter.unusedSimpArgs false
set_option linter.unusedVariables false
set_option linter.unusedSimpArgs false
namespace Go.Proofs.YtblckajejohlbaaDoor
open Go Go.RowKit L8 L22 L17
open L14 (inW)

theorem may_el {a : Nat} (ha : a < 256) (b : Int) : mayX (kE (a : Int) (kN b)) = true := by
  rw [may_iff]
  refine ⟨?_, by rw [dpX_eq]; show 1 + dpK [kN b] ≤ 32; rw [dpK, dpX_eq]; show 1 + max (1 + dpK []) (dpK []) ≤ 32; rw [dpK]; decide, by rw [szX_eq]; show 1 + szK [kN b] ≤ 256; rw [szK, szX_eq]; show 1 + (1 + szK [] + szK []) ≤ 256; rw [szK]; decide⟩
  rw [okX_eq]
  show (shX (kE (a : Int) (kN b)) && okK [kN b]) = true
  rw [okK, okX_eq]
  show (shX (kE (a : Int) (kN b)) && (shX (kN b) && okK [] && okK [])) = true
  have h1 : shX (kE (a : Int) (kN b)) = true := by
    have e0 : decide ((0 : Int) ≤ (a : Int)) = true := decide_eq_true (by omega)
    have e1 : decide ((a : Int) ≤ 255) = true := decide_eq_true (by omega)
    show (decide (0 = 0) && decide (0 = 0) && decide ((0 : Int) = 0) && decide ((0 : Int) ≤ (a : Int)) && decide ((a : Int) ≤ 255) && decide (1 = 1)) = true
    rw [e0, e1]
    rfl
  have h2 : shX (kN b) = true := rfl
  rw [h1, h2, okK]; rfl
theorem val_el (s : St) {a : Nat} (ha : a < 256) (b : Int) : valK s (kE (a : Int) (kN b)) = atS s (a : Int) b := by
  rw [valK_is (may_el ha b)]
  exact vl_3 s rfl (by show 0 < 1; decide) (vl_1 s rfl)
/-- After Put, an element's expression has its value. -/
theorem putat_is {s : St} {k j : Nat} (hk : k < s.length) (hj : j < (s.getD k []).length) (x : Int) {a b : Nat} (ha : a < s.length) (hb : b < (s.getD a []).length) (h : a < 256) : isB (valK (putS s (k : Int) (j : Int) x) (kE (a : Int) (kN (b : Int)))) (if a = k ∧ b = j then x else (s.getD a []).getD b 0) = true := by
  rw [val_el _ h, at_put hk hj x ha hb]
  unfold isB
  simp
theorem sum_mem {l : St} {x : List Int} (h : x ∈ l) : x.length ≤ sumL l := by
  unfold sumL
  induction l with
  | nil => cases h
  | cons y r ih =>
    rw [List.map_cons, List.sum_cons]
    rcases List.mem_cons.1 h with rfl | h
    · omega
    · have := ih h; omega
theorem gr_row {s : St} {a : Nat} (ha : a < s.length) (h3 : a < 300) : (s.getD a []).length ≤ grS s := by
  have hl : a < (s.take 300).length := by rw [List.length_take]; omega
  have e : s.getD a [] = (s.take 300)[a]'hl := by rw [List.getElem_take, List.getD_eq_getElem?_getD, List.getElem?_eq_getElem ha]; rfl
  have := sum_mem (l := s.take 300) (x := s.getD a []) (by rw [e]; exact List.getElem_mem hl)
  unfold grS
  omega
structure LwU (w X : World) (s : St) (S : Option Addr) (sc : Nat) (t : St) (T : Option Addr) (tc : Nat) : Prop where
  x : LwS w X s S sc
  t : StR X T tc t
theorem LwU.step {w X Y : World} {s : St} {S : Option Addr} {sc : Nat} {t : St} {T : Option Addr} {tc : Nat} (h : LwU w X s S sc t T tc) (b : Below X.heap.size X Y) : LwU w Y s S sc t T tc := ⟨h.x.step b, h.t.keep b⟩
/-- .. since a world. -/
structure LwV (w V X : World) (s : St) (S : Option Addr) (sc : Nat) (t : St) (T : Option Addr) (tc : Nat) : Prop where
  u : LwU w X s S sc t T tc
  r : Below V.heap.size V X
theorem LwV.step {w V X Y : World} {s : St} {S : Option Addr} {sc : Nat} {t : St} {T : Option Addr} {tc : Nat} (h : LwV w V X s S sc t T tc) (b : Below X.heap.size X Y) : LwV w V Y s S sc t T tc := ⟨h.u.step b, blw h.r b⟩
theorem LwV.cc {w V X : World} {s : St} {S : Option Addr} {sc : Nat} {t : St} {T : Option Addr} {tc : Nat} (h : LwV w V X s S sc t T tc) {p q : Addr} {v u : Value} (x : V.cell? p = some v) (y : V.cell? q = some u) : X.cell? p = some v ∧ X.cell? q = some u := ⟨(h.r.cell (g_lt x)).trans x, (h.r.cell (g_lt y)).trans y⟩
set_option maxRecDepth 100000 in
set_option maxHeartbeats 16000000 in
theorem walkEvalPut (s : St) (S : Option Addr) (sn sc : Nat) (hs : s.length = sn) (v i x : Int) (hv : 0 ≤ v ∧ v < 256) (hi : 0 ≤ i ∧ i < 256) (hx : inW x) (w : World) (T : StR w S sc s) (hM : StM s) (hT : T17 w) : Calls Tryd.prog 8 #[.slice S sn sc, .int .u8 v, .int .u8 i, .int .i32 x] w fun en w' => en = .returned (.bool true) ∧ Below w.heap.size w w' := by
  have H0 := Lib.hid (LwS.new hT T)
  have CG := Lib.hid fun X (h : Hid (LwS w X s S sc)) => great_any s S sn sc X h.out.s hs hM.b (by rw [← hs]; exact hM.n)
  have CA := Lib.hid fun X (h : T17 X) => awake_any X h
  by_cases g0 : 600 < grS s
  · rw [decide_eq_true g0] at CG
    go_enter Tryd.func8, Tryd.ntmps8
    go_wp2_with (first
      | (go_at_call 11; (with_reducible refine (CG.out _ H0).mono ?_); rintro en w1 ⟨rfl, rfl⟩)
      | (go_at_call 12; (with_reducible refine (CA.out _ H0.out.t).mono ?_); rintro en w1 ⟨rfl, b⟩; have H1 := Lib.hid (H0.out.step b); clear b))
    go_ret
    exact ⟨rfl, H1.out.b⟩
  rw [decide_eq_false g0] at CG
  by_cases g3 : sn = 0
  · subst g3
    go_enter Tryd.func8, Tryd.ntmps8
    go_wp2_with (first
      | (go_at_call 11; (with_reducible refine (CG.out _ H0).mono ?_); rintro en w1 ⟨rfl, rfl⟩)
      | (go_at_call 12; (with_reducible refine (CA.out _ H0.out.t).mono ?_); rintro en w1 ⟨rfl, b⟩; have H1 := Lib.hid (H0.out.step b); clear b))
    go_ret
    exact ⟨rfl, H1.out.b⟩
  have g3' : ((sn : Int) == 0) = false := by simp; omega
  have g3q : ¬ (sn : Int) = 0 := by omega
  have g3n : (0 : Int) < (sn : Int) := by omega
  have hsn : (sn : Int) ≤ 600 := by unfold grS at g0; omega
  have h6 : sn ≤ 1000000 := by omega
  obtain ⟨k, hq⟩ : ∃ k : Nat, v % (sn : Int) = (k : Int) := ⟨(v % (sn : Int)).toNat, by have := Int.emod_nonneg v (show (sn : Int) ≠ 0 by omega); omega⟩
  have hks : (k : Int) < (sn : Int) := by have := Int.emod_lt_of_pos v g3n; omega
  have hk0 : (0 : Int) ≤ (k : Int) := by omega
  have hkn : k < sn := by omega
  have hk256 : (k : Int) < 256 := by
    by_cases h : v < (sn : Int)
    · rw [Int.emod_eq_of_lt hv.1 h] at hq; omega
    · omega
  obtain ⟨a, rfl, Q, m, d, hm, x0, Wq⟩ := T.rd k (by omega)
  by_cases hm0 : m = 0
  · subst hm0
    have C1 : Hid (∀ X, Hid (LwS w X s (some a) sc) → Calls Tryd.prog 24 #[.slice (some a) sn sc, .int .i64 (k : Int), .int .i64 i, .int .i32 x] X fun en w' => ∃ A' c', en = .returned (.slice A' sn c') ∧ StR w' A' c' s ∧ Below X.heap.size X w') := Lib.hid fun X h => (PPut_any s (some a) sn sc (k : Int) i x hx X h.out.s hs hM.b h6).mono fun en w' ⟨A', c', vs, h1, h2, h3⟩ => by
      rw [put_none hm, hs] at h1 h2
      exact ⟨A', c', h1, h2.st, h3⟩
    have C2 : Hid (∀ X P Q a b, StR X P a s → StR X Q b s → Calls Tryd.prog 18 #[.slice P sn a, .slice Q sn b] X fun en w' => en = .returned (.bool true) ∧ Below X.heap.size X w') := Lib.hid fun X P Q a b h1 h2 => by
      have := PSame_any s s P Q sn sn a b X h1 h2 hs hs
      rwa [decide_eq_true rfl] at this
    clear T hT hM hs Wq
    go_enter Tryd.func8, Tryd.ntmps8
    go_wp2_with (first
      | (go_at_call 11; (with_reducible refine (CG.out _ H0).mono ?_); rintro en w1 ⟨rfl, rfl⟩)
      | (go_at_call 24; (with_reducible refine (C1.out _ H0).mono ?_); rintro en w1 ⟨P, pc, rfl, o, b⟩; have H1 := Lib.hid (H0.out.step b); have P1 := Lib.hid o; clear o b)
      | (go_at_call 18; (with_reducible refine (C2.out _ _ _ _ _ P1.out H1.out.s).mono ?_); rintro en w2 ⟨rfl, b⟩; have H2 := Lib.hid (H1.out.step b); clear b)
      | (go_at_call 12; (with_reducible refine (CA.out _ H2.out.t).mono ?_); rintro en w1 ⟨rfl, b⟩; have H3 := Lib.hid (H2.out.step b); clear b))
    go_ret
    exact ⟨rfl, H3.out.b⟩
  have m3' : ((m : Int) == 0) = false := by simp; omega
  have m3q : ¬ (m : Int) = 0 := by omega
  have m3n : (0 : Int) < (m : Int) := by omega
  have hmb : (m : Int) ≤ 9223372036854775807 := by have := Wq.le; have := Wq.mx; unfold maxLen at this; omega
  obtain ⟨j, hr⟩ : ∃ j : Nat, i % (m : Int) = (j : Int) := ⟨(i % (m : Int)).toNat, by have := Int.emod_nonneg i (show (m : Int) ≠ 0 by omega); omega⟩
  have hjm : (j : Int) < (m : Int) := by have := Int.emod_lt_of_pos i m3n; omega
  have hj0 : (0 : Int) ≤ (j : Int) := by omega
  have hj256 : (j : Int) < 256 := by
    by_cases h : i < (m : Int)
    · rw [Int.emod_eq_of_lt hi.1 h] at hr; omega
    · omega
  have C1 : Hid (∀ X, Hid (LwS w X s (some a) sc) → Calls Tryd.prog 24 #[.slice (some a) sn sc, .int .i64 (k : Int), .int .i64 (j : Int), .int .i32 x] X fun en w' => ∃ A' c', en = .returned (.slice A' sn c') ∧ StR w' A' c' (putS s (k : Int) (j : Int) x) ∧ Below X.heap.size X w') := Lib.hid fun X h => (PPut_any s (some a) sn sc (k : Int) (j : Int) x hx X h.out.s hs hM.b h6).mono fun en w' ⟨A', c', vs, h1, h2, h3⟩ => by
    rw [put_len, hs] at h1 h2
    exact ⟨A', c', h1, h2.st, h3⟩
  have hjN : j < (s.getD k []).length := by omega
  have RW := Lib.hid fun (a' b' : Nat) (ha : a' < s.length) (hb : b' < (s.getD a' []).length) (h : a' < 256) => putat_is (s := s) (k := k) (j := j) (by omega) hjN x (a := a') (b := b') ha hb h
  have RL := Lib.hid fun (a' : Nat) (ha : a' < s.length) (h : a' < 256) => (show (s.getD a' []).length ≤ 600 by have := gr_row ha (show a' < 300 by omega); omega)
  have WI := Lib.hid fun (y : Int) (X : World) P pc A d (a' b' : Nat) (hk : a' < 256) (vI : isB (valK (putS s (k : Int) (j : Int) x) (kE (a' : Int) (kN (b' : Int)))) y = true) (h : Hid (LwU w X s (some a) sc (putS s (k : Int) (j : Int) x) P pc)) (t : KrR X A d [kN (b' : Int)]) => is_is vI (S := P) (sn := sn) (sc := pc) (by rw [put_len, hs]) (A := A) (c := d) (v := .agg #[.int .u8 3, .int .u8 0, .int .u8 0, .int .i32 0, .int .i64 (a' : Int), .slice A 1 d]) rfl (ok_kE (by omega) (by omega)) X t h.out.t h.out.x.t
  obtain ⟨q, rfl, y0⟩ := Wq.rd j hjN
  have hyw : inW ((s.getD k []).getD j 0) := Wq.w hjN
  have CP : Hid (∀ X P pc, Hid (LwU w X s (some a) sc (putS s (k : Int) (j : Int) x) P pc) → Calls Tryd.prog 24 #[.slice P sn pc, .int .i64 (k : Int), .int .i64 (j : Int), .int .i32 ((s.getD k []).getD j 0)] X fun en w' => ∃ A' c', en = .returned (.slice A' sn c') ∧ StR w' A' c' s ∧ Below X.heap.size X w') := Lib.hid fun X P pc h => (PPut_any (putS s (k : Int) (j : Int) x) P sn pc (k : Int) (j : Int) _ hyw X h.out.t (by rw [put_len, hs]) (stB_put hM.b _ _ _) h6).mono fun en w' ⟨A', c', vs, h1, h2, h3⟩ => by
    rw [put_back (by omega) hjN, hs] at h1 h2
    exact ⟨A', c', h1, h2.st, h3⟩
  have CS1 : Hid (∀ X P Q a b, StR X P a s → StR X Q b s → Calls Tryd.prog 18 #[.slice P sn a, .slice Q sn b] X fun en w' => en = .returned (.bool true) ∧ Below X.heap.size X w') := Lib.hid fun X P Q a b h1 h2 => by
    have := PSame_any s s P Q sn sn a b X h1 h2 hs hs
    rwa [decide_eq_true rfl] at this
  have CS2 := Lib.hid fun X P pc (h : Hid (LwU w X s (some a) sc (putS s (k : Int) (j : Int) x) P pc)) => PSame_any (putS s (k : Int) (j : Int) x) s P (some a) sn sn pc sc X h.out.t h.out.x.s (by rw [put_len, hs]) hs
  obtain ⟨r, hr1, hr2⟩ : ∃ r, decide (putS s (k : Int) (j : Int) x = s) = r ∧ ((s.getD k []).getD j 0 == x) = r := ⟨_, rfl, by
    rw [Bool.eq_iff_iff, decide_eq_true_eq, put_same (by omega) hjN, beq_iff_eq]⟩
  rw [hr1] at CS2
  clear hr1
  have CN := Lib.hid fun X => number_any (j : Int) X
  have CE := Lib.hid fun X => elem_is (k : Int) (kN (j : Int)) none 0 (.agg #[.int .u8 1, .int .u8 0, .int .u8 0, .int .i32 (j : Int), .int .i64 0, .slice none 0 0]) rfl X (KrR.nil X) (ok_kN ⟨by omega, by omega⟩)
  have vI : isB (valK (putS s (k : Int) (j : Int) x) (kE (k : Int) (kN (j : Int)))) x = true := by
    have := putat_is (s := s) (k := k) (j := j) (by omega) hjN x (a := k) (b := j) (by omega) hjN (by omega)
    rwa [if_pos ⟨rfl, rfl⟩] at this
  have CI := Lib.hid fun X P pc A d (h : Hid (LwU w X s (some a) sc (putS s (k : Int) (j : Int) x) P pc)) (t : KrR X A d [kN (j : Int)]) => is_is vI (S := P) (sn := sn) (sc := pc) (by rw [put_len, hs]) (A := A) (c := d) (v := .agg #[.int .u8 3, .int .u8 0, .int .u8 0, .int .i32 0, .int .i64 (k : Int), .slice A 1 d]) rfl (ok_kE (by omega) (by omega)) X t h.out.t h.out.x.t
  go_enter Tryd.func8, Tryd.ntmps8
  go_wp2_with (first
      | (go_at_call 11; (with_reducible refine (CG.out _ H0).mono ?_); rintro en w1 ⟨rfl, rfl⟩)
      | (go_at_call 31; (with_reducible refine (CN.out _).mono ?_); rintro en w2 ⟨rfl, b⟩; have H2 := Lib.hid (H1.out.step b); clear b)
      | (go_at_call 30; (with_reducible refine (CE.out _).mono ?_); rintro en w3 ⟨A3, c3, rfl, t, b⟩; have H3 := Lib.hid (H2.out.step b); have T3 := Lib.hid t; clear t b)
      | (go_at_call 29; (with_reducible refine (CI.out _ _ _ _ _ H3 T3.out).mono ?_); rintro en w4 ⟨rfl, b⟩; have H4 := Lib.hid (H3.out.step b); clear b)
      | (go_at_call 24; simp only [hq, hr]; (with_reducible refine (C1.out _ H0).mono ?_); rintro en w1 ⟨P, pc, rfl, o, b⟩; have H1 := Lib.hid (LwU.mk (H0.out.step b) o); clear o b))
  have HS := Lib.hid hs
  generalize hgt : putS s (k : Int) (j : Int) x = t at *
  clear hgt C1 CE CI CN CG vI H3 H2 T3 hM Wq T hT hq hr hv hi g0 hs hm
  generalize (s.getD k []).getD j 0 = y at *
  have x1 := H0.out.b
  go_loopw [79] (fun ι wr => ∃ e : Nat, e ≤ sn ∧ ι = .int .i64 e ∧ Hid (LwU w wr s (some a) sc t P pc)) (fun ι _ => sn - (intOf ι).toNat)
  case atStart => exact ⟨0, Nat.zero_le _, rfl, H4⟩
  case round =>
    obtain ⟨e, he, rfl, H⟩ := hrel
    obtain ⟨V, hV⟩ : ∃ V, V = wr := ⟨_, rfl⟩
    subst hV
    have he0 : (0 : Int) ≤ (e : Int) := by omega
    by_cases hlt : (e : Int) < (sn : Int)
    · have hes : e < s.length := by have := HS.out; omega
      obtain ⟨a2, ha2, Q2, m2, d2, hm2, z0, W2⟩ := H.out.x.s.rd e hes
      injection ha2 with ha2
      subst ha2
      have hm2b : (m2 : Int) ≤ 9223372036854775807 := by have := W2.le; have := W2.mx; unfold maxLen at this; omega
      have H2 := Lib.hid (show LwV w V V s (some a) sc t P pc from ⟨H.out, b0 V⟩)
      go_wp2
      go_loopw [87] (fun ι wx => ∃ f : Nat, f ≤ m2 ∧ ι = .int .i64 f ∧ Hid (LwV w V wx s (some a) sc t P pc)) (fun ι _ => m2 - (intOf ι).toNat)
      case atStart => exact ⟨0, Nat.zero_le _, rfl, H2⟩
      case round =>
        obtain ⟨f, hf, rfl, I⟩ := hrel
        have hf0 : (0 : Int) ≤ (f : Int) := by omega
        by_cases hlf : (f : Int) < (m2 : Int)
        · have hfs : f < (s.getD e []).length := by omega
          obtain ⟨q2, rfl, z1⟩ := W2.rd f hfs
          go_upto_region 16 with fail
          go_cut [118] from 90 to 119 (fun p wx => p = .bool false ∧ Hid (LwV w V wx s (some a) sc t P pc))
          case first =>
            have M0 : Hid (LwV w V wr.drew s (some a) sc t P pc) := Lib.hid (I.out.step (bdrew (b0 wr) 1))
            by_cases he6 : (e : Int) < 256
            · by_cases hek : e = k ∧ f = j
              · obtain ⟨rfl, rfl⟩ := hek
                go_quiet ((fail))
                go_step
                go_step
                go_meet
                case rel => exact ⟨rfl, Lib.hid (I.out.step (bdrew (b0 wr) nq))⟩
              · have hf6 : (f : Int) ≤ 600 := by have := RL.out e hes (by omega); omega
                have hwr : IntKind.i32.wrap (f : Int) = (f : Int) := by rw [IntKind.wrap_i32]; omega
                have vE := RW.out e f hes hfs (by omega)
                rw [if_neg hek] at vE
                have DN := Lib.hid fun X => number_any (f : Int) X
                have DE := Lib.hid fun X => elem_is (e : Int) (kN (f : Int)) none 0 (.agg #[.int .u8 1, .int .u8 0, .int .u8 0, .int .i32 (f : Int), .int .i64 0, .slice none 0 0]) rfl X (KrR.nil X) (ok_kN ⟨by omega, by omega⟩)
                have DI := Lib.hid fun (X : World) A d (h : Hid (LwV w V X s (some a) sc t P pc)) (tk : KrR X A d [kN (f : Int)]) => WI.out ((s.getD e []).getD f 0) X P pc A d e f (by omega) vE (Lib.hid h.out.u) tk
                have hmem : e < 256 := by omega
                clear vE RW RL WI CP CS1 CS2 CA
                generalize (s.getD e []).getD f 0 = y2 at *
                by_cases h1 : e = k
                · subst h1
                  have h2 : ¬ (f : Int) = (j : Int) := by omega
                  have h2b : ((f : Int) != (j : Int)) = true := by simp; omega
                  (first | (go_region_held3 (fun w' => w'.cell? (a.add e) = some (.slice (some q2) m2 d2) ∧ w'.cell? (q2.add f) = some (.int .i32 y2))
                  (first | (with_reducible exact M3.out.cc z0 z1) | (with_reducible exact M2.out.cc z0 z1) | (with_reducible exact M1.out.cc z0 z1) | (with_reducible exact M0.out.cc z0 z1))
                (first
                | (go_at_call 31; (with_reducible refine (DN.out _).mono ?_); rintro e1 u1 ⟨rfl, b1⟩; have M1 := Lib.hid (M0.out.step b1); clear b1)
                | (go_at_call 30; (with_reducible refine (DE.out _).mono ?_); rintro e1 u2 ⟨A5, c5, rfl, t5, b1⟩; have M2 := Lib.hid (M1.out.step b1); have T5 := Lib.hid t5; clear t5 b1)
                | (go_at_call 29; (with_reducible refine (DI.out _ _ _ M2 T5.out).mono ?_); rintro e1 u3 ⟨rfl, b1⟩; have M3 := Lib.hid (M2.out.step b1); clear b1))))
                  go_step
                  go_step
                  go_meet
                  case rel => exact ⟨rfl, Lib.hid M3.out⟩
                · have h2 : ¬ (e : Int) = (k : Int) := by omega
                  have h2b : ((e : Int) != (k : Int)) = true := by simp; omega
                  refine wp_region_held_drew (S := fun w' => w'.cell? (a.add e) = some (.slice (some q2) m2 d2) ∧ w'.cell? (q2.add f) = some (.int .i32 y2)) (by kernel_rfl) (M0.out.cc z0 z1) (fun hHeld => ?_)
                  refine wpAnyH_take (i := 0) (oi := { dst := some 90, op := Op.move (Operand.tmp 12), type := 3, pos := "outright.go:139", after := #[], guard := none }) (v := .int .i64 (e : Int)) rfl (by kernel_rfl) (by kernel_rfl) (by kernel_rfl) (fun _ _ _ h => h) (Or.inl ⟨by rfl, fun w5 hSw => by (try dsimp only at hSw); obtain ⟨c1_, c2_⟩ := hSw; go_simp⟩) (by assumption) ?_
                  try simp only [Act.put, List.setIfInBounds_toArray, List.set_cons_zero, List.set_cons_succ]
                  refine wpAnyH_take (i := 1) (oi := { dst := some 91, op := Op.binOp BinOp.lss 3 (Operand.tmp 90) (Operand.const (Value.int IntKind.i64 256)) 3, type := 4, pos := "outright.go:139", after := #[{ on := 0, ground := Ground.data }], guard := none }) (v := .bool true) rfl (by kernel_rfl) (by kernel_rfl) (by kernel_rfl) (fun _ _ _ h => h) (Or.inl ⟨by rfl, fun w5 hSw => by (try dsimp only at hSw); obtain ⟨c1_, c2_⟩ := hSw; go_simp⟩) (by assumption) ?_
                  try simp only [Act.put, List.setIfInBounds_toArray, List.set_cons_zero, List.set_cons_succ]
                  refine wpAnyH_take (i := 2) (oi := { dst := some 92, op := Op.move (Operand.tmp 91), type := 4, pos := "outright.go:139", after := #[{ on := 1, ground := Ground.data }], guard := none }) (v := .bool true) rfl (by kernel_rfl) (by kernel_rfl) (by kernel_rfl) (fun _ _ _ h => h) (Or.inl ⟨by rfl, fun w5 hSw => by (try dsimp only at hSw); obtain ⟨c1_, c2_⟩ := hSw; go_simp⟩) (by assumption) ?_
                  try simp only [Act.put, List.setIfInBounds_toArray, List.set_cons_zero, List.set_cons_succ]
                  refine wpAnyH_take (i := 3) (oi := { dst := some 93, op := Op.move (Operand.tmp 12), type := 3, pos := "outright.go:139", after := #[{ on := 2, ground := Ground.guard }], guard := some (2, true) }) (v := .int .i64 (e : Int)) rfl (by kernel_rfl) (by kernel_rfl) (by kernel_rfl) (fun _ _ _ h => h) (Or.inl ⟨by rfl, fun w5 hSw => by (try dsimp only at hSw); obtain ⟨c1_, c2_⟩ := hSw; go_simp⟩) (by assumption) ?_
                  try simp only [Act.put, List.setIfInBounds_toArray, List.set_cons_zero, List.set_cons_succ]
                  refine wpAnyH_take (i := 4) (oi := { dst := some 94, op := Op.move (Operand.tmp 9), type := 3, pos := "outright.go:139", after := #[{ on := 2, ground := Ground.guard }], guard := some (2, true) }) (v := .int .i64 (k : Int)) rfl (by kernel_rfl) (by kernel_rfl) (by kernel_rfl) (fun _ _ _ h => h) (Or.inl ⟨by rfl, fun w5 hSw => by (try dsimp only at hSw); obtain ⟨c1_, c2_⟩ := hSw; go_simp⟩) (by assumption) ?_
                  try simp only [Act.put, List.setIfInBounds_toArray, List.set_cons_zero, List.set_cons_succ]
                  refine wpAnyH_take (i := 5) (oi := { dst := some 95, op := Op.binOp BinOp.neq 3 (Operand.tmp 93) (Operand.tmp 94) 3, type := 4, pos := "outright.go:139", after := #[{ on := 3, ground := Ground.data }, { on := 4, ground := Ground.data }, { on := 2, ground := Ground.guard }], guard := some (2, true) }) (v := .bool true) rfl (by kernel_rfl) (by kernel_rfl) (by kernel_rfl) (fun _ _ _ h => h) (Or.inl ⟨by rfl, fun w5 hSw => by (try dsimp only at hSw); obtain ⟨c1_, c2_⟩ := hSw; go_simp⟩) (by assumption) ?_
                  try simp only [Act.put, List.setIfInBounds_toArray, List.set_cons_zero, List.set_cons_succ]
                  refine wpAnyH_take (i := 6) (oi := { dst := some 96, op := Op.move (Operand.tmp 95), type := 4, pos := "outright.go:139", after := #[{ on := 5, ground := Ground.data }, { on := 2, ground := Ground.chain }, { on := 2, ground := Ground.guard }], guard := some (2, true) }) (v := .bool true) rfl (by kernel_rfl) (by kernel_rfl) (by kernel_rfl) (fun _ _ _ h => h) (Or.inl ⟨by rfl, fun w5 hSw => by (try dsimp only at hSw); obtain ⟨c1_, c2_⟩ := hSw; go_simp⟩) (by assumption) ?_
                  try simp only [Act.put, List.setIfInBounds_toArray, List.set_cons_zero, List.set_cons_succ]
                  refine wpAnyH_take (i := 7) (oi := { dst := some 97, op := Op.move (Operand.tmp 13), type := 3, pos := "outright.go:139", after := #[{ on := 6, ground := Ground.guard }], guard := some (6, false) }) (v := undef) rfl (by kernel_rfl) (by kernel_rfl) (by kernel_rfl) (fun _ _ _ h => h) (Or.inr ⟨by rfl, rfl⟩) (by assumption) ?_
                  try simp only [Act.put, List.setIfInBounds_toArray, List.set_cons_zero, List.set_cons_succ]
                  refine wpAnyH_take (i := 8) (oi := { dst := some 98, op := Op.move (Operand.tmp 10), type := 3, pos := "outright.go:139", after := #[{ on := 6, ground := Ground.guard }], guard := some (6, false) }) (v := undef) rfl (by kernel_rfl) (by kernel_rfl) (by kernel_rfl) (fun _ _ _ h => h) (Or.inr ⟨by rfl, rfl⟩) (by assumption) ?_
                  try simp only [Act.put, List.setIfInBounds_toArray, List.set_cons_zero, List.set_cons_succ]
                  refine wpAnyH_take (i := 9) (oi := { dst := some 99, op := Op.binOp BinOp.neq 3 (Operand.tmp 97) (Operand.tmp 98) 3, type := 4, pos := "outright.go:139", after := #[{ on := 7, ground := Ground.data }, { on := 8, ground := Ground.data }, { on := 6, ground := Ground.guard }], guard := some (6, false) }) (v := undef) rfl (by kernel_rfl) (by kernel_rfl) (by kernel_rfl) (fun _ _ _ h => h) (Or.inr ⟨by rfl, rfl⟩) (by assumption) ?_
                  try simp only [Act.put, List.setIfInBounds_toArray, List.set_cons_zero, List.set_cons_succ]
                  refine wpAnyH_take (i := 10) (oi := { dst := some 100, op := Op.pick (Operand.tmp 96) (Operand.const (Value.bool true)) (Operand.tmp 99), type := 4, pos := "outright.go:139", after := #[{ on := 6, ground := Ground.data }, { on := 9, ground := Ground.data }, { on := 2, ground := Ground.guard }], guard := some (2, true) }) (v := .bool true) rfl (by kernel_rfl) (by kernel_rfl) (by kernel_rfl) (fun _ _ _ h => h) (Or.inl ⟨by rfl, fun w5 hSw => by (try dsimp only at hSw); obtain ⟨c1_, c2_⟩ := hSw; go_simp⟩) (by assumption) ?_
                  try simp only [Act.put, List.setIfInBounds_toArray, List.set_cons_zero, List.set_cons_succ]
                  refine wpAnyH_take (i := 11) (oi := { dst := some 101, op := Op.pick (Operand.tmp 92) (Operand.tmp 100) (Operand.const (Value.bool false)), type := 4, pos := "outright.go:139", after := #[{ on := 2, ground := Ground.data }, { on := 10, ground := Ground.data }], guard := none }) (v := .bool true) rfl (by kernel_rfl) (by kernel_rfl) (by kernel_rfl) (fun _ _ _ h => h) (Or.inl ⟨by rfl, fun w5 hSw => by (try dsimp only at hSw); obtain ⟨c1_, c2_⟩ := hSw; go_simp⟩) (by assumption) ?_
                  try simp only [Act.put, List.setIfInBounds_toArray, List.set_cons_zero, List.set_cons_succ]
                  refine wpAnyH_take (i := 12) (oi := { dst := some 102, op := Op.move (Operand.tmp 101), type := 4, pos := "outright.go:139", after := #[{ on := 11, ground := Ground.data }, { on := 6, ground := Ground.chain }], guard := none }) (v := .bool true) rfl (by kernel_rfl) (by kernel_rfl) (by kernel_rfl) (fun _ _ _ h => h) (Or.inl ⟨by rfl, fun w5 hSw => by (try dsimp only at hSw); obtain ⟨c1_, c2_⟩ := hSw; go_simp⟩) (by assumption) ?_
                  try simp only [Act.put, List.setIfInBounds_toArray, List.set_cons_zero, List.set_cons_succ]
                  refine wpAnyH_take (i := 13) (oi := { dst := some 103, op := Op.move (Operand.tmp 11), type := 23, pos := "outright.go:139", after := #[{ on := 12, ground := Ground.guard }], guard := some (12, true) }) (v := .slice P sn pc) rfl (by kernel_rfl) (by kernel_rfl) (by kernel_rfl) (fun _ _ _ h => h) (Or.inl ⟨by rfl, fun w5 hSw => by (try dsimp only at hSw); obtain ⟨c1_, c2_⟩ := hSw; go_simp⟩) (by assumption) ?_
                  try simp only [Act.put, List.setIfInBounds_toArray, List.set_cons_zero, List.set_cons_succ]
                  refine wpAnyH_take (i := 14) (oi := { dst := some 104, op := Op.move (Operand.tmp 12), type := 3, pos := "outright.go:139", after := #[{ on := 12, ground := Ground.guard }], guard := some (12, true) }) (v := .int .i64 (e : Int)) rfl (by kernel_rfl) (by kernel_rfl) (by kernel_rfl) (fun _ _ _ h => h) (Or.inl ⟨by rfl, fun w5 hSw => by (try dsimp only at hSw); obtain ⟨c1_, c2_⟩ := hSw; go_simp⟩) (by assumption) ?_
                  try simp only [Act.put, List.setIfInBounds_toArray, List.set_cons_zero, List.set_cons_succ]
                  refine wpAnyH_take (i := 15) (oi := { dst := some 105, op := Op.move (Operand.tmp 13), type := 3, pos := "outright.go:139", after := #[{ on := 12, ground := Ground.guard }], guard := some (12, true) }) (v := .int .i64 (f : Int)) rfl (by kernel_rfl) (by kernel_rfl) (by kernel_rfl) (fun _ _ _ h => h) (Or.inl ⟨by rfl, fun w5 hSw => by (try dsimp only at hSw); obtain ⟨c1_, c2_⟩ := hSw; go_simp⟩) (by assumption) ?_
                  try simp only [Act.put, List.setIfInBounds_toArray, List.set_cons_zero, List.set_cons_succ]
                  refine wpAnyH_take (i := 16) (oi := { dst := some 106, op := Op.convert 3 21 (Operand.tmp 105), type := 21, pos := "outright.go:139", after := #[{ on := 15, ground := Ground.data }, { on := 12, ground := Ground.guard }], guard := some (12, true) }) (v := .int .i32 (f : Int)) rfl (by kernel_rfl) (by kernel_rfl) (by kernel_rfl) (fun _ _ _ h => h) (Or.inl ⟨by rfl, fun w5 hSw => by (try dsimp only at hSw); obtain ⟨c1_, c2_⟩ := hSw; go_simp⟩) (by assumption) ?_
                  try simp only [Act.put, List.setIfInBounds_toArray, List.set_cons_zero, List.set_cons_succ]
                  refine wpAnyH_take (i := 19) (oi := { dst := some 109, op := Op.move (Operand.tmp 0), type := 23, pos := "outright.go:139", after := #[{ on := 12, ground := Ground.guard }], guard := some (12, true) }) (v := .slice (some a) sn sc) rfl (by kernel_rfl) (by kernel_rfl) (by kernel_rfl) (fun _ _ _ h => h) (Or.inl ⟨by rfl, fun w5 hSw => by (try dsimp only at hSw); obtain ⟨c1_, c2_⟩ := hSw; go_simp⟩) (by assumption) ?_
                  try simp only [Act.put, List.setIfInBounds_toArray, List.set_cons_zero, List.set_cons_succ]
                  refine wpAnyH_take (i := 20) (oi := { dst := some 110, op := Op.move (Operand.tmp 12), type := 3, pos := "outright.go:139", after := #[{ on := 12, ground := Ground.guard }], guard := some (12, true) }) (v := .int .i64 (e : Int)) rfl (by kernel_rfl) (by kernel_rfl) (by kernel_rfl) (fun _ _ _ h => h) (Or.inl ⟨by rfl, fun w5 hSw => by (try dsimp only at hSw); obtain ⟨c1_, c2_⟩ := hSw; go_simp⟩) (by assumption) ?_
                  try simp only [Act.put, List.setIfInBounds_toArray, List.set_cons_zero, List.set_cons_succ]
                  refine wpAnyH_take (i := 21) (oi := { dst := some 111, op := Op.indexAddr 23 (Operand.tmp 109) (Operand.tmp 110), type := 0, pos := "outright.go:139", after := #[{ on := 19, ground := Ground.data }, { on := 20, ground := Ground.data }, { on := 12, ground := Ground.guard }], guard := some (12, true) }) (v := .pointer (some (a.add e))) rfl (by kernel_rfl) (by kernel_rfl) (by kernel_rfl) (fun _ _ _ h => h) (Or.inl ⟨by rfl, fun w5 hSw => by (try dsimp only at hSw); obtain ⟨c1_, c2_⟩ := hSw; go_simp⟩) (by assumption) ?_
                  try simp only [Act.put, List.setIfInBounds_toArray, List.set_cons_zero, List.set_cons_succ]
                  refine wpAnyH_take (i := 22) (oi := { dst := some 112, op := Op.load 54 (Operand.tmp 111), type := 54, pos := "outright.go:139", after := #[{ on := 21, ground := Ground.data }, { on := 12, ground := Ground.guard }], guard := some (12, true) }) (v := .slice (some q2) m2 d2) rfl (by kernel_rfl) (by kernel_rfl) (by kernel_rfl) (fun _ _ _ h => h) (Or.inl ⟨by rfl, fun w5 hSw => by (try dsimp only at hSw); obtain ⟨c1_, c2_⟩ := hSw; go_simp⟩) (by assumption) ?_
                  try simp only [Act.put, List.setIfInBounds_toArray, List.set_cons_zero, List.set_cons_succ]
                  refine wpAnyH_take (i := 23) (oi := { dst := some 113, op := Op.move (Operand.tmp 13), type := 3, pos := "outright.go:139", after := #[{ on := 12, ground := Ground.guard }], guard := some (12, true) }) (v := .int .i64 (f : Int)) rfl (by kernel_rfl) (by kernel_rfl) (by kernel_rfl) (fun _ _ _ h => h) (Or.inl ⟨by rfl, fun w5 hSw => by (try dsimp only at hSw); obtain ⟨c1_, c2_⟩ := hSw; go_simp⟩) (by assumption) ?_
                  try simp only [Act.put, List.setIfInBounds_toArray, List.set_cons_zero, List.set_cons_succ]
                  refine wpAnyH_take (i := 24) (oi := { dst := some 114, op := Op.indexAddr 54 (Operand.tmp 112) (Operand.tmp 113), type := 0, pos := "outright.go:139", after := #[{ on := 22, ground := Ground.data }, { on := 23, ground := Ground.data }, { on := 12, ground := Ground.guard }], guard := some (12, true) }) (v := .pointer (some (q2.add f))) rfl (by kernel_rfl) (by kernel_rfl) (by kernel_rfl) (fun _ _ _ h => h) (Or.inl ⟨by rfl, fun w5 hSw => by (try dsimp only at hSw); obtain ⟨c1_, c2_⟩ := hSw; go_simp⟩) (by assumption) ?_
                  try simp only [Act.put, List.setIfInBounds_toArray, List.set_cons_zero, List.set_cons_succ]
                  refine wpAnyH_take (i := 25) (oi := { dst := some 115, op := Op.load 21 (Operand.tmp 114), type := 21, pos := "outright.go:139", after := #[{ on := 24, ground := Ground.data }, { on := 12, ground := Ground.guard }], guard := some (12, true) }) (v := .int .i32 y2) rfl (by kernel_rfl) (by kernel_rfl) (by kernel_rfl) (fun _ _ _ h => h) (Or.inl ⟨by rfl, fun w5 hSw => by (try dsimp only at hSw); obtain ⟨c1_, c2_⟩ := hSw; go_simp⟩) (by assumption) ?_
                  try simp only [Act.put, List.setIfInBounds_toArray, List.set_cons_zero, List.set_cons_succ]
                  refine wpAnyH_ready (rs := [17]) (by kernel_rfl) (by simp) ?_
                  refine AllReadyH.cons (o := { dst := some 107, op := Op.call { callee := Callee.value (Operand.func 31), args := #[Operand.tmp 106], argTypes := #[21] }, type := 45, pos := "outright.go:139", after := #[{ on := 16, ground := Ground.data }, { on := 12, ground := Ground.chain }, { on := 12, ground := Ground.guard }], guard := some (12, true) }) rfl (fun K hK => ?_) AllReadyH.nil
                  go_simp
                  (go_at_call 31; (with_reducible refine (DN.out _).mono ?_); rintro e1 u1 ⟨rfl, b1⟩; have M1 := Lib.hid (M0.out.step b1); clear b1)
                  refine hK.out _ _ (M1.out.cc z0 z1) (fun hHeld17 => ?_)
                  clear hK K
                  try simp only [Act.put, List.setIfInBounds_toArray, List.set_cons_zero, List.set_cons_succ]
                  refine wpAnyH_ready (rs := [18]) (by kernel_rfl) (by simp) ?_
                  refine AllReadyH.cons (o := { dst := some 108, op := Op.call { callee := Callee.value (Operand.func 30), args := #[Operand.tmp 104, Operand.tmp 107], argTypes := #[3, 45] }, type := 45, pos := "outright.go:139", after := #[{ on := 14, ground := Ground.data }, { on := 17, ground := Ground.data }, { on := 17, ground := Ground.chain }, { on := 12, ground := Ground.guard }], guard := some (12, true) }) rfl (fun K hK => ?_) AllReadyH.nil
                  go_simp
                  (go_at_call 30; (with_reducible refine (DE.out _).mono ?_); rintro e1 u2 ⟨A5, c5, rfl, t5, b1⟩; have M2 := Lib.hid (M1.out.step b1); have T5 := Lib.hid t5; clear t5 b1)
                  refine hK.out _ _ (M2.out.cc z0 z1) (fun hHeld18 => ?_)
                  clear hK K
                  try simp only [Act.put, List.setIfInBounds_toArray, List.set_cons_zero, List.set_cons_succ]
                  refine wpAnyH_ready (rs := [26]) (by kernel_rfl) (by simp) ?_
                  refine AllReadyH.cons (o := { dst := some 116, op := Op.call { callee := Callee.value (Operand.func 29), args := #[Operand.tmp 103, Operand.tmp 108, Operand.tmp 115], argTypes := #[23, 45, 21] }, type := 4, pos := "outright.go:139", after := #[{ on := 13, ground := Ground.data }, { on := 18, ground := Ground.data }, { on := 25, ground := Ground.data }, { on := 18, ground := Ground.chain }, { on := 12, ground := Ground.guard }], guard := some (12, true) }) rfl (fun K hK => ?_) AllReadyH.nil
                  go_simp
                  (go_at_call 29; (with_reducible refine (DI.out _ _ _ M2 T5.out).mono ?_); rintro e1 u3 ⟨rfl, b1⟩; have M3 := Lib.hid (M2.out.step b1); clear b1)
                  refine hK.out _ _ (M3.out.cc z0 z1) (fun hHeld26 => ?_)
                  clear hK K
                  try simp only [Act.put, List.setIfInBounds_toArray, List.set_cons_zero, List.set_cons_succ]
                  refine wpAnyH_take (i := 27) (oi := { dst := some 117, op := Op.unOp UnOp.not 4 (Operand.tmp 116), type := 4, pos := "outright.go:139", after := #[{ on := 26, ground := Ground.data }, { on := 12, ground := Ground.guard }], guard := some (12, true) }) (v := .bool false) rfl (by kernel_rfl) (by kernel_rfl) (by kernel_rfl) (fun _ _ _ h => h) (Or.inl ⟨by rfl, fun w5 hSw => by (try dsimp only at hSw); obtain ⟨c1_, c2_⟩ := hSw; go_simp⟩) (by assumption) ?_
                  try simp only [Act.put, List.setIfInBounds_toArray, List.set_cons_zero, List.set_cons_succ]
                  refine wpAnyH_take (i := 28) (oi := { dst := some 118, op := Op.pick (Operand.tmp 102) (Operand.tmp 117) (Operand.const (Value.bool false)), type := 4, pos := "outright.go:139", after := #[{ on := 12, ground := Ground.data }, { on := 27, ground := Ground.data }], guard := none }) (v := .bool false) rfl (by kernel_rfl) (by kernel_rfl) (by kernel_rfl) (fun _ _ _ h => h) (Or.inl ⟨by rfl, fun w5 hSw => by (try dsimp only at hSw); obtain ⟨c1_, c2_⟩ := hSw; go_simp⟩) (by assumption) ?_
                  try simp only [Act.put, List.setIfInBounds_toArray, List.set_cons_zero, List.set_cons_succ]
                  refine wpAnyH_done (by kernel_rfl) ?_ _
                  all_goals
                    go_step
                    go_step
                    go_meet
                    case rel => exact ⟨rfl, Lib.hid M3.out⟩
            · go_quiet ((fail))
              go_step
              go_step
              go_meet
              case rel => exact ⟨rfl, Lib.hid (I.out.step (bdrew (b0 wr) nq))⟩
          case rest =>
            obtain ⟨rfl, I2⟩ := hcut
            go_wp2
            go_roundw
            case rel => exact ⟨f + 1, by omega, by go_num, I2⟩
            case measure => simp [intOf]; omega
        · obtain rfl : f = m2 := by omega
          go_wp2
          go_roundw
          case rel => exact ⟨e + 1, by omega, by go_num, Lib.hid I.out.u⟩
          case measure => simp [intOf]; omega
    · obtain rfl : e = sn := by omega
      have z0 := (H.out.x.b.cell (g_lt x0)).trans x0
      have z1 := (H.out.x.b.cell (g_lt y0)).trans y0
      have M0 : Hid (LwV w V V.drew s (some a) sc t P pc) := Lib.hid ⟨H.out.step (bdrew (b0 V) 1), bdrew (b0 V) 1⟩
      have DP := Lib.hid fun X (h : Hid (LwV w V X s (some a) sc t P pc)) => CP.out X P pc (Lib.hid h.out.u)
      have DS := Lib.hid fun X (h : Hid (LwV w V X s (some a) sc t P pc)) => CS2.out X P pc (Lib.hid h.out.u)
      have DA := Lib.hid fun X (h : Hid (LwV w V X s (some a) sc t P pc)) => CA.out X h.out.u.x.t
      clear x0 y0 CP CS2 CA RW RL WI H H4
      cases r
      all_goals
        go_upto_region 20 with fail
        go_cut [8] from 8 to 152 (fun p wx => p = .bool true ∧ Hid (Below w.heap.size w wx))
        case first =>
          go_region_held3 (fun w' => w'.cell? (a.add k) = some (.slice (some q) m d) ∧ w'.cell? (q.add j) = some (.int .i32 y))
            (first | (with_reducible exact M4.out.cc z0 z1) | (with_reducible exact M3.out.cc z0 z1) | (with_reducible exact M2.out.cc z0 z1) | (with_reducible exact M1.out.cc z0 z1) | (with_reducible exact M0.out.cc z0 z1))
            (first
            | (go_at_call 24; (with_reducible refine (DP.out _ M0).mono ?_); rintro e1 u1 ⟨A5, c5, rfl, t5, b1⟩; have M1 := Lib.hid (M0.out.step b1); have T5 := Lib.hid t5; clear b1 t5)
            | (go_at_call 18; (with_reducible refine (CS1.out _ _ _ _ _ T5.out M1.out.u.x.s).mono ?_); rintro e1 u2 ⟨rfl, b1⟩; have M2 := Lib.hid (M1.out.step b1); clear b1)
            | (go_at_call 18; (with_reducible refine (DS.out _ M2).mono ?_); rintro e1 u3 ⟨rfl, b1⟩; have M3 := Lib.hid (M2.out.step b1); clear b1)
            | (go_at_call 12; (with_reducible refine (DA.out _ M3).mono ?_); rintro e1 u4 ⟨rfl, b1⟩; have M4 := Lib.hid (M3.out.step b1); clear b1))
          go_step
          go_step
          go_meet
          case rel => exact ⟨rfl, Lib.hid M4.out.u.x.b⟩
        case rest =>
          obtain ⟨rfl, HF⟩ := hcut
          go_wp2
          go_ret
          exact ⟨rfl, HF.out⟩
end Go.Proofs.YtblckajejohlbaaDoor
