/- The reference: the value of an expression (by tools/gen14z.py). -/
import Derived.Test.YtimbiobonigdmaaGreatDoorZfn
import Derived.Test.YtimbiobonigdmaaGreatDoorM21
import Derived.Test.YtimbiobonigdmaaGreatDoorM13
set_option linter.unusedVariables false
set_option linter.unusedSimpArgs false
namespace Go.Proofs.YtimbiobonigdmaaGreatDoor
open Go Go.RowKit L8 L10 L14

/-- Values of specifications in memory. -/
structure KnR (w : World) (K : Option Addr) (c : Nat) (vs : List (Option Int)) : Prop where
  le : vs.length ≤ c
  mx : c ≤ maxLen
  rd : ∀ j, j < vs.length → ∃ a, K = some a ∧ w.cell? (a.add (j * 2)) = some (.int .i32 ((vs.getD j none).getD 0)) ∧ w.cell? ⟨(a.add (j * 2)).block, (a.add (j * 2)).off + 1, none⟩ = some (.bool (vs.getD j none).isSome)
theorem KnR.keep {w w' : World} {K : Option Addr} {c : Nat} {vs : List (Option Int)} (h : KnR w K c vs) (b : Below w.heap.size w w') : KnR w' K c vs :=
  ⟨h.le, h.mx, fun j hj => by obtain ⟨a, e, h1, h2⟩ := h.rd j hj; exact ⟨a, e, (b.cell (g_lt h1)).trans h1, (b.cell (g_lt h2)).trans h2⟩⟩
def valsL (l : List Sp) (n : Nat) : List (Option Int) := (List.range n).map (entV l)
theorem valsL_len (l : List Sp) (n : Nat) : (valsL l n).length = n := by unfold valsL; simp
theorem valsL_at {l : List Sp} {n j : Nat} (h : j < n) : (valsL l n).getD j none = entV l j := by
  unfold valsL
  rw [List.getD_eq_getElem?_getD, List.getElem?_map, List.getElem?_range h]
  rfl
theorem inM_env {w : World} {E : Option Addr} {d : Nat} {l : List Sp} (S : SpR w E d l) : ∀ n, n ≤ l.length → inM (prefM l n)
  | 0, _ => by
    intro s
    refine ⟨fun v h => ?_, fun v h => ?_⟩
    · have h : (none : Option Int) = some v := h
      cases h
    · have h : (none : Option Int) = some v := h
      cases h
  | n + 1, h => by
    have ih := inM_env S n (by omega)
    obtain ⟨ad, _, ok, A, c, B, d2, hc⟩ := S.rd n (by omega)
    intro s
    rw [pref_succ (by omega)]
    by_cases hs : s ∈ (l.getD n sp0).ns
    · unfold rho sig
      rw [mgS_in hs]
      refine ⟨fun v hv => ?_, fun v hv => szS_in hv⟩
      have hv : (entS (prefM l n) (l.getD n sp0)).2 = some v := hv
      unfold entS at hv
      by_cases hd : vald (l.getD n sp0) = true
      · rw [if_pos hd] at hv
        exact val_in ih _ ok.e hc.tr v hv
      · rw [if_neg hd] at hv; cases hv
    · unfold rho sig
      rw [mgS_out hs]
      exact ih s
theorem zv_lit1 (v : Int) (A : Option Addr) (c : Nat) (E : Option Addr) (kk d nn : Nat) (K : Option Addr) (kn kc : Nat) (w : World) : Calls Tryz.prog 24 #[.agg #[.int .u8 1, .int .u8 0, .int .u8 0, .int .i32 v, .string ⟨#[]⟩, .slice A 0 c], .slice E kk d, .int .i64 (nn : Int), .slice K kn kc] w (VlR w (some v)) := by
  have HB := Lib.hid (bal (b0 w) (.cells #[.int .u8 1, .int .u8 0, .int .u8 0, .int .i32 v, .string ⟨#[]⟩, .slice A 0 c] 27))
  unfold VlR
  go_enter Tryz.func24, Tryz.ntmps24
  go_wp2
  go_ret2
  exact ⟨rfl, HB.out⟩
theorem zv_lit2 (v : Int) (A : Option Addr) (c : Nat) (E : Option Addr) (kk d nn : Nat) (K : Option Addr) (kn kc : Nat) (w : World) : Calls Tryz.prog 24 #[.agg #[.int .u8 2, .int .u8 0, .int .u8 0, .int .i32 v, .string ⟨#[]⟩, .slice A 0 c], .slice E kk d, .int .i64 (nn : Int), .slice K kn kc] w (VlR w (some v)) := by
  have HB := Lib.hid (bal (b0 w) (.cells #[.int .u8 2, .int .u8 0, .int .u8 0, .int .i32 v, .string ⟨#[]⟩, .slice A 0 c] 27))
  unfold VlR
  go_enter Tryz.func24, Tryz.ntmps24
  go_wp2
  go_ret2
  exact ⟨rfl, HB.out⟩
theorem zv_lit3 (v : Int) (A : Option Addr) (c : Nat) (E : Option Addr) (kk d nn : Nat) (K : Option Addr) (kn kc : Nat) (w : World) : Calls Tryz.prog 24 #[.agg #[.int .u8 3, .int .u8 0, .int .u8 0, .int .i32 v, .string ⟨#[]⟩, .slice A 0 c], .slice E kk d, .int .i64 (nn : Int), .slice K kn kc] w (VlR w (some v)) := by
  have HB := Lib.hid (bal (b0 w) (.cells #[.int .u8 3, .int .u8 0, .int .u8 0, .int .i32 v, .string ⟨#[]⟩, .slice A 0 c] 27))
  unfold VlR
  go_enter Tryz.func24, Tryz.ntmps24
  go_wp2
  go_ret2
  exact ⟨rfl, HB.out⟩
theorem zv_index (S : ByteArray) (A : Option Addr) (c : Nat) (E : Option Addr) (kk d nn : Nat) (K : Option Addr) (kn kc : Nat) (w : World) : Calls Tryz.prog 24 #[.agg #[.int .u8 5, .int .u8 0, .int .u8 0, .int .i32 0, .string S, .slice A 1 c], .slice E kk d, .int .i64 (nn : Int), .slice K kn kc] w (VlR w none) := by
  have HB := Lib.hid (bal (b0 w) (.cells #[.int .u8 5, .int .u8 0, .int .u8 0, .int .i32 0, .string S, .slice A 1 c] 27))
  unfold VlR
  go_enter Tryz.func24, Tryz.ntmps24
  go_wp2
  go_ret2
  exact ⟨rfl, HB.out⟩
set_option maxRecDepth 100000 in
set_option maxHeartbeats 4000000 in
theorem zv_name (s : Bs) (A : Option Addr) (c : Nat) (E : Option Addr) (kk d : Nat) (l : List Sp) (hk : l.length = kk) (nn : Nat) (h1 : nn ≤ kk) (K : Option Addr) (kn kc : Nat) (h2 : nn ≤ kn) (w : World) (S : SpR w E d l) (KN : KnR w K kc (valsL l kn)) : Calls Tryz.prog 24 #[.agg #[.int .u8 4, .int .u8 0, .int .u8 0, .int .i32 0, .string (strOf s), .slice A 0 c], .slice E kk d, .int .i64 (nn : Int), .slice K kn kc] w (VlR w (rho (prefM l nn) s)) := by
  have hb : Below w.heap.size w (w.alloc (.cells #[.int .u8 4, .int .u8 0, .int .u8 0, .int .i32 0, .string (strOf s), .slice A 0 c] 27)) := bal (b0 w) _
  have HB := Lib.hid hb
  have C := Rfind_any s E kk d nn l hk h1 _ (S.keep hb)
  have KN := KN.keep hb
  have hkx : kn ≤ maxLen := by have := KN.le; have := KN.mx; rw [valsL_len] at *; omega
  unfold maxLen at hkx
  rw [rho_find (by omega) s]
  cases hf : fndN l s nn with
  | none =>
    rw [hf] at C
    have C := Lib.hid (show Calls Tryz.prog 38 #[.string (strOf s), .slice E kk d, .int .i64 (nn : Int)] (w.alloc (.cells #[.int .u8 4, .int .u8 0, .int .u8 0, .int .i32 0, .string (strOf s), .slice A 0 c] 27)) fun e w' => e = .returned (.int .i64 (-1)) ∧ w' = w.alloc (.cells #[.int .u8 4, .int .u8 0, .int .u8 0, .int .i32 0, .string (strOf s), .slice A 0 c] 27) from C)
    clear S KN hb hf
    generalize strOf s = SS1 at *
    unfold VlR
    go_enter Tryz.func24, Tryz.ntmps24
    go_wp2_with (go_at_call 38; (with_reducible refine (C.out).mono ?_); rintro e w' ⟨rfl, rfl⟩)
    go_ret2
    exact ⟨rfl, HB.out⟩
  | some a =>
    have ha := fnd_lt hf
    rw [hf] at C
    have C := Lib.hid (show Calls Tryz.prog 38 #[.string (strOf s), .slice E kk d, .int .i64 (nn : Int)] (w.alloc (.cells #[.int .u8 4, .int .u8 0, .int .u8 0, .int .i32 0, .string (strOf s), .slice A 0 c] 27)) fun e w' => e = .returned (.int .i64 (a : Int)) ∧ w' = w.alloc (.cells #[.int .u8 4, .int .u8 0, .int .u8 0, .int .i32 0, .string (strOf s), .slice A 0 c] 27) from C)
    obtain ⟨ak, rfl, c0, c1⟩ := KN.rd a (by rw [valsL_len]; omega)
    rw [valsL_at (by omega)] at c0 c1
    have ha0 : (0 : Int) ≤ (a : Int) := by omega
    have hak : (a : Int) < (kn : Int) := by omega
    show Calls _ _ _ _ (VlR w (entV l a))
    clear S KN hb hf
    generalize strOf s = SS1 at *
    unfold VlR apR
    generalize entV l a = r at *
    generalize r.getD 0 = v1 at *
    generalize r.isSome = v2 at *
    go_enter Tryz.func24, Tryz.ntmps24
    go_wp2_with (go_at_call 38; (with_reducible refine (C.out).mono ?_); rintro e w' ⟨rfl, rfl⟩)
    go_quiet (fail)
    go_wp2
    go_ret2
    exact ⟨rfl, bdrew HB.out _⟩
set_option maxRecDepth 100000 in
set_option maxHeartbeats 4000000 in
theorem zv_size (s : Bs) (A : Option Addr) (c : Nat) (E : Option Addr) (kk d : Nat) (l : List Sp) (hk : l.length = kk) (nn : Nat) (h1 : nn ≤ kk) (K : Option Addr) (kn kc : Nat) (w : World) (S : SpR w E d l) : Calls Tryz.prog 24 #[.agg #[.int .u8 9, .int .u8 0, .int .u8 0, .int .i32 0, .string (strOf s), .slice A 0 c], .slice E kk d, .int .i64 (nn : Int), .slice K kn kc] w (VlR w (sig (prefM l nn) s)) := by
  have hb : Below w.heap.size w (w.alloc (.cells #[.int .u8 9, .int .u8 0, .int .u8 0, .int .i32 0, .string (strOf s), .slice A 0 c] 27)) := bal (b0 w) _
  have HB := Lib.hid hb
  have S := S.keep hb
  have C := Rfind_any s E kk d nn l hk h1 _ S
  have hkx : kk ≤ maxLen := by have := S.le; have := S.mx; omega
  unfold maxLen at hkx
  rw [sig_find (by omega) s]
  cases hf : fndN l s nn with
  | none =>
    rw [hf] at C
    have C := Lib.hid (show Calls Tryz.prog 38 #[.string (strOf s), .slice E kk d, .int .i64 (nn : Int)] (w.alloc (.cells #[.int .u8 9, .int .u8 0, .int .u8 0, .int .i32 0, .string (strOf s), .slice A 0 c] 27)) fun e w' => e = .returned (.int .i64 (-1)) ∧ w' = w.alloc (.cells #[.int .u8 9, .int .u8 0, .int .u8 0, .int .i32 0, .string (strOf s), .slice A 0 c] 27) from C)
    clear S hb hf
    generalize strOf s = SS1 at *
    unfold VlR
    go_enter Tryz.func24, Tryz.ntmps24
    go_wp2_with (go_at_call 38; (with_reducible refine (C.out).mono ?_); rintro e w' ⟨rfl, rfl⟩)
    go_ret2
    exact ⟨rfl, HB.out⟩
  | some a =>
    have ha := fnd_lt hf
    rw [hf] at C
    have C := Lib.hid (show Calls Tryz.prog 38 #[.string (strOf s), .slice E kk d, .int .i64 (nn : Int)] (w.alloc (.cells #[.int .u8 9, .int .u8 0, .int .u8 0, .int .i32 0, .string (strOf s), .slice A 0 c] 27)) fun e w' => e = .returned (.int .i64 (a : Int)) ∧ w' = w.alloc (.cells #[.int .u8 9, .int .u8 0, .int .u8 0, .int .i32 0, .string (strOf s), .slice A 0 c] 27) from C)
    obtain ⟨ae, rfl, ok, AN, cN, BN, dN, hs⟩ := S.rd a (by omega)
    have c0 := hs.c0
    have c2 := hs.c2
    have hd0 := ok.d0
    have hd1 := ok.d1
    have ha0 : (0 : Int) ≤ (a : Int) := by omega
    have hak : (a : Int) < (kk : Int) := by omega
    have HZ := Lib.hid (show (some a).bind (fun a => szS (l.getD a sp0)) = if (l.getD a sp0).k = 1 ∧ 1 ≤ (l.getD a sp0).d ∧ (l.getD a sp0).d ≤ 2147483647 then some (l.getD a sp0).d else none from rfl)
    have q1 : (((l.getD a sp0).k : Int) != 1) = !decide ((l.getD a sp0).k = 1) := nat_ne10 _ 1
    obtain ⟨Z, hZ⟩ : ∃ Z, (some a).bind (fun a => szS (l.getD a sp0)) = Z := ⟨_, rfl⟩
    rw [hZ] at HZ ⊢
    clear S hb hf hs ok hZ
    generalize (l.getD a sp0).k = kd at *
    generalize (l.getD a sp0).d = dm at *
    generalize strOf s = SS1 at *
    unfold VlR
    by_cases k1 : kd = 1
    · rw [decide_eq_true k1] at q1
      by_cases k2 : dm < 1
      · have HZ2 := Lib.hid (HZ.out.trans (if_neg (by omega)))
        clear HZ k1
        go_enter Tryz.func24, Tryz.ntmps24
        go_wp2_with (go_at_call 38; (with_reducible refine (C.out).mono ?_); rintro e w' ⟨rfl, rfl⟩)
        go_ret2
        exact ⟨by rw [HZ2.out]; rfl, HB.out⟩
      · by_cases k3 : 2147483647 < dm
        · have HZ2 := Lib.hid (HZ.out.trans (if_neg (by omega)))
          clear HZ k1
          go_enter Tryz.func24, Tryz.ntmps24
          go_wp2_with (go_at_call 38; (with_reducible refine (C.out).mono ?_); rintro e w' ⟨rfl, rfl⟩)
          go_ret2
          exact ⟨by rw [HZ2.out]; rfl, HB.out⟩
        · have HZ2 := Lib.hid (HZ.out.trans (if_pos (by omega)))
          have hw : wrap32 dm = dm := by unfold wrap32; omega
          clear HZ k1
          go_enter Tryz.func24, Tryz.ntmps24
          go_wp2_with (go_at_call 38; (with_reducible refine (C.out).mono ?_); rintro e w' ⟨rfl, rfl⟩)
          go_ret2
          exact ⟨by rw [HZ2.out]; rfl, HB.out⟩
    · rw [decide_eq_false k1] at q1
      have HZ2 := Lib.hid (HZ.out.trans (if_neg (by omega)))
      clear HZ k1
      go_enter Tryz.func24, Tryz.ntmps24
      go_wp2_with (go_at_call 38; (with_reducible refine (C.out).mono ?_); rintro e w' ⟨rfl, rfl⟩)
      go_ret2
      exact ⟨by rw [HZ2.out]; rfl, HB.out⟩
set_option maxRecDepth 100000 in
set_option maxHeartbeats 4000000 in
theorem zv_mon (o : Nat) (y : Ex) (ad : Addr) (c : Nat) (B : Option Addr) (m dd : Nat) (hm : y.l.length = m) (E : Option Addr) (kk d nn : Nat) (K : Option Addr) (kn kc : Nat) (w : World) (r : Option Int) (hr : ∀ u, r = some u → inW u) (hy : ExAt (w.alloc (.cells #[.int .u8 6, .int .u8 (o : Int), .int .u8 0, .int .i32 0, .string ⟨#[]⟩, .slice (some ad) 1 c] 27)) ad y B dd) (C : Calls Tryz.prog 24 #[exV y B m dd, .slice E kk d, .int .i64 (nn : Int), .slice K kn kc] (w.alloc (.cells #[.int .u8 6, .int .u8 (o : Int), .int .u8 0, .int .i32 0, .string ⟨#[]⟩, .slice (some ad) 1 c] 27)) (VlR (w.alloc (.cells #[.int .u8 6, .int .u8 (o : Int), .int .u8 0, .int .i32 0, .string ⟨#[]⟩, .slice (some ad) 1 c] 27)) r)) : Calls Tryz.prog 24 #[.agg #[.int .u8 6, .int .u8 (o : Int), .int .u8 0, .int .i32 0, .string ⟨#[]⟩, .slice (some ad) 1 c], .slice E kk d, .int .i64 (nn : Int), .slice K kn kc] w (VlR w (r.bind fun a => apO o a 0)) := by
  have HB := Lib.hid (bal (b0 w) (.cells #[.int .u8 6, .int .u8 (o : Int), .int .u8 0, .int .i32 0, .string ⟨#[]⟩, .slice (some ad) 1 c] 27))
  have HP := Lib.hid fun X (b : Below (w.alloc (.cells #[.int .u8 6, .int .u8 (o : Int), .int .u8 0, .int .i32 0, .string ⟨#[]⟩, .slice (some ad) 1 c] 27)).heap.size (w.alloc (.cells #[.int .u8 6, .int .u8 (o : Int), .int .u8 0, .int .i32 0, .string ⟨#[]⟩, .slice (some ad) 1 c] 27)) X) => box6 ((boxS_new w 27 #[.int .u8 6, .int .u8 (o : Int), .int .u8 0, .int .i32 0, .string ⟨#[]⟩, .slice (some ad) 1 c]).below b)
  obtain ⟨p0, p1, p2, p3, p4, p5⟩ := HP.out _ (b0 _)
  obtain ⟨y0, y1, y2, y3, y4, y5⟩ := hy
  unfold VlR apR at C
  dsimp only [exV] at C
  generalize strOf y.s = SY at *
  subst hm
  cases r with
  | none =>
    have C1 := Lib.hid (show Calls Tryz.prog 24 _ (w.alloc (.cells #[.int .u8 6, .int .u8 (o : Int), .int .u8 0, .int .i32 0, .string ⟨#[]⟩, .slice (some ad) 1 c] 27)) fun e1 w2 => e1 = .returned (.tuple #[.int .i32 0, .bool false]) ∧ Below (w.alloc (.cells #[.int .u8 6, .int .u8 (o : Int), .int .u8 0, .int .i32 0, .string ⟨#[]⟩, .slice (some ad) 1 c] 27)).heap.size (w.alloc (.cells #[.int .u8 6, .int .u8 (o : Int), .int .u8 0, .int .i32 0, .string ⟨#[]⟩, .slice (some ad) 1 c] 27)) w2 from C)
    clear C hr
    unfold VlR
    go_enter Tryz.func24, Tryz.ntmps24
    go_wp2_with (go_at_call 24; (with_reducible refine (C1.out).mono ?_); rintro e1 w2 ⟨rfl, b1⟩; have H2 := Lib.hid (blw HB.out b1); have P2 := HP.out _ b1; clear p0 p1 p2 p3 p4 p5 y0 y1 y2 y3 y4 y5; obtain ⟨p0, p1, p2, p3, p4, p5⟩ := P2; clear b1)
    go_ret2
    exact ⟨rfl, H2.out⟩
  | some u =>
    have C1 := Lib.hid (show Calls Tryz.prog 24 _ (w.alloc (.cells #[.int .u8 6, .int .u8 (o : Int), .int .u8 0, .int .i32 0, .string ⟨#[]⟩, .slice (some ad) 1 c] 27)) fun e1 w2 => e1 = .returned (.tuple #[.int .i32 u, .bool true]) ∧ Below (w.alloc (.cells #[.int .u8 6, .int .u8 (o : Int), .int .u8 0, .int .i32 0, .string ⟨#[]⟩, .slice (some ad) 1 c] 27)).heap.size (w.alloc (.cells #[.int .u8 6, .int .u8 (o : Int), .int .u8 0, .int .i32 0, .string ⟨#[]⟩, .slice (some ad) 1 c] 27)) w2 from C)
    have C2 := Lib.hid (RApply_any o u 0 (hr u rfl) (show W1.isW 0 from ⟨by decide, by decide⟩))
    show Calls _ _ _ _ (VlR w (apO o u 0))
    unfold ApR apR at C2
    unfold VlR apR
    generalize (apO o u 0).getD 0 = v1 at *
    generalize (apO o u 0).isSome = v2 at *
    clear C hr
    go_enter Tryz.func24, Tryz.ntmps24
    go_wp2_with (first
      | (go_at_call 24; (with_reducible refine (C1.out).mono ?_); rintro e1 w2 ⟨rfl, b1⟩; have H2 := Lib.hid (blw HB.out b1); have P2 := HP.out _ b1; clear p0 p1 p2 p3 p4 p5 y0 y1 y2 y3 y4 y5; obtain ⟨p0, p1, p2, p3, p4, p5⟩ := P2; clear b1)
      | (go_at_call 40; (with_reducible refine (C2.out _).mono ?_); rintro e1 w3 ⟨rfl, b1⟩; have H3 := Lib.hid (blw H2.out b1); clear b1))
    go_ret2
    exact ⟨rfl, H3.out⟩
set_option maxRecDepth 100000 in
set_option maxHeartbeats 4000000 in
theorem zv_conv (t : Nat) (y : Ex) (ad : Addr) (c : Nat) (B : Option Addr) (m dd : Nat) (hm : y.l.length = m) (E : Option Addr) (kk d nn : Nat) (K : Option Addr) (kn kc : Nat) (w : World) (r : Option Int) (hr : ∀ u, r = some u → inW u) (hy : ExAt (w.alloc (.cells #[.int .u8 8, .int .u8 0, .int .u8 (t : Int), .int .i32 0, .string ⟨#[]⟩, .slice (some ad) 1 c] 27)) ad y B dd) (C : Calls Tryz.prog 24 #[exV y B m dd, .slice E kk d, .int .i64 (nn : Int), .slice K kn kc] (w.alloc (.cells #[.int .u8 8, .int .u8 0, .int .u8 (t : Int), .int .i32 0, .string ⟨#[]⟩, .slice (some ad) 1 c] 27)) (VlR (w.alloc (.cells #[.int .u8 8, .int .u8 0, .int .u8 (t : Int), .int .i32 0, .string ⟨#[]⟩, .slice (some ad) 1 c] 27)) r)) : Calls Tryz.prog 24 #[.agg #[.int .u8 8, .int .u8 0, .int .u8 (t : Int), .int .i32 0, .string ⟨#[]⟩, .slice (some ad) 1 c], .slice E kk d, .int .i64 (nn : Int), .slice K kn kc] w (VlR w (r.bind (conO t))) := by
  have HB := Lib.hid (bal (b0 w) (.cells #[.int .u8 8, .int .u8 0, .int .u8 (t : Int), .int .i32 0, .string ⟨#[]⟩, .slice (some ad) 1 c] 27))
  have HP := Lib.hid fun X (b : Below (w.alloc (.cells #[.int .u8 8, .int .u8 0, .int .u8 (t : Int), .int .i32 0, .string ⟨#[]⟩, .slice (some ad) 1 c] 27)).heap.size (w.alloc (.cells #[.int .u8 8, .int .u8 0, .int .u8 (t : Int), .int .i32 0, .string ⟨#[]⟩, .slice (some ad) 1 c] 27)) X) => box6 ((boxS_new w 27 #[.int .u8 8, .int .u8 0, .int .u8 (t : Int), .int .i32 0, .string ⟨#[]⟩, .slice (some ad) 1 c]).below b)
  obtain ⟨p0, p1, p2, p3, p4, p5⟩ := HP.out _ (b0 _)
  obtain ⟨y0, y1, y2, y3, y4, y5⟩ := hy
  unfold VlR apR at C
  dsimp only [exV] at C
  generalize strOf y.s = SY at *
  subst hm
  cases r with
  | none =>
    have C1 := Lib.hid (show Calls Tryz.prog 24 _ (w.alloc (.cells #[.int .u8 8, .int .u8 0, .int .u8 (t : Int), .int .i32 0, .string ⟨#[]⟩, .slice (some ad) 1 c] 27)) fun e1 w2 => e1 = .returned (.tuple #[.int .i32 0, .bool false]) ∧ Below (w.alloc (.cells #[.int .u8 8, .int .u8 0, .int .u8 (t : Int), .int .i32 0, .string ⟨#[]⟩, .slice (some ad) 1 c] 27)).heap.size (w.alloc (.cells #[.int .u8 8, .int .u8 0, .int .u8 (t : Int), .int .i32 0, .string ⟨#[]⟩, .slice (some ad) 1 c] 27)) w2 from C)
    clear C hr
    unfold VlR
    go_enter Tryz.func24, Tryz.ntmps24
    go_wp2_with (go_at_call 24; (with_reducible refine (C1.out).mono ?_); rintro e1 w2 ⟨rfl, b1⟩; have H2 := Lib.hid (blw HB.out b1); have P2 := HP.out _ b1; clear p0 p1 p2 p3 p4 p5 y0 y1 y2 y3 y4 y5; obtain ⟨p0, p1, p2, p3, p4, p5⟩ := P2; clear b1)
    go_ret2
    exact ⟨rfl, H2.out⟩
  | some u =>
    have C1 := Lib.hid (show Calls Tryz.prog 24 _ (w.alloc (.cells #[.int .u8 8, .int .u8 0, .int .u8 (t : Int), .int .i32 0, .string ⟨#[]⟩, .slice (some ad) 1 c] 27)) fun e1 w2 => e1 = .returned (.tuple #[.int .i32 u, .bool true]) ∧ Below (w.alloc (.cells #[.int .u8 8, .int .u8 0, .int .u8 (t : Int), .int .i32 0, .string ⟨#[]⟩, .slice (some ad) 1 c] 27)).heap.size (w.alloc (.cells #[.int .u8 8, .int .u8 0, .int .u8 (t : Int), .int .i32 0, .string ⟨#[]⟩, .slice (some ad) 1 c] 27)) w2 from C)
    have C2 := Lib.hid (Rconv_any t u)
    show Calls _ _ _ _ (VlR w (conO t u))
    unfold apR at C2
    unfold VlR apR
    generalize (conO t u).getD 0 = v1 at *
    generalize (conO t u).isSome = v2 at *
    clear C hr
    go_enter Tryz.func24, Tryz.ntmps24
    go_wp2_with (first
      | (go_at_call 24; (with_reducible refine (C1.out).mono ?_); rintro e1 w2 ⟨rfl, b1⟩; have H2 := Lib.hid (blw HB.out b1); have P2 := HP.out _ b1; clear p0 p1 p2 p3 p4 p5 y0 y1 y2 y3 y4 y5; obtain ⟨p0, p1, p2, p3, p4, p5⟩ := P2; clear b1)
      | (go_at_call 39; (with_reducible refine (C2.out _).mono ?_); rintro e1 w3 ⟨rfl, rfl⟩))
    go_ret2
    exact ⟨rfl, H2.out⟩
set_option maxRecDepth 100000 in
set_option maxHeartbeats 4000000 in
theorem zv_dy (o : Nat) (z : Ex) (B2 : Option Addr) (m2 d2 : Nat) (hm2 : z.l.length = m2) (r2 : Option Int) (hr2 : ∀ u, r2 = some u → inW u) (y : Ex) (ad : Addr) (c : Nat) (B : Option Addr) (m dd : Nat) (hm : y.l.length = m) (E : Option Addr) (kk d nn : Nat) (K : Option Addr) (kn kc : Nat) (w : World) (r : Option Int) (hr : ∀ u, r = some u → inW u) (hy : ExAt (w.alloc (.cells #[.int .u8 7, .int .u8 (o : Int), .int .u8 0, .int .i32 0, .string ⟨#[]⟩, .slice (some ad) 2 c] 27)) ad y B dd) (C : Calls Tryz.prog 24 #[exV y B m dd, .slice E kk d, .int .i64 (nn : Int), .slice K kn kc] (w.alloc (.cells #[.int .u8 7, .int .u8 (o : Int), .int .u8 0, .int .i32 0, .string ⟨#[]⟩, .slice (some ad) 2 c] 27)) (VlR (w.alloc (.cells #[.int .u8 7, .int .u8 (o : Int), .int .u8 0, .int .i32 0, .string ⟨#[]⟩, .slice (some ad) 2 c] 27)) r)) (D : ∀ Y, Below (w.alloc (.cells #[.int .u8 7, .int .u8 (o : Int), .int .u8 0, .int .i32 0, .string ⟨#[]⟩, .slice (some ad) 2 c] 27)).heap.size (w.alloc (.cells #[.int .u8 7, .int .u8 (o : Int), .int .u8 0, .int .i32 0, .string ⟨#[]⟩, .slice (some ad) 2 c] 27)) Y → ExAt Y ⟨ad.block, ad.off + 6, none⟩ z B2 d2 ∧ Calls Tryz.prog 24 #[exV z B2 m2 d2, .slice E kk d, .int .i64 (nn : Int), .slice K kn kc] Y (VlR Y r2)) : Calls Tryz.prog 24 #[.agg #[.int .u8 7, .int .u8 (o : Int), .int .u8 0, .int .i32 0, .string ⟨#[]⟩, .slice (some ad) 2 c], .slice E kk d, .int .i64 (nn : Int), .slice K kn kc] w (VlR w (r.bind fun a => r2.bind fun b => apO o a b)) := by
  subst hm2
  have HB := Lib.hid (bal (b0 w) (.cells #[.int .u8 7, .int .u8 (o : Int), .int .u8 0, .int .i32 0, .string ⟨#[]⟩, .slice (some ad) 2 c] 27))
  have HP := Lib.hid fun X (b : Below (w.alloc (.cells #[.int .u8 7, .int .u8 (o : Int), .int .u8 0, .int .i32 0, .string ⟨#[]⟩, .slice (some ad) 2 c] 27)).heap.size (w.alloc (.cells #[.int .u8 7, .int .u8 (o : Int), .int .u8 0, .int .i32 0, .string ⟨#[]⟩, .slice (some ad) 2 c] 27)) X) => box6 ((boxS_new w 27 #[.int .u8 7, .int .u8 (o : Int), .int .u8 0, .int .i32 0, .string ⟨#[]⟩, .slice (some ad) 2 c]).below b)
  obtain ⟨p0, p1, p2, p3, p4, p5⟩ := HP.out _ (b0 _)
  obtain ⟨y0, y1, y2, y3, y4, y5⟩ := hy
  unfold VlR apR at C
  dsimp only [exV] at C
  generalize strOf y.s = SY at *
  subst hm
  cases r with
  | none =>
    have C1 := Lib.hid (show Calls Tryz.prog 24 _ (w.alloc (.cells #[.int .u8 7, .int .u8 (o : Int), .int .u8 0, .int .i32 0, .string ⟨#[]⟩, .slice (some ad) 2 c] 27)) fun e1 w2 => e1 = .returned (.tuple #[.int .i32 0, .bool false]) ∧ Below (w.alloc (.cells #[.int .u8 7, .int .u8 (o : Int), .int .u8 0, .int .i32 0, .string ⟨#[]⟩, .slice (some ad) 2 c] 27)).heap.size (w.alloc (.cells #[.int .u8 7, .int .u8 (o : Int), .int .u8 0, .int .i32 0, .string ⟨#[]⟩, .slice (some ad) 2 c] 27)) w2 from C)
    clear C hr
    unfold VlR
    go_enter Tryz.func24, Tryz.ntmps24
    go_wp2_with (go_at_call 24; (with_reducible refine (C1.out).mono ?_); rintro e1 w2 ⟨rfl, b1⟩; have H2 := Lib.hid (blw HB.out b1); have P2 := HP.out _ b1; clear p0 p1 p2 p3 p4 p5 y0 y1 y2 y3 y4 y5; obtain ⟨p0, p1, p2, p3, p4, p5⟩ := P2; clear b1)
    go_ret2
    exact ⟨rfl, H2.out⟩
  | some u =>
    have C1 := Lib.hid (show Calls Tryz.prog 24 _ (w.alloc (.cells #[.int .u8 7, .int .u8 (o : Int), .int .u8 0, .int .i32 0, .string ⟨#[]⟩, .slice (some ad) 2 c] 27)) fun e1 w2 => e1 = .returned (.tuple #[.int .i32 u, .bool true]) ∧ Below (w.alloc (.cells #[.int .u8 7, .int .u8 (o : Int), .int .u8 0, .int .i32 0, .string ⟨#[]⟩, .slice (some ad) 2 c] 27)).heap.size (w.alloc (.cells #[.int .u8 7, .int .u8 (o : Int), .int .u8 0, .int .i32 0, .string ⟨#[]⟩, .slice (some ad) 2 c] 27)) w2 from C)
    clear C
    unfold VlR apR at D
    dsimp only [exV] at D
    cases r2 with
    | none =>
      have D := Lib.hid (show ∀ Y, Below (w.alloc (.cells #[.int .u8 7, .int .u8 (o : Int), .int .u8 0, .int .i32 0, .string ⟨#[]⟩, .slice (some ad) 2 c] 27)).heap.size (w.alloc (.cells #[.int .u8 7, .int .u8 (o : Int), .int .u8 0, .int .i32 0, .string ⟨#[]⟩, .slice (some ad) 2 c] 27)) Y → ExAt Y ⟨ad.block, ad.off + 6, none⟩ z B2 d2 ∧ Calls Tryz.prog 24 _ Y fun e1 w2 => e1 = .returned (.tuple #[.int .i32 0, .bool false]) ∧ Below Y.heap.size Y w2 from D)
      clear hr hr2
      unfold VlR
      go_enter Tryz.func24, Tryz.ntmps24
      go_wp2_with (first
        | (go_at_call 24; (with_reducible refine (C1.out).mono ?_); rintro e1 w2 ⟨rfl, b1⟩; have H2 := Lib.hid (blw HB.out b1); have P2 := HP.out _ b1; clear p0 p1 p2 p3 p4 p5 y0 y1 y2 y3 y4 y5; obtain ⟨p0, p1, p2, p3, p4, p5⟩ := P2; have ZB := D.out _ b1; have CZ := Lib.hid ZB.2; obtain ⟨z0, z1, z2, z3, z4, z5⟩ := ZB.1; clear ZB b1)
        | (go_at_call 24; (with_reducible refine (CZ.out).mono ?_); rintro e1 w3 ⟨rfl, b1⟩; have H3 := Lib.hid (blw H2.out b1); have p1' := (b1.cell (g_lt p1)).trans p1; clear p0 p1 p2 p3 p4 p5 z0 z1 z2 z3 z4 z5 b1))
      go_ret2
      exact ⟨rfl, H3.out⟩
    | some x =>
      have D := Lib.hid (show ∀ Y, Below (w.alloc (.cells #[.int .u8 7, .int .u8 (o : Int), .int .u8 0, .int .i32 0, .string ⟨#[]⟩, .slice (some ad) 2 c] 27)).heap.size (w.alloc (.cells #[.int .u8 7, .int .u8 (o : Int), .int .u8 0, .int .i32 0, .string ⟨#[]⟩, .slice (some ad) 2 c] 27)) Y → ExAt Y ⟨ad.block, ad.off + 6, none⟩ z B2 d2 ∧ Calls Tryz.prog 24 _ Y fun e1 w2 => e1 = .returned (.tuple #[.int .i32 x, .bool true]) ∧ Below Y.heap.size Y w2 from D)
      have C2 := Lib.hid (RApply_any o u x (hr u rfl) (hr2 x rfl))
      show Calls _ _ _ _ (VlR w (apO o u x))
      unfold ApR apR at C2
      unfold VlR apR
      generalize (apO o u x).getD 0 = v1 at *
      generalize (apO o u x).isSome = v2 at *
      clear hr hr2
      go_enter Tryz.func24, Tryz.ntmps24
      go_wp2_with (first
        | (go_at_call 24; (with_reducible refine (C1.out).mono ?_); rintro e1 w2 ⟨rfl, b1⟩; have H2 := Lib.hid (blw HB.out b1); have P2 := HP.out _ b1; clear p0 p1 p2 p3 p4 p5 y0 y1 y2 y3 y4 y5; obtain ⟨p0, p1, p2, p3, p4, p5⟩ := P2; have ZB := D.out _ b1; have CZ := Lib.hid ZB.2; obtain ⟨z0, z1, z2, z3, z4, z5⟩ := ZB.1; clear ZB b1)
        | (go_at_call 24; (with_reducible refine (CZ.out).mono ?_); rintro e1 w3 ⟨rfl, b1⟩; have H3 := Lib.hid (blw H2.out b1); have p1' := (b1.cell (g_lt p1)).trans p1; clear p0 p1 p2 p3 p4 p5 z0 z1 z2 z3 z4 z5 b1)
        | (go_at_call 40; (with_reducible refine (C2.out _).mono ?_); rintro e1 w4 ⟨rfl, b1⟩; have H4 := Lib.hid (blw H3.out b1); clear b1))
      go_ret2
      exact ⟨rfl, H4.out⟩
theorem at_first {w : World} {A : Option Addr} {c : Nat} {l : List Ex} (R : TrR w A c l) (h : 0 < l.length) : ∃ ad, A = some ad ∧ ∃ B d, OKe (l.getD 0 e0) ∧ TrR w B d (l.getD 0 e0).l ∧ ExAt w ad (l.getD 0 e0) B d := by
  obtain ⟨ad, e1, B, n, d, hn, ok, t, y⟩ := R.at h
  rw [Nat.zero_mul, show ad.add 0 = ad from rfl, hn.symm] at y
  exact ⟨ad, e1, B, d, ok, t, y⟩
theorem at_second {w : World} {ad : Addr} {c : Nat} {l : List Ex} (R : TrR w (some ad) c l) (h : 1 < l.length) : ∃ B d, OKe (l.getD 1 e0) ∧ TrR w B d (l.getD 1 e0).l ∧ ExAt w ⟨ad.block, ad.off + 6, none⟩ (l.getD 1 e0) B d := by
  obtain ⟨a, e1, B, n, d, hn, ok, t, y⟩ := R.at h
  injection e1 with e1
  subst e1
  rw [show ad.add (1 * 6) = ⟨ad.block, ad.off + 6, none⟩ from add_succ_ ad 5, hn.symm] at y
  exact ⟨B, d, ok, t, y⟩
set_option maxRecDepth 100000 in
theorem Rval14_any {E K : Option Addr} {kk d kn kc nn : Nat} {l : List Sp} (hk : l.length = kk) (h1 : nn ≤ kk) (h2 : nn ≤ kn) : ∀ e : Ex, allE e = true → ∀ (A : Option Addr) (n c : Nat) (w : World), TrR w A c e.l → e.l.length = n → OKe e → SpR w E d l → KnR w K kc (valsL l kn) → Calls Tryz.prog 24 #[exV e A n c, .slice E kk d, .int .i64 (nn : Int), .slice K kn kc] w (VlR w (vOf (prefM l nn) e)) := by
  refine Ex.ind fun e ih ha A n c w R hn ok S KN => ?_
  have hw := own_ways (all_own ha)
  have hall : ∀ y ∈ e.l, allE y = true := by rw [allE_eq, Bool.and_eq_true, allL_iff] at ha; exact ha.2
  have hin := inM_env S nn (by omega)
  rcases hw with ⟨v, rfl⟩ | ⟨v, h0, h1', rfl⟩ | ⟨v, h0, rfl⟩ | ⟨s, _, rfl⟩ | ⟨s, y, _, rfl⟩ | ⟨o, y, _, _, rfl⟩ | ⟨o, y, z, _, _, rfl⟩ | ⟨t, y, ht, rfl⟩ | ⟨s, _, rfl⟩
  · subst hn; rw [v_lit _ 1 v (by omega)]; exact zv_lit1 v A c E kk d nn K kn kc w
  · subst hn; rw [v_lit _ 2 v (by omega)]; exact zv_lit2 v A c E kk d nn K kn kc w
  · subst hn; rw [v_lit _ 3 v (by omega)]; exact zv_lit3 v A c E kk d nn K kn kc w
  · subst hn; rw [v_name]; exact zv_name s A c E kk d l hk nn h1 K kn kc h2 w S KN
  · subst hn; rw [v_index]; exact zv_index (strOf s) A c E kk d nn K kn kc w
  · subst hn
    rw [v_mon]
    obtain ⟨ad, rfl, B, dd, oky, ty, hy⟩ := at_first R (by show 0 < 1; omega)
    have b := bal (b0 w) (.cells #[.int .u8 6, .int .u8 (o : Int), .int .u8 0, .int .i32 0, .string ⟨#[]⟩, .slice (some ad) 1 c] 27)
    exact zv_mon o y ad c B _ dd rfl E kk d nn K kn kc w _ (val_in hin y oky ty) (hy.keep b) (ih y (List.mem_singleton.2 rfl) (hall y (List.mem_singleton.2 rfl)) B _ dd _ (ty.keep b) rfl oky (S.keep b) (KN.keep b))
  · subst hn
    rw [v_dy]
    obtain ⟨ad, rfl, B, dd, oky, ty, hy⟩ := at_first R (by show 0 < 2; omega)
    obtain ⟨B2, d2, okz, tz, hz⟩ := at_second R (by show 1 < 2; omega)
    have b := bal (b0 w) (.cells #[.int .u8 7, .int .u8 (o : Int), .int .u8 0, .int .i32 0, .string ⟨#[]⟩, .slice (some ad) 2 c] 27)
    refine zv_dy o z B2 _ d2 rfl _ (val_in hin z okz tz) y ad c B _ dd rfl E kk d nn K kn kc w _ (val_in hin y oky ty) (hy.keep b) (ih y (List.mem_cons_self ..) (hall y (List.mem_cons_self ..)) B _ dd _ (ty.keep b) rfl oky (S.keep b) (KN.keep b)) fun Y bY => ?_
    have b2 := blw b bY
    have hm : z ∈ [y, z] := List.mem_cons_of_mem _ (List.mem_singleton.2 rfl)
    exact ⟨hz.keep b2, ih z hm (hall z hm) B2 _ d2 Y (tz.keep b2) rfl okz (S.keep b2) (KN.keep b2)⟩
  · subst hn
    rw [v_conv]
    obtain ⟨ad, rfl, B, dd, oky, ty, hy⟩ := at_first R (by show 0 < 1; omega)
    have b := bal (b0 w) (.cells #[.int .u8 8, .int .u8 0, .int .u8 (t : Int), .int .i32 0, .string ⟨#[]⟩, .slice (some ad) 1 c] 27)
    exact zv_conv t y ad c B _ dd rfl E kk d nn K kn kc w _ (val_in hin y oky ty) (hy.keep b) (ih y (List.mem_singleton.2 rfl) (hall y (List.mem_singleton.2 rfl)) B _ dd _ (ty.keep b) rfl oky (S.keep b) (KN.keep b))
  · subst hn; rw [v_size]; exact zv_size s A c E kk d l hk nn h1 K kn kc w S
end Go.Proofs.YtimbiobonigdmaaGreatDoor
