/- LayoutBroken: its walk. -/
import Derived.Test.YtkhmpmjonkmbeaaDoorLwc
import Derived.Test.YtkhmpmjonkmbeaaDoorBrp
set_option linter.unusedVariables false
set_option linter.unusedSimpArgs false
namespace Go.Proofs.YtkhmpmjonkmbeaaDoor
open Go Go.RowKit L7

theorem keep3 {w v v2 : World} {A : Option Addr} {c : Nat} {rs : List Rw} (h : Below w.heap.size w v ∧ MaxIs v ∧ RR v A c rs) (b : Below v.heap.size v v2) : Below w.heap.size w v2 ∧ MaxIs v2 ∧ RR v2 A c rs :=
  ⟨blw h.1 b, h.2.1.below b, h.2.2.keep b⟩
theorem u16_bd {q : Int} (h : (Lit.int .u16 q).wf = true) : 0 ≤ q ∧ q < 65536 := by
  simp only [Lit.wf, IntKind.min, IntKind.max, IntKind.signed, IntKind.bits, Bool.and_eq_true] at h
  have h1 := h.1
  have h2 := h.2
  simp at h1 h2
  omega
theorem u8_bd {q : Int} (h : (Lit.int .u8 q).wf = true) : 0 ≤ q ∧ q < 256 := by
  simp only [Lit.wf, IntKind.min, IntKind.max, IntKind.signed, IntKind.bits, Bool.and_eq_true] at h
  have h1 := h.1
  have h2 := h.2
  simp at h1 h2
  omega
theorem tmod_nat (a b : Nat) : (a : Int).tmod (b : Int) = ((a % b : Nat) : Int) := by rw [Int.tmod_eq_emod_of_nonneg (by omega)]; simp
/-- The byte before a place, as a text. -/
theorem one_at (t : Bs) (p : Nat) (h0 : p ≠ 0) (h : p < t.length) (W : World) : (Instr.slice 9 (.string (strOf t)) (some (.int .i64 ((p : Int) - 1))) (some (.int .i64 (p : Int))) none).run Tryd.prog W = .ok (.string ⟨#[t.getD (p - 1) 0]⟩) W := by
  have h1 := cut_mid t (p - 1) p (by omega) (by omega) W
  have e : ((p - 1 : Nat) : Int) = (p : Int) - 1 := by omega
  rw [e] at h1
  rw [h1]
  have e2 : (t.take p).drop (p - 1) = [t.getD (p - 1) 0] := by
    rw [List.drop_eq_getElem_cons (by rw [List.length_take]; omega)]
    have : (t.take p).drop (p - 1 + 1) = [] := by
      rw [List.drop_eq_nil_iff, List.length_take]; omega
    rw [this]
    simp [show p - 1 < t.length by omega]
  rw [e2]
  rfl
theorem okl_kern {xs ys : List Rw} (h : kern xs = kern ys) (ho : OKL ys) : OKL xs := by
  intro x hx
  have : (x.dp, x.tx) ∈ kern ys := by rw [← h]; exact List.mem_map.2 ⟨x, hx, rfl⟩
  obtain ⟨y, hy, e⟩ := List.mem_map.1 this
  have := ho y hy
  unfold OKx at this ⊢
  injection e with _ e
  rw [← e]
  exact this
set_option maxRecDepth 100000 in
set_option maxHeartbeats 16000000 in
theorem walkLayoutBroken (a0 : Option Addr) (len0 cap0 : Nat) (a1 : Int) (w1 : (Lit.int .u16 a1).wf = true) (a2 : Int) (w2 : (Lit.int .u16 a2).wf = true) (a3 : Int) (w3 : (Lit.int .u8 a3).wf = true) (w : World) (w0 : IsRs w a0 len0 cap0) (hm : MaxIs w) :
    Calls Tryd.prog 8 #[.slice a0 len0 cap0, .int .u16 a1, .int .u16 a2, .int .u8 a3] w fun e w' => e = .returned (.bool true) ∧ Below w.heap.size w w' := by
  obtain ⟨rs0, hl, R⟩ := w0
  obtain ⟨x1, rfl⟩ := Int.eq_ofNat_of_zero_le (u16_bd w1).1
  obtain ⟨x2, rfl⟩ := Int.eq_ofNat_of_zero_le (u16_bd w2).1
  obtain ⟨x3, rfl⟩ := Int.eq_ofNat_of_zero_le (u8_bd w3).1
  have y1 := (u16_bd w1).2
  have y2 := (u16_bd w2).2
  have y3 := (u8_bd w3).2
  have z1 : (0 : Int) ≤ (x1 : Int) := by omega
  have z2 : (0 : Int) ≤ (x2 : Int) := by omega
  have z3 : (0 : Int) ≤ (x3 : Int) := by omega
  have C0 := Lib.hid (cut_any R hl)
  have ho := cutR_ok rs0
  have hl60 := cutR_len rs0
  generalize cutR rs0 = rs at *
  clear R hl w1 w2 w3
  obtain ⟨m, hmm⟩ : ∃ m, rs.length = m := ⟨_, rfl⟩
  obtain ⟨q, hq⟩ : ∃ q, rs.take 30 = q := ⟨_, rfl⟩
  obtain ⟨K, hK⟩ : ∃ K, q.length = K := ⟨_, rfl⟩
  have hKm : min (m : Int) 30 = (K : Int) := by rw [← hK, ← hq, List.length_take, hmm]; omega
  have hK30 : (K : Int) ≤ 30 := by omega
  have hqo : OKL q := by rw [← hq]; exact fun x hx => ho x (List.mem_of_mem_take hx)
  have HTk := Lib.hid (fun (W : World) (A : Option Addr) (c : Nat) (R : RR W A c rs) => show RR W A c q from by rw [← hq]; exact R.take 30)
  have HM := Lib.hid hmm
  have HK := Lib.hid hK
  have HO := Lib.hid ho
  have HX := Lib.hid hm
  have CW := Lib.hid (fun (W : World) (h : MaxIs W) => works_any W h)
  have CM := Lib.hid (fun (W : World) (A : Option Addr) (c : Nat) (R : RR W A c q) (h : MaxIs W) => May_any R hK h)
  rw [hmm] at hl60
  have hm60 : (m : Int) ≤ 60 := by omega
  clear ho hmm hm hq hl60
  by_cases hK0 : K = 0
  · have q1 : ((K : Int) == 0) = true := by simp [hK0]
    clear hK hK0 CM
    go_enter Tryd.func8, Tryd.ntmps8
    go_wp2_with (first
      | (go_at_call 14; (with_reducible refine C0.out.mono ?_); clear C0; rintro e v1 ⟨A1, n1, c1, rfl, o1, b1⟩; obtain rfl : n1 = m := o1.len.symm.trans HM.out; have H1 := Lib.hid (And.intro b1 (And.intro (HX.out.below b1) (HTk.out _ _ _ (o1.rr HO.out)))); clear o1 b1; have hc1 : (K : Int) ≤ (c1 : Int) := (by have h := H1.out.2.2.le; rw [HK.out] at h; omega))
      | (go_at_call 13; (with_reducible refine (CW.out _ H1.out.2.1).mono ?_); rintro e v9 ⟨rfl, b⟩; replace H1 := Lib.hid (keep3 H1.out b); clear b))
    go_ret
    exact ⟨rfl, H1.out.1⟩
  · have q1 : ((K : Int) == 0) = false := by simp; omega
    have q0 : ¬ ((K : Int) = 0) := by omega
    cases hmay : may q with
    | false =>
      rw [hmay] at CM
      clear hK hK0 hmay
      go_enter Tryd.func8, Tryd.ntmps8
      go_wp2_with (first
        | (go_at_call 14; (with_reducible refine C0.out.mono ?_); clear C0; rintro e v1 ⟨A1, n1, c1, rfl, o1, b1⟩; obtain rfl : n1 = m := o1.len.symm.trans HM.out; have H1 := Lib.hid (And.intro b1 (And.intro (HX.out.below b1) (HTk.out _ _ _ (o1.rr HO.out)))); clear o1 b1; have hc1 : (K : Int) ≤ (c1 : Int) := (by have h := H1.out.2.2.le; rw [HK.out] at h; omega))
        | (go_at_call 17; (with_reducible refine (CM.out _ _ _ H1.out.2.2 H1.out.2.1).mono ?_); rintro e v2 ⟨rfl, b⟩; replace H1 := Lib.hid (keep3 H1.out b); clear b)
        | (go_at_call 13; (with_reducible refine (CW.out _ H1.out.2.1).mono ?_); rintro e v9 ⟨rfl, b⟩; replace H1 := Lib.hid (keep3 H1.out b); clear b))
      go_ret
      exact ⟨rfl, H1.out.1⟩
    | true =>
      rw [hmay] at CM
      obtain ⟨_, hok, _⟩ := may_ok hmay
      obtain ⟨kk, hkk⟩ : ∃ kk, x1 % K = kk := ⟨_, rfl⟩
      have hk2 : kk < q.length := by rw [← hkk, hK]; exact Nat.mod_lt _ (by omega)
      have e1 := tmod_nat x1 K
      rw [hkk] at e1
      have hf := fine_parts (ok_bounds (hok kk hk2)).2.2.2.2.1
      change Fine (q.getD kk r0).tx at hf
      obtain ⟨t, ht⟩ : ∃ t, (q.getD kk r0).tx = t := ⟨_, rfl⟩
      rw [ht] at hf
      obtain ⟨L, hL⟩ : ∃ L, t.length = L := ⟨_, rfl⟩
      have hL0 : L ≠ 0 := by rw [← hL]; have := List.length_pos_iff.2 hf.ne; omega
      have hL1 : (L : Int) ≤ 256 := by have := hf.le; omega
      have hsz := size_strOf t
      rw [hL] at hsz
      obtain ⟨p, hp⟩ : ∃ p, x2 % L = p := ⟨_, rfl⟩
      have hp2 : p < L := by rw [← hp]; exact Nat.mod_lt _ (by omega)
      have e2 := tmod_nat x2 L
      rw [hp] at e2
      have q2 : ((L : Int) == 0) = false := by simp; omega
      have q3 : ¬ ((L : Int) = 0) := by omega
      have HKk := Lib.hid hk2
      have HT := Lib.hid ht
      have hk3 : (kk : Int) < (K : Int) := by omega
      have hk4 : (0 : Int) ≤ (kk : Int) := by omega
      have hp3 : (p : Int) < (L : Int) := by omega
      have hp4 : (0 : Int) ≤ (p : Int) := by omega
      clear hkk hp
      by_cases hp0 : p = 0
      · have q4 : ((p : Int) == 0) = true := by simp [hp0]
        clear hK hK0 hmay hok hk2 hf ht hL hp0
        go_enter Tryd.func8, Tryd.ntmps8
        go_wp2_with (first
          | (go_at_call 14; (with_reducible refine C0.out.mono ?_); clear C0; rintro e v1 ⟨A1, n1, c1, rfl, o1, b1⟩; obtain rfl : n1 = m := o1.len.symm.trans HM.out; have H1 := Lib.hid (And.intro b1 (And.intro (HX.out.below b1) (HTk.out _ _ _ (o1.rr HO.out)))); clear o1 b1; have hc1 : (K : Int) ≤ (c1 : Int) := (by have h := H1.out.2.2.le; rw [HK.out] at h; omega))
          | (go_at_call 17; (with_reducible refine (CM.out _ _ _ H1.out.2.2 H1.out.2.1).mono ?_); rintro e v2 ⟨rfl, b⟩; replace H1 := Lib.hid (keep3 H1.out b); clear b; obtain ⟨ad, rfl, g0, g1, g2⟩ := H1.out.2.2.rd kk HKk.out; rw [HT.out] at g2; clear g0 g1)
          | (go_at_call 13; (with_reducible refine (CW.out _ H1.out.2.1).mono ?_); rintro e v9 ⟨rfl, b⟩; replace H1 := Lib.hid (keep3 H1.out b); clear b))
        go_ret
        exact ⟨rfl, H1.out.1⟩
      · have q4 : ((p : Int) == 0) = false := by simp; omega
        by_cases hp1 : L ≤ p + 1
        · have q5 : (L : Int) ≤ (p : Int) + 1 := by omega
          have q6 : decide ((L : Int) ≤ (p : Int) + 1) = true := decide_eq_true q5
          clear hK hK0 hmay hok hk2 hf ht hL hp0 hp1
          go_enter Tryd.func8, Tryd.ntmps8
          go_wp2_with (first
            | (go_at_call 14; (with_reducible refine C0.out.mono ?_); clear C0; rintro e v1 ⟨A1, n1, c1, rfl, o1, b1⟩; obtain rfl : n1 = m := o1.len.symm.trans HM.out; have H1 := Lib.hid (And.intro b1 (And.intro (HX.out.below b1) (HTk.out _ _ _ (o1.rr HO.out)))); clear o1 b1; have hc1 : (K : Int) ≤ (c1 : Int) := (by have h := H1.out.2.2.le; rw [HK.out] at h; omega))
            | (go_at_call 17; (with_reducible refine (CM.out _ _ _ H1.out.2.2 H1.out.2.1).mono ?_); rintro e v2 ⟨rfl, b⟩; replace H1 := Lib.hid (keep3 H1.out b); clear b; obtain ⟨ad, rfl, g0, g1, g2⟩ := H1.out.2.2.rd kk HKk.out; rw [HT.out] at g2; clear g0 g1)
            | (go_at_call 13; (with_reducible refine (CW.out _ H1.out.2.1).mono ?_); rintro e v9 ⟨rfl, b⟩; replace H1 := Lib.hid (keep3 H1.out b); clear b))
          go_ret
          exact ⟨rfl, H1.out.1⟩
        · have q5 : ¬ (L : Int) ≤ (p : Int) + 1 := by omega
          have q6 : decide ((L : Int) ≤ (p : Int) + 1) = false := decide_eq_false q5
          have i1 := index_l t p (by omega)
          have i2 := index_l t (p + 1) (by omega)
          have e3 : ((p + 1 : Nat) : Int) = (p : Int) + 1 := by omega
          rw [e3] at i2
          clear e3
          obtain ⟨n1, hn1⟩ : ∃ n1, t.getD p 0 = n1 := ⟨_, rfl⟩
          obtain ⟨n2, hn2⟩ : ∃ n2, t.getD (p + 1) 0 = n2 := ⟨_, rfl⟩
          rw [hn1] at i1
          rw [hn2] at i2
          by_cases hc1' : n1 = 32
          · have q7 : ((n1.toNat : Int) != 32) = false := by rw [hc1']; rfl
            by_cases hc2' : n2 = 32
            · have q8 : ((n2.toNat : Int) == 32) = true := by rw [hc2']; rfl
              clear hK hK0 hmay hok hk2 hf ht hL hp0 hp1 hn1 hn2 hc1' hc2'
              generalize n1.toNat = N1 at *
              generalize n2.toNat = N2 at *
              go_enter Tryd.func8, Tryd.ntmps8
              go_wp2_with (first
                | (go_at_call 14; (with_reducible refine C0.out.mono ?_); clear C0; rintro e v1 ⟨A1, n1, c1, rfl, o1, b1⟩; obtain rfl : n1 = m := o1.len.symm.trans HM.out; have H1 := Lib.hid (And.intro b1 (And.intro (HX.out.below b1) (HTk.out _ _ _ (o1.rr HO.out)))); clear o1 b1; have hc1 : (K : Int) ≤ (c1 : Int) := (by have h := H1.out.2.2.le; rw [HK.out] at h; omega))
                | (go_at_call 17; (with_reducible refine (CM.out _ _ _ H1.out.2.2 H1.out.2.1).mono ?_); rintro e v2 ⟨rfl, b⟩; replace H1 := Lib.hid (keep3 H1.out b); clear b; obtain ⟨ad, rfl, g0, g1, g2⟩ := H1.out.2.2.rd kk HKk.out; rw [HT.out] at g2; clear g0 g1)
                | (go_at_call 13; (with_reducible refine (CW.out _ H1.out.2.1).mono ?_); rintro e v9 ⟨rfl, b⟩; replace H1 := Lib.hid (keep3 H1.out b); clear b))
              go_ret
              exact ⟨rfl, H1.out.1⟩
            · have q8 : ((n2.toNat : Int) == 32) = false := by
                have := byte_eq n2 32 (by decide) 32 rfl
                rw [decide_eq_false hc2'] at this
                exact this
              have i3 := one_at t p hp0 (by omega)
              obtain ⟨n3, hn3⟩ : ∃ n3, t.getD (p - 1) 0 = n3 := ⟨_, rfl⟩
              rw [hn3] at i3
              have CC := Lib.hid (fun (W : World) => cContains1 n3 W)
              cases hc : isC n3 with
              | false =>
                rw [hc] at CC
                clear hK hK0 hmay hok hk2 hf ht hL hp0 hp1 hn1 hn2 hn3 hc1' hc2' hc
                generalize n1.toNat = N1 at *
                generalize n2.toNat = N2 at *
                go_enter Tryd.func8, Tryd.ntmps8
                go_wp2_with (first
                  | (go_at_call 14; (with_reducible refine C0.out.mono ?_); clear C0; rintro e v1 ⟨A1, n1, c1, rfl, o1, b1⟩; obtain rfl : n1 = m := o1.len.symm.trans HM.out; have H1 := Lib.hid (And.intro b1 (And.intro (HX.out.below b1) (HTk.out _ _ _ (o1.rr HO.out)))); clear o1 b1; have hc1 : (K : Int) ≤ (c1 : Int) := (by have h := H1.out.2.2.le; rw [HK.out] at h; omega))
                  | (go_at_call 17; (with_reducible refine (CM.out _ _ _ H1.out.2.2 H1.out.2.1).mono ?_); rintro e v2 ⟨rfl, b⟩; replace H1 := Lib.hid (keep3 H1.out b); clear b; obtain ⟨ad, rfl, g0, g1, g2⟩ := H1.out.2.2.rd kk HKk.out; rw [HT.out] at g2; clear g0 g1)
                  | (go_at_call 24; (with_reducible refine (CC.out _).mono ?_); rintro e v3 ⟨rfl, rfl⟩)
                  | (go_at_call 13; (with_reducible refine (CW.out _ H1.out.2.1).mono ?_); rintro e v9 ⟨rfl, b⟩; replace H1 := Lib.hid (keep3 H1.out b); clear b))
                go_ret
                exact ⟨rfl, H1.out.1⟩
              | true =>
                rw [hc] at CC
                obtain ⟨t1, ht1⟩ : ∃ t1, t.take p = t1 := ⟨_, rfl⟩
                obtain ⟨t2, ht2⟩ : ∃ t2, t.drop (p + 1) = t2 := ⟨_, rfl⟩
                have hbr : Broken t t1 t2 := by
                  rw [← ht1, ← ht2]
                  exact broken_at hp0 (by omega) (hn1.trans hc1') (by rw [hn2]; exact hc2') (by rw [hn3]; exact hc)
                have hbx : ∀ x, q[kk]? = some x → Broken x.tx t1 t2 := by
                  intro x hx
                  have e : q.getD kk r0 = x := by simp [hx]
                  rw [← e, ht]
                  exact hbr
                have hlt : t1.length + t2.length ≤ 256 := by
                  have h := congrArg List.length hbr.eq
                  simp only [List.length_append, List.length_cons] at h
                  omega
                obtain ⟨d, hd⟩ : ∃ d, x3 % 20 = d := ⟨_, rfl⟩
                have e4 := tmod_nat x3 20
                rw [hd] at e4
                have e4' : (x3 : Int).tmod 20 = (d : Int) := e4
                have hd20 : d ≤ 20 := by omega
                have hd0 : (0 : Int) ≤ (d : Int) := by omega
                have hd1 : (d : Int) ≤ 20 := by omega
                have hlen := fun i hi => brkS_len (d := d) (t1 := t1) (t2 := t2) (l := q) (j := kk) hd20 hlt hok i hi
                have hall := hlen q.length (Nat.le_refl _)
                rw [List.take_length] at hall
                have hrow := brkS_rows (d := d) (j := kk) hmay hbx (by omega)
                obtain ⟨hal1, hal2⟩ := brk_alike kk q 1
                have hrl := brkR_len q kk 1
                rw [hK] at hrl
                have hno : ((brkR kk q 1).getD kk r0).no = (kk : Int) + 1 := by
                  have h1 : kk < (brkR kk q 1).length := by omega
                  have h2 := hal2 ((brkR kk q 1).getD kk r0) (by simp [h1])
                  rw [h2]
                  omega
                have hko : OKL (brkR kk q 1) := okl_kern hal1 hqo
                have CRo := Lib.hid (fun (W : World) (h : MaxIs W) => show Calls Tryd.prog 10 #[.string (strOf (brkS d t1 t2 kk q))] W fun en w' => ∃ A c, en = .returned (.tuple #[.slice A K c, .int .i64 0, .int .i64 0]) ∧ RR w' A c (brkR kk q 1) ∧ Below W.heap.size W w' from ((rows_at (by unfold maxLen; omega) W h hrow).mono (by
                  rintro e w' ⟨A, c, h1, h2, h3⟩
                  rw [hrl] at h1 h2
                  exact ⟨A, c, h1, h2.rr hko, h3⟩)))
                have CE := Lib.hid (fun (W : World) (A B : Option Addr) (c d : Nat) (R : RR W A c (brkR kk q 1)) (S : RR W B d q) => show Calls Tryd.prog 19 #[.slice A K c, .slice B K d] W fun e w' => e = .returned (.bool true) ∧ Below W.heap.size W w' from (by
                  have := RAlike_any R S hrl hK
                  rw [decide_eq_true (show kern (brkR kk q 1) = kern q from hal1)] at this
                  exact this))
                have HNo := Lib.hid (And.intro hno hrl)
                have k1 := cut_to t p (by omega)
                have k2 := cut_from t (p + 1) (by omega)
                have e3 : ((p + 1 : Nat) : Int) = (p : Int) + 1 := by omega
                rw [ht1] at k1
                rw [ht2, e3] at k2
                have HOK := Lib.hid hok
                have HLn := Lib.hid hlen
                have HLt := Lib.hid (And.intro hlt hd20)
                have CD := Lib.hid (fun (W : World) => cRepeatSp d (by omega) W)
                have HHit := Lib.hid (brkS_hit (d := d) (t1 := t1) (t2 := t2) (l := q) (j := kk) hk2)
                have HMiss := Lib.hid (fun (i : Nat) (hi : i < q.length) (hne : i ≠ kk) => brkS_miss (d := d) (t1 := t1) (t2 := t2) (l := q) (i := i) (j := kk) hi hne)
                have HAll := Lib.hid hall
                clear hK hK0 hmay hok hk2 hf ht hL hp0 hp1 hn1 hn2 hn3 hc1' hc2' hc hbr hbx hlt hd e4 hlen hall hrow hal1 hal2 hrl hno hko e3 ht1 ht2 hd20
                generalize n1.toNat = N1 at *
                generalize n2.toNat = N2 at *
                go_enter Tryd.func8, Tryd.ntmps8
                go_wp2_with (first
                  | (go_at_call 14; (with_reducible refine C0.out.mono ?_); clear C0; rintro e v1 ⟨A1, n1, c1, rfl, o1, b1⟩; obtain rfl : n1 = m := o1.len.symm.trans HM.out; have H1 := Lib.hid (And.intro b1 (And.intro (HX.out.below b1) (HTk.out _ _ _ (o1.rr HO.out)))); clear o1 b1; have hc1 : (K : Int) ≤ (c1 : Int) := (by have h := H1.out.2.2.le; rw [HK.out] at h; omega))
                  | (go_at_call 17; (with_reducible refine (CM.out _ _ _ H1.out.2.2 H1.out.2.1).mono ?_); rintro e v2 ⟨rfl, b⟩; replace H1 := Lib.hid (keep3 H1.out b); clear b; obtain ⟨ad, rfl, g0, g1, g2⟩ := H1.out.2.2.rd kk HKk.out; rw [HT.out] at g2; clear g0 g1)
                  | (go_at_call 24; (with_reducible refine (CC.out _).mono ?_); rintro e v3 ⟨rfl, rfl⟩))
                have HN := Lib.hid (bld_new v2)
                go_loopw [83] (fun i wr => ∃ k : Nat, k ≤ K ∧ i = .int .i64 k ∧ Hid (Below v2.heap.size v2 wr ∧ BldI v2.heap.size v2.heap.size (brkS d t1 t2 kk (q.take k)) wr)) (fun i _ => K - (intOf i).toNat)
                case atStart => exact ⟨0, Nat.zero_le _, rfl, Lib.hid ⟨bal (b0 v2) _, by rw [List.take_zero, brkS_nil]; exact HN.out⟩⟩
                case round =>
                  obtain ⟨k, hk, rfl, H⟩ := hrel
                  have hk0 : (0 : Int) ≤ (k : Int) := by omega
                  by_cases hlt : (k : Int) < (K : Int)
                  · have hkq : k < q.length := by have := HK.out; omega
                    obtain ⟨ad2, e9, g0', g1', g2'⟩ := (H1.out.2.2.keep H.out.1).rd k hkq
                    cases e9
                    have hb := ok_bounds (HOK.out k hkq)
                    have hd1' : 0 ≤ (q.getD k r0).dp := hb.2.2.1
                    have hd2' : (q.getD k r0).dp ≤ 32 := hb.2.2.2.1
                    have hd3' : (q.getD k r0).tx.length ≤ 256 := hb.2.2.2.2.2
                    have hP := HLn.out k (by omega)
                    have HKB := Lib.hid (fun (X : World) (b : Below wr.heap.size wr X) => And.intro (blw H.out.1 b) (bldI_keep H.out.2 b))
                    clear hb g0'
                    by_cases hkk : k = kk
                    · have q9 : ((k : Int) == (kk : Int)) = true := by simp [hkk]
                      have hS : brkS d t1 t2 kk (q.take (k + 1)) = brkS d t1 t2 kk (q.take k) ++ (List.replicate (2 * (q.getD k r0).dp.toNat) 32 ++ t1 ++ [10] ++ List.replicate (2 * (q.getD k r0).dp.toNat) 32 ++ List.replicate d 32 ++ t2 ++ [10]) := by rw [hkk]; exact HHit.out
                      clear hd3' g2' hkk
                      generalize q.getD k r0 = x at *
                      obtain ⟨no, dp, tx⟩ := x
                      dsimp only at *
                      obtain ⟨dn, rfl⟩ := Int.eq_ofNat_of_zero_le hd1'
                      rw [Int.toNat_natCast] at hS
                      have C := Lib.hid (fun W => cRepeatSp (2 * dn) (by omega) W)
                      have e2' : ((2 * dn : Nat) : Int) = 2 * (dn : Int) := by omega
                      rw [e2'] at C
                      have hl2 := HLt.out.1
                      have hl3 := HLt.out.2
                      obtain ⟨Zr, hZr⟩ : ∃ Zr : Bs, List.replicate (2 * dn) 32 = Zr := ⟨_, rfl⟩
                      obtain ⟨Dr, hDr⟩ : ∃ Dr : Bs, List.replicate d 32 = Dr := ⟨_, rfl⟩
                      have hZl : Zr.length ≤ 64 := by rw [← hZr, List.length_replicate]; omega
                      have hDl : Dr.length ≤ 20 := by rw [← hDr, List.length_replicate]; omega
                      rw [hZr, hDr] at hS
                      rw [hZr] at C
                      rw [hDr] at CD
                      have u1 := cat_str Zr t1 (by omega)
                      have u2 : Op.stringOp .add (strOf (Zr ++ t1)) ⟨#[10]⟩ = pure (.string (strOf (Zr ++ t1 ++ [10]))) := cat_str (Zr ++ t1) [10] (by simp only [List.length_append, List.length_cons, List.length_nil]; omega)
                      have u3 := cat_str (Zr ++ t1 ++ [10]) Zr (by simp only [List.length_append, List.length_cons, List.length_nil]; omega)
                      have u4 := cat_str (Zr ++ t1 ++ [10] ++ Zr) Dr (by simp only [List.length_append, List.length_cons, List.length_nil]; omega)
                      have u5 := cat_str (Zr ++ t1 ++ [10] ++ Zr ++ Dr) t2 (by simp only [List.length_append, List.length_cons, List.length_nil]; omega)
                      have u6 : Op.stringOp .add (strOf (Zr ++ t1 ++ [10] ++ Zr ++ Dr ++ t2)) ⟨#[10]⟩ = pure (.string (strOf (Zr ++ t1 ++ [10] ++ Zr ++ Dr ++ t2 ++ [10]))) := cat_str (Zr ++ t1 ++ [10] ++ Zr ++ Dr ++ t2) [10] (by simp only [List.length_append, List.length_cons, List.length_nil]; omega)
                      obtain ⟨W6, hW6⟩ : ∃ W6, Zr ++ t1 ++ [10] ++ Zr ++ Dr ++ t2 ++ [10] = W6 := ⟨_, rfl⟩
                      have hWl : W6.length ≤ 1000 := by rw [← hW6]; simp only [List.length_append, List.length_cons, List.length_nil]; omega
                      rw [hW6] at hS u6
                      generalize brkS d t1 t2 kk (q.take k) = P at *
                      have CW1 := Lib.hid (fun (X : World) (b : Below wr.heap.size wr X) => write_any v2.heap.size v2.heap.size P W6 X (HKB.out X b).2 (by omega) (HKB.out X b).1.size)
                      have HS := Lib.hid hS
                      clear hS hP H e2' hl2 hl3 hZr hDr hZl hDl hW6 hWl
                      generalize strOf (Zr ++ t1 ++ [10] ++ Zr ++ Dr ++ t2) = U5 at *
                      generalize strOf (Zr ++ t1 ++ [10] ++ Zr ++ Dr) = U4 at *
                      generalize strOf (Zr ++ t1 ++ [10] ++ Zr) = U3 at *
                      generalize strOf (Zr ++ t1 ++ [10]) = U2 at *
                      generalize strOf (Zr ++ t1) = U1 at *
                      generalize strOf Zr = Z1 at *
                      generalize strOf Dr = Z2 at *
                      go_wp2_with (go_at_call 22; (with_reducible refine (C.out _).mono ?_); clear C; rintro e w5 ⟨rfl, b5⟩; have B5 := Lib.hid b5; clear b5)
                      have s1 : IntKind.i64.wrap (x3 : Int) = (x3 : Int) := IntWalk.i64_in _ (by omega)
                      have s2 : IntKind.i64.wrap ((p : Int) + 1) = (p : Int) + 1 := IntWalk.i64_in _ (by omega)
                      have D5 := Lib.hid (show Below wr.heap.size wr w5.drew from bdrew B5.out 1)
                      first | (go_region_with (first
                        | (go_at_call 22; (with_reducible refine (CD.out _).mono ?_); rintro e w6 ⟨rfl, b6⟩; have B6 := Lib.hid (blw D5.out b6); clear b6)
                        | (go_at_call 25; (with_reducible refine (CW1.out _ B6.out).mono ?_); rintro e w7 ⟨rfl, u7, b7, _⟩; have B7 := Lib.hid (And.intro ((HKB.out _ B6.out).1.trans b7) u7); clear b7 u7))) | fail
                      all_goals (
                        go_wp2
                        go_roundw
                        case rel => exact ⟨k + 1, by omega, by go_num, Lib.hid ⟨B7.out.1, by rw [HS.out]; exact Or.inr B7.out.2⟩⟩
                        case measure => simp [intOf]; omega)
                    · have q9 : ((k : Int) == (kk : Int)) = false := by simp; omega
                      have hS := HMiss.out k hkq hkk
                      change brkS d t1 t2 kk (q.take (k + 1)) = brkS d t1 t2 kk (q.take k) ++ (List.replicate (2 * (q.getD k r0).dp.toNat) 32 ++ (q.getD k r0).tx ++ [10]) at hS
                      clear hkk
                      generalize q.getD k r0 = x at *
                      obtain ⟨no, dp, tx⟩ := x
                      dsimp only at *
                      obtain ⟨dn, rfl⟩ := Int.eq_ofNat_of_zero_le hd1'
                      rw [Int.toNat_natCast] at hS
                      have C := Lib.hid (fun W => cRepeatSp (2 * dn) (by omega) W)
                      have e2' : ((2 * dn : Nat) : Int) = 2 * (dn : Int) := by omega
                      rw [e2'] at C
                      obtain ⟨Zr, hZr⟩ : ∃ Zr : Bs, List.replicate (2 * dn) 32 = Zr := ⟨_, rfl⟩
                      have hZl : Zr.length ≤ 64 := by rw [← hZr, List.length_replicate]; omega
                      rw [hZr] at hS C
                      have u1 := cat_str Zr tx (by omega)
                      have u2 : Op.stringOp .add (strOf (Zr ++ tx)) ⟨#[10]⟩ = pure (.string (strOf (Zr ++ tx ++ [10]))) := cat_str (Zr ++ tx) [10] (by simp only [List.length_append, List.length_cons, List.length_nil]; omega)
                      obtain ⟨W6, hW6⟩ : ∃ W6, Zr ++ tx ++ [10] = W6 := ⟨_, rfl⟩
                      have hWl : W6.length ≤ 1000 := by rw [← hW6]; simp only [List.length_append, List.length_cons, List.length_nil]; omega
                      rw [hW6] at hS u2
                      generalize brkS d t1 t2 kk (q.take k) = P at *
                      have CW1 := Lib.hid (fun (X : World) (b : Below wr.heap.size wr X) => write_any v2.heap.size v2.heap.size P W6 X (HKB.out X b).2 (by omega) (HKB.out X b).1.size)
                      have HS := Lib.hid hS
                      clear hS hP H e2' hZr hZl hW6 hWl
                      generalize strOf (Zr ++ tx) = U1 at *
                      generalize strOf Zr = Z1 at *
                      go_wp2_with (first
                        | (go_at_call 22; (with_reducible refine (C.out _).mono ?_); clear C; rintro e w5 ⟨rfl, b5⟩; have B5 := Lib.hid b5; have g3' := (b5.cell (g_lt g2')).trans g2'; clear b5)
                        | (go_at_call 25; (with_reducible refine (CW1.out _ B5.out).mono ?_); rintro e w7 ⟨rfl, u7, b7, _⟩; have B7 := Lib.hid (And.intro ((HKB.out _ B5.out).1.trans b7) u7); clear b7 u7))
                      go_roundw
                      case rel => exact ⟨k + 1, by omega, by go_num, Lib.hid ⟨B7.out.1, by rw [HS.out]; exact Or.inr B7.out.2⟩⟩
                      case measure => simp [intOf]; omega
                  · obtain rfl : k = K := by omega
                    have ht := List.take_of_length_le (l := q) (i := k) (by have := HK.out; omega)
                    rw [ht] at H
                    have CS := Lib.hid (show Calls Tryd.prog 26 #[.pointer (some ⟨v2.heap.size, 0, none⟩)] wr (fun e w' => e = .returned (.string (strOf (brkS d t1 t2 kk q))) ∧ Below v2.heap.size wr w') from Tryd.Builder_String_any v2.heap.size v2.heap.size (brkS d t1 t2 kk q) wr H.out.2 H.out.1.size)
                    have H1x := Lib.hid H1.out
                    have HV := Lib.hid H.out.1
                    clear ht H H1
                    generalize strOf (brkS d t1 t2 kk q) = SS at *
                    go_wp2_with (first
                      | (go_at_call 26; refine CS.out.mono ?_; rintro e w5 ⟨rfl, b5⟩; have HC := Lib.hid (And.intro (blw H1x.out.1 (HV.out.trans b5)) (And.intro (H1x.out.2.1.below (HV.out.trans b5)) (H1x.out.2.2.keep (HV.out.trans b5)))); clear b5)
                      | (go_at_call 10; (with_reducible refine (CRo.out _ HC.out.2.1).mono ?_); rintro e w6 ⟨A6, c6, rfl, r6, b6⟩; have HD := Lib.hid (And.intro (keep3 HC.out b6) r6); clear b6 r6; obtain ⟨ad6, rfl, g6, _, _⟩ := HD.out.2.rd kk (by rw [HNo.out.2]; have := HK.out; have := HKk.out; omega); rw [HNo.out.1] at g6)
                      | (go_at_call 19; (with_reducible refine (CE.out _ _ _ _ _ HD.out.2 HD.out.1.2.2).mono ?_); rintro e w7 ⟨rfl, b7⟩; have g7 := (b7.cell (g_lt g6)).trans g6; have HE := Lib.hid (keep3 HD.out.1 b7); clear b7)
                      | (go_at_call 13; (with_reducible refine (CW.out _ HE.out.2.1).mono ?_); rintro e w8 ⟨rfl, b8⟩; have HF := Lib.hid (blw HE.out.1 b8); clear b8))
                    go_ret
                    exact ⟨rfl, HF.out⟩
          · have q7 : ((n1.toNat : Int) != 32) = true := by
              have := byte_eq n1 32 (by decide) 32 rfl
              rw [decide_eq_false hc1'] at this
              simpa [bne] using this
            clear hK hK0 hmay hok hk2 hf ht hL hp0 hp1 hn1 hn2 hc1'
            generalize n1.toNat = N1 at *
            go_enter Tryd.func8, Tryd.ntmps8
            go_wp2_with (first
              | (go_at_call 14; (with_reducible refine C0.out.mono ?_); clear C0; rintro e v1 ⟨A1, n1, c1, rfl, o1, b1⟩; obtain rfl : n1 = m := o1.len.symm.trans HM.out; have H1 := Lib.hid (And.intro b1 (And.intro (HX.out.below b1) (HTk.out _ _ _ (o1.rr HO.out)))); clear o1 b1; have hc1 : (K : Int) ≤ (c1 : Int) := (by have h := H1.out.2.2.le; rw [HK.out] at h; omega))
              | (go_at_call 17; (with_reducible refine (CM.out _ _ _ H1.out.2.2 H1.out.2.1).mono ?_); rintro e v2 ⟨rfl, b⟩; replace H1 := Lib.hid (keep3 H1.out b); clear b; obtain ⟨ad, rfl, g0, g1, g2⟩ := H1.out.2.2.rd kk HKk.out; rw [HT.out] at g2; clear g0 g1)
              | (go_at_call 13; (with_reducible refine (CW.out _ H1.out.2.1).mono ?_); rintro e v9 ⟨rfl, b⟩; replace H1 := Lib.hid (keep3 H1.out b); clear b))
            go_ret
            exact ⟨rfl, H1.out.1⟩
end Go.Proofs.YtkhmpmjonkmbeaaDoor
