/- LayoutPrints and LayoutBack: their walks. -/
import Derived.Test.YtkhmpmjonkmbeaaDoorLwb
import Derived.Test.YtkhmpmjonkmbeaaDoorOpr
import Derived.Test.YtkhmpmjonkmbeaaDoorRff
set_option linter.unusedVariables false
set_option linter.unusedSimpArgs false
namespace Go.Proofs.YtkhmpmjonkmbeaaDoor
open Go Go.RowKit L7

theorem same_rw {W : World} {A B : Option Addr} {c d m : Nat} {ls : List Rw} (R : RR W A c ls) (S : RR W B d ls) (hm : ls.length = m) : Calls Tryd.prog 12 #[.slice A m c, .slice B m d] W fun e W' => e = .returned (.bool true) ∧ Below W.heap.size W W' := by
  have C := RSame_any R S hm hm
  rwa [decide_eq_true rfl] at C
theorem own_e0 (v : World) : OwnR (v.alloc (.cells #[] 38)) 38 v.heap.size (some ⟨v.heap.size, 0, none⟩) 0 0 [] :=
  ⟨rfl, .inr ⟨v.heap.size, 0, #[], rfl, Nat.le_refl _, boxS_new v _ _, Nat.le_refl _, by simp [maxLen], rfl, rfl⟩⟩
theorem own_e1 {w v v2 : World} {A A2 : Option Addr} {c c2 n : Nat} {rs : List Rw} (b : Below w.heap.size w v) (hm : MaxIs w) (R : RR v A c rs) (ho : OKL rs) (o2 : OwnR v2 38 v.heap.size A2 n c2 ([] ++ rs))
    (g2 : (v.alloc (.cells #[] 38)).grownBy v2 (Value.slice (some ⟨v.heap.size, 0, none⟩) 0 0).ownBlock) : Below w.heap.size w v2 ∧ MaxIs v2 ∧ RR v2 A c rs ∧ RR v2 A2 c2 rs := by
  have hb : Below v.heap.size v v2 := bgrow (bal (b0 v) _) (own_e0 v) (Nat.le_refl _) g2
  exact ⟨blw b hb, (hm.below b).below hb, R.keep hb, o2.rr ho⟩
theorem keep4 {w v v2 : World} {A A2 : Option Addr} {c c2 : Nat} {rs : List Rw} (h : Below w.heap.size w v ∧ MaxIs v ∧ RR v A c rs ∧ RR v A2 c2 rs) (b : Below v.heap.size v v2) : Below w.heap.size w v2 ∧ MaxIs v2 ∧ RR v2 A c rs ∧ RR v2 A2 c2 rs :=
  ⟨blw h.1 b, h.2.1.below b, h.2.2.1.keep b, h.2.2.2.keep b⟩
set_option maxRecDepth 100000 in
set_option maxHeartbeats 8000000 in
theorem walkLayoutPrints (a0 : Option Addr) (len0 cap0 : Nat) (w : World) (w0 : IsRs w a0 len0 cap0) (hm : MaxIs w) :
    Calls Tryd.prog 4 #[.slice a0 len0 cap0] w fun e w' => e = .returned (.bool true) ∧ Below w.heap.size w w' := by
  obtain ⟨rs0, hl, R⟩ := w0
  have C0 := Lib.hid (cut_any R hl)
  have ho := cutR_ok rs0
  have hl60 := cutR_len rs0
  generalize cutR rs0 = rs at *
  clear R hl
  obtain ⟨m, hmm⟩ : ∃ m, rs.length = m := ⟨_, rfl⟩
  rw [hmm] at hl60
  have HM := Lib.hid hmm
  have HO := Lib.hid ho
  obtain ⟨S, hS⟩ : ∃ S, strOf (source rs).1 = S := ⟨_, rfl⟩
  obtain ⟨er, her⟩ : ∃ er, (source rs).2 = er := ⟨_, rfl⟩
  obtain ⟨b, hb⟩ : ∃ b, may rs = b := ⟨_, rfl⟩
  have CS := Lib.hid (fun (W : World) (A : Option Addr) (c : Nat) (R : RR W A c rs) (h : MaxIs W) => Source_any R hmm h)
  have CT := Lib.hid (fun (W : World) (A : Option Addr) (c : Nat) (R : RR W A c rs) => RSource_any R hmm)
  have CM := Lib.hid (fun (W : World) (A : Option Addr) (c : Nat) (R : RR W A c rs) (h : MaxIs W) => May_any R hmm h)
  have CN := Lib.hid (fun (W : World) (A : Option Addr) (c : Nat) (R : RR W A c rs) => RMay_any R hmm)
  rw [hS, her] at CS CT
  rw [hb] at CM CN
  have CW := Lib.hid (fun (W : World) (h : MaxIs W) => works_any W h)
  have q1 : (er == er) = true := by simp
  have q2 : (S.toList == S.toList) = true := by simp
  have q3 : (b == b) = true := by simp
  have HX := Lib.hid hm
  clear hS her hb hmm ho
  go_enter Tryd.func4, Tryd.ntmps4
  go_wp2_with (first
    | (go_at_call 14; (with_reducible refine C0.out.mono ?_); rintro e v1 ⟨A1, n1, c1, rfl, o1, b1⟩; obtain rfl : n1 = m := o1.len.symm.trans HM.out; have H1 := Lib.hid (And.intro b1 (o1.rr HO.out)); clear o1 b1)
    | (at_builtin; refine app_rws rfl (.tmp 10) (.tmp 11) rfl v1.heap.size 0 0 n1 c1 n1 (some ⟨v1.heap.size, 0, none⟩) A1 [] rs rfl rfl (own_e0 v1) HM.out (H1.out.2.keep (bal (b0 v1) _)) (by omega) (by omega) (bal (b0 v1) _).size ?_; intro A2 c2 v2 o2 g2; have H2 := Lib.hid (own_e1 H1.out.1 HX.out H1.out.2 HO.out o2 g2); clear o2 g2)
    | (go_at_call 15; (with_reducible refine (CS.out _ _ _ H2.out.2.2.2 H2.out.2.1).mono ?_); rintro e v3 ⟨rfl, b⟩; replace H2 := Lib.hid (keep4 H2.out b); clear b)
    | (go_at_call 16; (with_reducible refine (CT.out _ _ _ H2.out.2.2.1).mono ?_); rintro e v4 ⟨rfl, b⟩; replace H2 := Lib.hid (keep4 H2.out b); clear b)
    | (go_at_call 17; (with_reducible refine (CM.out _ _ _ H2.out.2.2.2 H2.out.2.1).mono ?_); rintro e v5 ⟨rfl, b⟩; replace H2 := Lib.hid (keep4 H2.out b); clear b)
    | (go_at_call 18; (with_reducible refine (CN.out _ _ _ H2.out.2.2.1).mono ?_); rintro e v6 ⟨rfl, b⟩; replace H2 := Lib.hid (keep4 H2.out b); clear b)
    | (go_at_call 12; (with_reducible refine (same_rw H2.out.2.2.2 H2.out.2.2.1 HM.out).mono ?_); rintro e v7 ⟨rfl, b⟩; replace H2 := Lib.hid (keep4 H2.out b); clear b)
    | (go_at_call 13; (with_reducible refine (CW.out _ H2.out.2.1).mono ?_); rintro e v8 ⟨rfl, b⟩; replace H2 := Lib.hid (keep4 H2.out b); clear b))
  go_ret
  exact ⟨rfl, H2.out.1⟩
theorem renum_no {l : List Rw} : ∀ {i j : Nat}, j < l.length → ((renum l i).getD j r0).no = ((i + j : Nat) : Int) := by
  induction l with
  | nil => intro i j h; simp at h
  | cons x l ih =>
    intro i j h
    cases j with
    | zero => rfl
    | succ j =>
      show ((renum l (i + 1)).getD j r0).no = _
      rw [ih (by simpa using h)]
      congr 1
      omega
theorem may_size {rs : List Rw} (h : may rs = true) (h60 : rs.length ≤ 60) : (srcOf rs).length ≤ 65536 := by
  obtain ⟨_, hok, _⟩ := may_ok h
  have h1 := src_len (l := rs) (k := rs.length) (fun j hj => hok j (by omega)) (Nat.le_refl _)
  have h2 := size_to (l := rs) (k := rs.length) (fun j hj => hok j (by omega)) (Nat.le_refl _)
  rw [List.take_length] at h1 h2
  omega
theorem lns_srcOf {rs : List Rw} (h : may rs = true) : (lnsOf (srcOf rs)).length = rs.length + 1 := by
  unfold may at h
  simp only [Bool.and_eq_true, decide_eq_true_eq] at h
  have hf := ok_fine h.1.2
  have hl : lnsOf (srcOf rs) = rs.map lineOf7 ++ [[]] := by
    rw [src_lines]
    refine lns_src fun p hp => ?_
    obtain ⟨x, hx, rfl⟩ := List.mem_map.1 hp
    exact sp_no _ (plain_no (hf x hx).pl)
  rw [hl]
  simp
set_option maxRecDepth 100000 in
set_option maxHeartbeats 8000000 in
theorem walkLayoutBack (a0 : Option Addr) (len0 cap0 : Nat) (w : World) (w0 : IsRs w a0 len0 cap0) (hm : MaxIs w) :
    Calls Tryd.prog 5 #[.slice a0 len0 cap0] w fun e w' => e = .returned (.bool true) ∧ Below w.heap.size w w' := by
  obtain ⟨rs0, hl, R⟩ := w0
  have C0 := Lib.hid (cut_any R hl)
  have ho := cutR_ok rs0
  have hl60 := cutR_len rs0
  generalize cutR rs0 = rs at *
  clear R hl
  obtain ⟨m, hmm⟩ : ∃ m, rs.length = m := ⟨_, rfl⟩
  have HM := Lib.hid hmm
  have HO := Lib.hid ho
  have HX := Lib.hid hm
  have CW := Lib.hid (fun (W : World) (h : MaxIs W) => works_any W h)
  cases hmay : may rs with
  | false =>
    have CS := Lib.hid (fun (W : World) (A : Option Addr) (c : Nat) (R : RR W A c rs) (h : MaxIs W) => show Calls Tryd.prog 15 #[.slice A m c] W fun e w' => e = .returned (.tuple #[.string ⟨#[]⟩, .int .i64 2]) ∧ Below W.heap.size W w' from (by
      have := Source_any R hmm h
      rw [psource_no hmay] at this
      exact this))
    have CM := Lib.hid (fun (W : World) (A : Option Addr) (c : Nat) (R : RR W A c rs) (h : MaxIs W) => May_any R hmm h)
    rw [hmay] at CM
    clear hmm ho hmay hl60
    go_enter Tryd.func5, Tryd.ntmps5
    go_wp2_with (first
      | (go_at_call 14; (with_reducible refine C0.out.mono ?_); rintro e v1 ⟨A1, n1, c1, rfl, o1, b1⟩; obtain rfl : n1 = m := o1.len.symm.trans HM.out; have H1 := Lib.hid (And.intro b1 (And.intro (HX.out.below b1) (o1.rr HO.out))); clear o1 b1)
      | (go_at_call 15; (with_reducible refine (CS.out _ _ _ H1.out.2.2 H1.out.2.1).mono ?_); rintro e v2 ⟨rfl, b2⟩; have H2 := Lib.hid (And.intro (blw H1.out.1 b2) (And.intro (H1.out.2.1.below b2) (H1.out.2.2.keep b2))); clear b2 H1)
      | (go_at_call 17; (with_reducible refine (CM.out _ _ _ H2.out.2.2 H2.out.2.1).mono ?_); rintro e v3 ⟨rfl, b3⟩; have H3 := Lib.hid (And.intro (blw H2.out.1 b3) (H2.out.2.1.below b3)); clear b3 H2)
      | (go_at_call 13; (with_reducible refine (CW.out _ H3.out.2).mono ?_); rintro e v4 ⟨rfl, b4⟩; have H4 := Lib.hid (blw H3.out.1 b4); clear b4 H3))
    go_ret
    exact ⟨rfl, H4.out⟩
  | true =>
    have hs := may_size hmay (by omega)
    have hsl : (srcOf rs).length ≤ maxLen := by unfold maxLen; omega
    have hs2 := rows_back hmay hs
    have hcnt := lns_srcOf hmay
    have CS := Lib.hid (fun (W : World) (A : Option Addr) (c : Nat) (R : RR W A c rs) (h : MaxIs W) => show Calls Tryd.prog 15 #[.slice A m c] W fun e w' => e = .returned (.tuple #[.string (strOf (srcOf rs)), .int .i64 0]) ∧ Below W.heap.size W w' from (by
      have := Source_any R hmm h
      rw [psource_ok hmay hs] at this
      exact this))
    have CM := Lib.hid (fun (W : World) (A : Option Addr) (c : Nat) (R : RR W A c rs) (h : MaxIs W) => May_any R hmm h)
    rw [hmay] at CM
    have CB := Lib.hid (fun (W : World) (h : MaxIs W) => show Calls Tryd.prog 10 #[.string (strOf (srcOf rs))] W fun en w' => ∃ A c, en = .returned (.tuple #[.slice A m c, .int .i64 0, .int .i64 0]) ∧ RR w' A c (renum rs 1) ∧ Below W.heap.size W w' from ((rows_at hsl W h hs2).mono (by
      rintro e w' ⟨A, c, h1, h2, h3⟩
      rw [renum_len, hmm] at h1 h2
      exact ⟨A, c, h1, h2.rr (okl_renum ho 1), h3⟩)))
    have CE := Lib.hid (fun (W : World) (A B : Option Addr) (c d : Nat) (R : RR W A c (renum rs 1)) (S : RR W B d rs) => show Calls Tryd.prog 19 #[.slice A m c, .slice B m d] W fun e w' => e = .returned (.bool true) ∧ Below W.heap.size W w' from (by
      have := RAlike_any R S ((renum_len rs 1).trans hmm) hmm
      rw [decide_eq_true (kern_renum rs 1)] at this
      exact this))
    have CN := Lib.hid (fun (W : World) => show Calls Tryd.prog 20 #[.string (strOf (srcOf rs)), .string ⟨#[10]⟩] W fun e w' => e = .returned (.int .i64 (m : Int)) ∧ W = w' from ((cCount (srcOf rs) W).mono (by
      rintro e w' ⟨h1, h2⟩
      rw [hcnt, hmm] at h1
      refine ⟨h1.trans (ret_i (by omega)), h2⟩)))
    have HNo := Lib.hid (fun (j : Nat) (hj : j < m) => renum_no (l := rs) (i := 1) (j := j) (by omega))
    have HLn := Lib.hid ((renum_len rs 1).trans hmm)
    rw [hmm] at hl60
    generalize strOf (srcOf rs) = S at *
    generalize renum rs 1 = xs at *
    clear hmm ho hmay hs hsl hs2 hcnt
    go_enter Tryd.func5, Tryd.ntmps5
    go_wp2_with (first
      | (go_at_call 14; (with_reducible refine C0.out.mono ?_); rintro e v1 ⟨A1, n1, c1, rfl, o1, b1⟩; obtain rfl : n1 = m := o1.len.symm.trans HM.out; have H1 := Lib.hid (And.intro b1 (And.intro (HX.out.below b1) (o1.rr HO.out))); clear o1 b1)
      | (go_at_call 15; (with_reducible refine (CS.out _ _ _ H1.out.2.2 H1.out.2.1).mono ?_); rintro e v2 ⟨rfl, b2⟩; have H2 := Lib.hid (And.intro (blw H1.out.1 b2) (And.intro (H1.out.2.1.below b2) (H1.out.2.2.keep b2))); clear b2 H1)
      | (go_at_call 17; (with_reducible refine (CM.out _ _ _ H2.out.2.2 H2.out.2.1).mono ?_); rintro e v3 ⟨rfl, b3⟩; have H3 := Lib.hid (And.intro (blw H2.out.1 b3) (And.intro (H2.out.2.1.below b3) (H2.out.2.2.keep b3))); clear b3 H2)
      | (go_at_call 10; (with_reducible refine (CB.out _ H3.out.2.1).mono ?_); rintro e v4 ⟨A4, c4, rfl, r4, b4⟩; have H4 := Lib.hid (And.intro (blw H3.out.1 b4) (And.intro (H3.out.2.1.below b4) (And.intro (H3.out.2.2.keep b4) r4))); clear b4 r4 H3)
      | (go_at_call 19; (with_reducible refine (CE.out _ _ _ _ _ H4.out.2.2.2 H4.out.2.2.1).mono ?_); rintro e v5 ⟨rfl, b5⟩; have H5 := Lib.hid (And.intro (blw H4.out.1 b5) (And.intro (H4.out.2.1.below b5) (H4.out.2.2.2.keep b5))); clear b5 H4))
    go_loopw [52] (fun i wr => ∃ k : Nat, k ≤ n1 ∧ i = .int .i64 k ∧ v5 = wr) (fun i _ => n1 - (intOf i).toNat)
    case atStart => exact ⟨0, Nat.zero_le _, rfl, rfl⟩
    case round =>
      obtain ⟨k, hk, rfl, rfl⟩ := hrel
      have hk0 : (0 : Int) ≤ (k : Int) := by omega
      by_cases hk1 : (k : Int) < (n1 : Int)
      · obtain ⟨ad, rfl, g0, _, _⟩ := H5.out.2.2.rd k (by have := HLn.out; omega)
        rw [HNo.out k (by omega)] at g0
        have e1 : ((1 + k : Nat) : Int) = (k : Int) + 1 := by omega
        rw [e1] at g0
        go_wp2
        go_roundw
        case rel => exact ⟨k + 1, by omega, by go_num, trivial⟩
        case measure => simp [intOf]; omega
      · obtain rfl : k = n1 := by omega
        go_wp2_with (first
          | (go_at_call 20; (with_reducible refine (CN.out _).mono ?_); rintro e v6 ⟨rfl, rfl⟩)
          | (go_at_call 13; (with_reducible refine (CW.out _ H5.out.2.1).mono ?_); rintro e v7 ⟨rfl, b7⟩; have H7 := Lib.hid (blw H5.out.1 b7); clear b7))
        go_ret
        exact ⟨rfl, H7.out⟩
end Go.Proofs.YtkhmpmjonkmbeaaDoor
