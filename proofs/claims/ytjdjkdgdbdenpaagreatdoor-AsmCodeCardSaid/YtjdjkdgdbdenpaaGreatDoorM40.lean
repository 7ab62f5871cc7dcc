/- The laws on lengths, code and texts: the walks. -/
import Derived.Lib.LaidTab
import Derived.Stop.LaidErr
import Derived.LaidMore
import Derived.Shelf.LaysM
import Derived.Test.YtjdjkdgdbdenpaaGreatDoorM39
import Derived.Test.YtjdjkdgdbdenpaaGreatDoorRows
set_option linter.unusedVariables false
set_option linter.unusedSimpArgs false
namespace Go.Proofs.YtjdjkdgdbdenpaaGreatDoor
open Go Go.RowKit

theorem ownL_keep {w w' : World} {B n c : Nat} {A : Option Addr} {ls : List Ln} (h : OwnL w B A n c ls) (hb : Below w.heap.size w w') : OwnL w' B A n c ls := own_keepB h hb
theorem same_ls {W : World} {A B : Option Addr} {c d m : Nat} {ls : List Ln} (R : RL W A c ls) (S : RL W B d ls) (hm : ls.length = m) : Calls Tryz.prog 13 #[.slice A m c, .slice B m d] W fun e W' => e = .returned (.bool true) ∧ Below W.heap.size W W' := by
  have C := RSame_any R S hm hm
  rwa [decide_eq_true rfl] at C
set_option maxRecDepth 100000 in
set_option maxHeartbeats 4000000 in
theorem walkAsmLengths (a0 : Option Addr) (len0 cap0 : Nat) (w : World) (w0 : IsLs w a0 len0 cap0) (hg : Good6 w) :
    Calls Tryz.prog 3 #[.slice a0 len0 cap0] w fun e w' => e = .returned (.bool true) ∧ Below w.heap.size w w' := by
  obtain ⟨ls, hm, R, _⟩ := w0
  have hmx : len0 ≤ maxLen := by rw [← hm]; exact Nat.le_trans R.le R.mx
  have HG := Lib.hid hg
  have C0 := Lib.hid (fun W => great_any (A := a0) (c := cap0) W hmx)
  have CH := Lib.hid (fun (W : World) (b : Below w.heap.size w W) => head_any W (HG.out.below b))
  clear hg hmx
  by_cases h120 : (120 : Int) < (len0 : Int)
  · rw [decide_eq_true h120] at C0
    clear h120 R hm
    go_enter Tryz.func3, Tryz.ntmps3
    go_wp2_with (first
      | (go_at_call 7; (with_reducible refine (C0.out _).mono ?_); rintro e v0 ⟨rfl, rfl⟩)
      | (go_at_call 8; (with_reducible refine (CH.out _ (b0 _)).mono ?_); rintro e v9 ⟨rfl, b9⟩; have B9 := Lib.hid b9; clear b9))
    go_ret
    exact ⟨rfl, B9.out⟩
  · rw [decide_eq_false h120] at C0
    have hle : len0 ≤ 120 := by omega
    have C1 := Lib.hid (own_any R hm (by omega))
    have HR := Lib.hid (And.intro R hm)
    obtain ⟨k, hk⟩ : ∃ k, chk ls = k := ⟨_, rfl⟩
    obtain ⟨q, hq⟩ : ∃ q, (lenR ls).length = q := ⟨_, rfl⟩
    obtain ⟨b, hb⟩ : ∃ b, decide (k = 0) = b := ⟨_, rfl⟩
    have hkb : ((k : Int) == 0) = b := by rw [← hb]; by_cases h : k = 0 <;> simp [h]
    have C2 := Lib.hid (fun (W : World) (A : Option Addr) (c : Nat) (o : OwnL W w.heap.size A len0 c ls) (bw : Below w.heap.size w W) => (Lengths_any (o.rl HR.out.1.ok) (fun ad e _ => owned_lt o ad e) hm (by omega) (HG.out.below bw).1.1).mono (R' := fun e W' => ∃ A' c', e = .returned (.tuple #[.slice A' q c', .int .i64 k]) ∧ OwnN W' W.heap.size A' q c' (lenR ls) ∧ Below W.heap.size W W') (fun e W' h => by unfold GivesNE at h; rwa [hk, hq] at h))
    have C3 := Lib.hid (fun (W : World) (bw : Below w.heap.size w W) => (RLengths_any (HR.out.1.keep bw) hm (by omega)).mono (R' := fun e W' => ∃ A' c', e = .returned (.tuple #[.slice A' q c', .int .i64 k]) ∧ OwnN W' W.heap.size A' q c' (lenR ls) ∧ Below W.heap.size W W') (fun e W' h => by unfold GivesNE at h; rwa [hk, hq] at h))
    have C5 := Lib.hid (fun (W : World) (bw : Below w.heap.size w W) => AMay_any (HR.out.1.keep bw) hm (by omega) (HG.out.below bw).1.1)
    have C6 := Lib.hid (fun (W : World) (bw : Below w.heap.size w W) => RCheck_any (HR.out.1.keep bw) hm)
    rw [hk] at C5 C6
    rw [hb] at C5
    have HQ := Lib.hid hq
    clear hk hq hb h120 hle R hm
    go_enter Tryz.func3, Tryz.ntmps3
    go_wp2_with (first
      | (go_at_call 7; (with_reducible refine (C0.out _).mono ?_); rintro e v0 ⟨rfl, rfl⟩)
      | (go_at_call 9; (with_reducible refine C1.out.mono ?_); rintro e v1 ⟨A1, c1, rfl, o1, b1⟩; have H1 := Lib.hid (And.intro b1 o1); clear o1 b1)
      | (go_at_call 10; (with_reducible refine (C2.out _ _ _ H1.out.2 H1.out.1).mono ?_); rintro e v2 ⟨A2, c2, rfl, o2, b2⟩; have H2 := Lib.hid (And.intro (blw H1.out.1 b2) (And.intro (ownL_keep H1.out.2 b2) o2.rn)); clear o2 b2 H1)
      | (go_at_call 11; (with_reducible refine (C3.out _ H2.out.1).mono ?_); rintro e v3 ⟨A3, c3, rfl, o3, b3⟩; have H3 := Lib.hid (And.intro (blw H2.out.1 b3) (And.intro (ownL_keep H2.out.2.1 b3) (And.intro (H2.out.2.2.keep b3) o3.rn))); clear o3 b3 H2)
      | (go_at_call 12; (with_reducible refine (same_ns H3.out.2.2.1 H3.out.2.2.2 HQ.out).mono ?_); rintro e v4 ⟨rfl, b4⟩; have H4 := Lib.hid (And.intro (blw H3.out.1 b4) (ownL_keep H3.out.2.1 b4)); clear b4 H3)
      | (go_at_call 13; (with_reducible refine (same_ls (OwnL.rl H4.out.2 HR.out.1.ok) (HR.out.1.keep H4.out.1) HR.out.2).mono ?_); rintro e v5 ⟨rfl, b5⟩; have H5 := Lib.hid (blw H4.out.1 b5); clear b5 H4)
      | (go_at_call 14; (with_reducible refine (C5.out _ H5.out).mono ?_); rintro e v6 ⟨rfl, b6⟩; have H6 := Lib.hid (blw H5.out b6); clear b6 H5)
      | (go_at_call 15; (with_reducible refine (C6.out _ H6.out).mono ?_); rintro e v7 ⟨rfl, b7⟩; have H7 := Lib.hid (blw H6.out b7); clear b7 H6)
      | (go_at_call 8; (with_reducible refine (CH.out _ H7.out).mono ?_); rintro e v9 ⟨rfl, b9⟩; have B9 := Lib.hid (blw H7.out b9); clear b9))
    go_ret
    exact ⟨rfl, B9.out⟩
end Go.Proofs.YtjdjkdgdbdenpaaGreatDoor
/- The laws on code, texts and reading: the walks. -/
namespace Go.Proofs.YtjdjkdgdbdenpaaGreatDoor
open Go Go.RowKit

set_option maxRecDepth 100000 in
set_option maxHeartbeats 4000000 in
theorem walkAsmCode (a0 : Option Addr) (len0 cap0 : Nat) (w : World) (w0 : IsLs w a0 len0 cap0) (hg : Good6 w) :
    Calls Tryz.prog 4 #[.slice a0 len0 cap0] w fun e w' => e = .returned (.bool true) ∧ Below w.heap.size w w' := by
  obtain ⟨ls, hm, R, _⟩ := w0
  have hmx : len0 ≤ maxLen := by rw [← hm]; exact Nat.le_trans R.le R.mx
  have HG := Lib.hid hg
  have C0 := Lib.hid (fun W => great_any (A := a0) (c := cap0) W hmx)
  have CH := Lib.hid (fun (W : World) (b : Below w.heap.size w W) => head_any W (HG.out.below b))
  clear hg hmx
  by_cases h120 : (120 : Int) < (len0 : Int)
  · rw [decide_eq_true h120] at C0
    clear h120 R hm
    go_enter Tryz.func4, Tryz.ntmps4
    go_wp2_with (first
      | (go_at_call 7; (with_reducible refine (C0.out _).mono ?_); rintro e v0 ⟨rfl, rfl⟩)
      | (go_at_call 8; (with_reducible refine (CH.out _ (b0 _)).mono ?_); rintro e v9 ⟨rfl, b9⟩; have B9 := Lib.hid b9; clear b9))
    go_ret
    exact ⟨rfl, B9.out⟩
  · rw [decide_eq_false h120] at C0
    have hle : len0 ≤ 120 := by omega
    have C1 := Lib.hid (own_any R hm (by omega))
    have HR := Lib.hid (And.intro R hm)
    obtain ⟨k, hk⟩ : ∃ k, chk ls = k := ⟨_, rfl⟩
    obtain ⟨ys, hys⟩ : ∃ ys, codeR ls = ys := ⟨_, rfl⟩
    obtain ⟨q, hq⟩ : ∃ q, ys.length = q := ⟨_, rfl⟩
    obtain ⟨p, hp⟩ : ∃ p, (atR ls).length = p := ⟨_, rfl⟩
    have C2 := Lib.hid (fun (W : World) (A : Option Addr) (c : Nat) (o : OwnL W w.heap.size A len0 c ls) (bw : Below w.heap.size w W) => (Assemble_any (o.rl HR.out.1.ok) (fun ad e _ => owned_lt o ad e) hm (by omega) (HG.out.below bw).1.1).mono (R' := fun e W' => ∃ A c A' c', e = .returned (.tuple #[.slice A q c, .slice A' p c', .int .i64 k]) ∧ C4.RS W' A c ys ∧ RN W' A' c' (atR ls) ∧ Below W.heap.size W W') (fun e W' h => by unfold GivesBN at h; rwa [hk, hys, hq, hp] at h))
    have C3 := Lib.hid (fun (W : World) (bw : Below w.heap.size w W) => (RAssemble_any (HR.out.1.keep bw) hm (by omega)).mono (R' := fun e W' => ∃ A c A' c', e = .returned (.tuple #[.slice A q c, .slice A' p c', .int .i64 k]) ∧ C4.RS W' A c ys ∧ RN W' A' c' (atR ls) ∧ Below W.heap.size W W') (fun e W' h => by unfold GivesBN at h; rwa [hk, hys, hq, hp] at h))
    have HQ := Lib.hid hq
    have HP := Lib.hid hp
    clear hk hys hq hp h120 hle R hm
    go_enter Tryz.func4, Tryz.ntmps4
    go_wp2_with (first
      | (go_at_call 7; (with_reducible refine (C0.out _).mono ?_); rintro e v0 ⟨rfl, rfl⟩)
      | (go_at_call 9; (with_reducible refine C1.out.mono ?_); rintro e v1 ⟨A1, c1, rfl, o1, b1⟩; have H1 := Lib.hid (And.intro b1 o1); clear o1 b1)
      | (go_at_call 16; (with_reducible refine (C2.out _ _ _ H1.out.2 H1.out.1).mono ?_); rintro e v2 ⟨A2, c2, D2, d2, rfl, r2, q2, b2⟩; have H2 := Lib.hid (And.intro (blw H1.out.1 b2) (And.intro (ownL_keep H1.out.2 b2) (And.intro r2 q2))); clear r2 q2 b2 H1)
      | (go_at_call 17; (with_reducible refine (C3.out _ H2.out.1).mono ?_); rintro e v3 ⟨A3, c3, D3, d3, rfl, r3, q3, b3⟩; have H3 := Lib.hid (And.intro (blw H2.out.1 b3) (And.intro (ownL_keep H2.out.2.1 b3) (And.intro (H2.out.2.2.2.keep b3) q3))); have k1 := C4.str_any (C4.RS.kept0 H2.out.2.2.1 (g_of_below b3)) q HQ.out.symm; have k2 := C4.str_any r3 q HQ.out.symm; generalize C4.str ys = S at k1 k2; clear r3 q3 b3 H2)
      | (go_at_call 12; (with_reducible refine (same_ns H3.out.2.2.1 H3.out.2.2.2 HP.out).mono ?_); rintro e v4 ⟨rfl, b4⟩; have H4 := Lib.hid (And.intro (blw H3.out.1 b4) (ownL_keep H3.out.2.1 b4)); clear b4 H3)
      | (go_at_call 13; (with_reducible refine (same_ls (OwnL.rl H4.out.2 HR.out.1.ok) (HR.out.1.keep H4.out.1) HR.out.2).mono ?_); rintro e v5 ⟨rfl, b5⟩; have H5 := Lib.hid (blw H4.out.1 b5); clear b5 H4)
      | (go_at_call 8; (with_reducible refine (CH.out _ H5.out).mono ?_); rintro e v9 ⟨rfl, b9⟩; have B9 := Lib.hid (blw H5.out b9); clear b9))
    go_ret
    exact ⟨rfl, B9.out⟩
theorem rd_ok {s : Bs} (hs : s.length ≤ 100000) : OKL (rdL s) := by
  unfold rdL
  split
  · exact gC_map_okL (fun d hd => Nat.le_trans (spl_mem hd) hs)
  · exact fun _ h => (by cases h)
theorem txt_short {ls : List Ln} (ok : OKL ls) (hv : ls.all vld = true) (h : ls.length ≤ 120) : (txt ls).length ≤ 100000 := by
  have h1 := txt_le (k := ls.length) ok (fun j hj => all_get hv hj) (Nat.le_refl _)
  rw [List.take_length] at h1
  omega
set_option maxRecDepth 100000 in
set_option maxHeartbeats 4000000 in
theorem walkAsmText (a0 : Option Addr) (len0 cap0 : Nat) (w : World) (w0 : IsLs w a0 len0 cap0) (hg : Good6 w) :
    Calls Tryz.prog 5 #[.slice a0 len0 cap0] w fun e w' => e = .returned (.bool true) ∧ Below w.heap.size w w' := by
  obtain ⟨ls, hm, R, _⟩ := w0
  have hmx : len0 ≤ maxLen := by rw [← hm]; exact Nat.le_trans R.le R.mx
  have HG := Lib.hid hg
  have C0 := Lib.hid (fun W => great_any (A := a0) (c := cap0) W hmx)
  have CH := Lib.hid (fun (W : World) (b : Below w.heap.size w W) => head_any W (HG.out.below b))
  clear hg hmx
  by_cases h120 : (120 : Int) < (len0 : Int)
  · rw [decide_eq_true h120] at C0
    clear h120 R hm
    go_enter Tryz.func5, Tryz.ntmps5
    go_wp2_with (first
      | (go_at_call 7; (with_reducible refine (C0.out _).mono ?_); rintro e v0 ⟨rfl, rfl⟩)
      | (go_at_call 8; (with_reducible refine (CH.out _ (b0 _)).mono ?_); rintro e v9 ⟨rfl, b9⟩; have B9 := Lib.hid b9; clear b9))
    go_ret
    exact ⟨rfl, B9.out⟩
  · rw [decide_eq_false h120] at C0
    have hle : len0 ≤ 120 := by omega
    have HR := Lib.hid (And.intro R hm)
    have C1 := Lib.hid (AText_any R hm (by omega) HG.out.1)
    have C2 := Lib.hid (fun (W : World) (bw : Below w.heap.size w W) => RText6_any (HR.out.1.keep bw) hm (by omega))
    by_cases hv : ls.all vld = true
    · have h1 : textL6 ls = txt ls := if_pos hv
      have h2 : textE ls = 0 := if_pos hv
      have hr := rd_txt hv (fun x hx => (R.ok x hx).arg)
      have C3 := Lib.hid (fun (W : World) (bw : Below w.heap.size w W) => (ARead_any (txt ls) (txt_short R.ok hv (by omega)) W (HG.out.below bw)).mono (R' := fun e W' => ∃ A c, e = .returned (.tuple #[.slice A len0 c, .int .i64 0, .int .i64 0]) ∧ OwnL W' W.heap.size A len0 c ls ∧ Below W.heap.size W W') (fun e W' h => by unfold GivesLN at h; rwa [hr.1, hr.2.1, hr.2.2, hm] at h))
      rw [h1, h2] at C1 C2
      clear h1 h2 hr hv h120 hle R hm
      generalize strOf (txt ls) = S at *
      go_enter Tryz.func5, Tryz.ntmps5
      go_wp2_with (first
        | (go_at_call 7; (with_reducible refine (C0.out _).mono ?_); rintro e v0 ⟨rfl, rfl⟩)
        | (go_at_call 18; (with_reducible refine C1.out.mono ?_); rintro e v1 ⟨rfl, b1⟩; have H1 := Lib.hid b1; clear b1)
        | (go_at_call 19; (with_reducible refine (C2.out _ H1.out).mono ?_); rintro e v2 ⟨rfl, b2⟩; have H2 := Lib.hid (blw H1.out b2); clear b2 H1)
        | (go_at_call 20; (with_reducible refine (C3.out _ H2.out).mono ?_); rintro e v3 ⟨A3, c3, rfl, o3, b3⟩; have H3 := Lib.hid (And.intro (blw H2.out b3) o3); clear o3 b3 H2)
        | (go_at_call 13; (with_reducible refine (same_ls (OwnL.rl H3.out.2 HR.out.1.ok) (HR.out.1.keep H3.out.1) HR.out.2).mono ?_); rintro e v5 ⟨rfl, b5⟩; have H5 := Lib.hid (blw H3.out.1 b5); clear b5 H3)
        | (go_at_call 8; (with_reducible refine (CH.out _ H5.out).mono ?_); rintro e v9 ⟨rfl, b9⟩; have B9 := Lib.hid (blw H5.out b9); clear b9))
      go_ret
      exact ⟨rfl, B9.out⟩
    · have h1 : textL6 ls = [] := if_neg hv
      have h2 : textE ls = 2 := if_neg hv
      rw [h1, h2] at C1 C2
      clear h1 h2 hv h120 hle R hm
      generalize strOf ([] : Bs) = S at *
      go_enter Tryz.func5, Tryz.ntmps5
      go_wp2_with (first
        | (go_at_call 7; (with_reducible refine (C0.out _).mono ?_); rintro e v0 ⟨rfl, rfl⟩)
        | (go_at_call 18; (with_reducible refine C1.out.mono ?_); rintro e v1 ⟨rfl, b1⟩; have H1 := Lib.hid b1; clear b1)
        | (go_at_call 19; (with_reducible refine (C2.out _ H1.out).mono ?_); rintro e v2 ⟨rfl, b2⟩; have H2 := Lib.hid (blw H1.out b2); clear b2 H1)
        | (go_at_call 8; (with_reducible refine (CH.out _ H2.out).mono ?_); rintro e v9 ⟨rfl, b9⟩; have B9 := Lib.hid (blw H2.out b9); clear b9))
      go_ret
      exact ⟨rfl, B9.out⟩
set_option maxRecDepth 100000 in
set_option maxHeartbeats 4000000 in
theorem walkAsmRead (a0 : ByteArray) (w0 : a0.size ≤ maxLen) (w : World) (hg : Good6 w) :
    Calls Tryz.prog 6 #[.string a0] w fun e w' => e = .returned (.bool true) ∧ Below w.heap.size w w' := by
  obtain ⟨l, rfl⟩ : ∃ l : Bs, a0 = strOf l := ⟨_, str_self a0⟩
  have hz := size_strOf l
  rw [hz] at w0
  obtain ⟨n, hn⟩ : ∃ n, l.length = n := ⟨_, rfl⟩
  rw [hn] at hz w0
  unfold maxLen at w0
  have HG := Lib.hid hg
  have CH := Lib.hid (fun (W : World) (b : Below w.heap.size w W) => head_any W (HG.out.below b))
  clear hg
  by_cases h3 : (3000 : Int) < (n : Int)
  · have h3' : decide ((3000 : Int) < (n : Int)) = true := by simpa using h3
    clear hn
    go_enter Tryz.func6, Tryz.ntmps6
    go_wp2_with (first
      | (go_at_call 8; (with_reducible refine (CH.out _ (b0 _)).mono ?_); rintro e v9 ⟨rfl, b9⟩; have B9 := Lib.hid b9; clear b9))
    go_ret
    exact ⟨rfl, B9.out⟩
  · have h3' : decide ((3000 : Int) < (n : Int)) = false := by simpa using h3
    have C1 := Lib.hid (ARead_any l (by omega) w HG.out)
    have C2 := Lib.hid (fun (W : World) => RRead6_any l (by omega) W)
    unfold GivesLN at C1 C2
    have HO := Lib.hid (rd_ok (s := l) (by omega))
    obtain ⟨q, hq⟩ : ∃ q, (rdL l).length = q := ⟨_, rfl⟩
    rw [hq] at C1 C2
    generalize rdN l = rn at *
    generalize rdE l = re at *
    have HQ := Lib.hid hq
    clear hn hq
    go_enter Tryz.func6, Tryz.ntmps6
    go_wp2_with (first
      | (go_at_call 20; (with_reducible refine C1.out.mono ?_); rintro e v1 ⟨A1, c1, rfl, o1, b1⟩; have H1 := Lib.hid (And.intro b1 o1); clear b1 o1)
      | (go_at_call 21; (with_reducible refine (C2.out _).mono ?_); rintro e v2 ⟨A2, c2, rfl, o2, b2⟩; have H2 := Lib.hid (And.intro (blw H1.out.1 b2) (And.intro (ownL_keep H1.out.2 b2) o2)); clear b2 o2 H1)
      | (go_at_call 13; (with_reducible refine (same_ls (OwnL.rl H2.out.2.1 HO.out) (OwnL.rl H2.out.2.2 HO.out) HQ.out).mono ?_); rintro e v5 ⟨rfl, b5⟩; have H5 := Lib.hid (blw H2.out.1 b5); clear b5 H2)
      | (go_at_call 8; (with_reducible refine (CH.out _ H5.out).mono ?_); rintro e v9 ⟨rfl, b9⟩; have B9 := Lib.hid (blw H5.out b9); clear b9))
    go_ret
    exact ⟨rfl, B9.out⟩
end Go.Proofs.YtjdjkdgdbdenpaaGreatDoor
/- What the rows list is what the walks lean on. -/
namespace Go.Proofs.YtjdjkdgdbdenpaaGreatDoor
open Go Go.RowKit

theorem laidF {H : Type} : (Rows.laid_transputer_instr_functions : DataW H) = .agg (fnT.map fun r => .agg [.lit (.string r.1), .lit (.int .i64 r.2.1), .lit (.int .i64 r.2.2)]) := by kernel_rfl
theorem laidO {H : Type} : (Rows.laid_transputer_instr_operationNames : DataW H) = .agg ((opT.map (·.1)).map fun l => .lit (.string l)) := by kernel_rfl
theorem tF : (Tryz.prog.globals[0]?).map (·.type) = some 139 := by kernel_rfl
theorem tO : (Tryz.prog.globals[1]?).map (·.type) = some 140 := by kernel_rfl
theorem ft_of {W : World} {rest : List (String × DataW Unit)} (h : laidMet Tryz.prog (("transputer/instr.functions", Rows.laid_transputer_instr_functions) :: rest) W) : FT W := by
  obtain ⟨ps, ⟨g', t', cs, fuel, p, q, hg', ht', hvar, hd, _, _⟩, _⟩ := h
  obtain rfl := Option.some.inj (gF.symm.trans hg')
  obtain rfl := Option.some.inj (tF.symm.trans ht')
  rw [laidF] at hd
  have hc := cells_of_rows (by kernel_rfl) (by kernel_rfl) (by kernel_rfl) (by kernel_rfl) hd
  unfold FT
  rw [hvar, ← hc]
theorem ot_of {W : World} {rest : List (String × DataW Unit)} (h : laidMet Tryz.prog (("transputer/instr.operationNames", Rows.laid_transputer_instr_operationNames) :: rest) W) : OT W := by
  obtain ⟨ps, ⟨g', t', cs, fuel, p, q, hg', ht', hvar, hd, _, _⟩, _⟩ := h
  obtain rfl := Option.some.inj (gO.symm.trans hg')
  obtain rfl := Option.some.inj (tO.symm.trans ht')
  rw [laidO] at hd
  have hc := cells_of_strs Tryz.underlying140 Tryz.underlying9 (by kernel_rfl) (by kernel_rfl) hd
  unfold OT
  rw [hvar]
  have : cs.toList = opT.map fun r => Value.string (strOf r.1) := by rw [hc, List.map_map]; rfl
  rw [← this]
theorem gTab : Tryz.prog.globalNamed "internal/strconv.uint64pow10" = some 3 := by kernel_rfl
theorem gTabType : (Tryz.prog.globals[3]?).map (·.type) = some 169 := by kernel_rfl
theorem cellsTab : Tryz.prog.cellsOf 169 = 20 := by kernel_rfl
theorem cellsNum : Tryz.prog.cellsOf 162 = 1 := by kernel_rfl
theorem tab_of {W : World} {rest : List (String × DataW Unit)} (h : laidMet Tryz.prog (("internal/strconv.uint64pow10", Rows.laid_internal_strconv_uint64pow10) :: rest) W) : Tab W :=
  Lib.tabIs_of_head (zs := Lib.pow10Tab) (rest := rest) gTab gTabType Tryz.underlying169 Tryz.underlying162 cellsNum cellsTab h
theorem table_a {W : World} (h : laidMet Tryz.prog [("math/bits.deBruijn32tab", Rows.laid_math_bits_deBruijn32tab), ("math/bits.deBruijn64tab", Rows.laid_math_bits_deBruijn64tab), ("internal/strconv.uint64pow10", Rows.laid_internal_strconv_uint64pow10), ("transputer/instr.functions", Rows.laid_transputer_instr_functions), ("transputer/instr.operationNames", Rows.laid_transputer_instr_operationNames)] W) : Good W :=
  ⟨⟨ft_of h.tail.tail.tail, ot_of h.tail.tail.tail.tail⟩, tab_of h.tail.tail⟩
theorem max_of_shape {w : World} (h : w.ShapedOpen Tryz.prog) : MaxIs w :=
  Go.Proofs.cell_of_shapedOpen_int (zero := #[.int .i64 0]) (t := 3) h (of_decide_eq_true (by kernel_rfl)) (by kernel_rfl) rfl (by kernel_rfl) (by kernel_rfl) Tryz.underlying3
end Go.Proofs.YtjdjkdgdbdenpaaGreatDoor
