/- The reference's lengths of lines. -/
import Derived.Maps.Own
import Derived.Maps.OwnSet
import Derived.Maps.OwnOps
import Derived.Maps.Views
import Derived.StringKeys
import Derived.Test.YtjdjkdgdbdenpaaGreatDoorM21
set_option linter.unusedVariables false
set_option linter.unusedSimpArgs false
namespace Go.Proofs.YtjdjkdgdbdenpaaGreatDoor
open Go Go.RowKit
open C4 (add_plain)

def meas (v : Value) (W : World) : Nat := match v with
  | .slice (some ad) n _ => ((List.range n).map fun j => match W.cell? (ad.add j) with | some (.int _ x) => x.toNat | _ => 0).sum
  | _ => 0
theorem sum_range (ns : List Nat) : ((List.range ns.length).map fun j => ns.getD j 0) = ns := by
  apply List.ext_getElem (by simp)
  intro i h1 h2
  simp [h2]
theorem meas_rn {W : World} {A : Option Addr} {c n : Nat} {ns : List Nat} (S : RN W A c ns) (hn : ns.length = n) : meas (.slice A n c) W = ns.sum := by
  subst hn
  cases A with
  | none =>
    have h0 : ns = [] := by
      rcases Nat.eq_zero_or_pos ns.length with h | h
      · exact List.eq_nil_of_length_eq_zero h
      · obtain ⟨ad, e, _⟩ := S.rd 0 h; cases e
    subst h0; rfl
  | some ad =>
    show ((List.range ns.length).map _).sum = _
    conv => rhs; rw [← sum_range ns]
    congr 1
    apply List.map_congr_left
    intro j hj
    obtain ⟨ad', e, hc⟩ := S.rd j (List.mem_range.1 hj)
    cases e
    rw [hc]
    simp
theorem own_lowerN {w' : World} {B B' n c : Nat} {A : Option Addr} {xs : List Nat} (h : B ≤ B') (o : OwnN w' B' A n c xs) : OwnN w' B A n c xs :=
  ⟨o.1, o.2.imp id (fun ⟨g, cap, cur, h1, h2, h3⟩ => ⟨g, cap, cur, h1, Nat.le_trans h h2, h3⟩)⟩
def lenR (ls : List Ln) : List Nat := if chk ls = 0 then lens ls else []
theorem lenR_ok {ls : List Ln} (h : chk ls = 0) : lenR ls = lens ls := if_pos h
theorem lenR_no {ls : List Ln} (h : ¬ chk ls = 0) : lenR ls = [] := if_neg h
/-- New numbers were made, and an error. -/
def GivesNE (w : World) (ns : List Nat) (er : Int) (e : Ending) (w' : World) : Prop := ∃ A c, e = .returned (.tuple #[.slice A ns.length c, .int .i64 er]) ∧ OwnN w' w.heap.size A ns.length c ns ∧ Below w.heap.size w w'
theorem rep_one (k : Nat) : List.replicate k 1 ++ [1] = List.replicate (k + 1) 1 := by rw [List.replicate_succ']
set_option maxRecDepth 100000 in
set_option maxHeartbeats 8000000 in
theorem RLengths_any {A : Option Addr} {c m : Nat} {ls : List Ln} {w : World} (R : RL w A c ls) (hm : ls.length = m) (h1 : m ≤ 1000) : Calls Tryz.prog 11 #[.slice A m c] w (GivesNE w (lenR ls) (chk ls)) := by
  have HR := Lib.hid R
  have HM := Lib.hid hm
  have CC := Lib.hid (RCheck_any R hm)
  unfold GivesNE
  by_cases hc : chk ls = 0
  · have F := Lib.hid (fit_of hc R.ok (by omega))
    have CN := Lib.hid (fun (ns : List Nat) (hl : ns.length = m) (h8 : ∀ j, ns.getD j 0 ≤ 8) (W : World) (b : Below w.heap.size w W) (A' : Option Addr) (c' : Nat) (S : RN W A' c' ns) => (RNeed_any (R.keep b) S hm hl h1 (fun j => Nat.le_trans (h8 j) (by omega)) (refs_of hc) (fun i hi => opd_word F.out (b := 8) (by omega) h8 (by omega))).mono (R' := fun e w' => ∃ A2 c2, e = .returned (.slice A2 m c2) ∧ OwnN w' W.heap.size A2 m c2 (need ls ns) ∧ Below W.heap.size W w') (fun e w' h => by unfold GivesN at h; rw [need_len, hm] at h; exact h))
    have HL := Lib.hid (lenR_ok hc)
    rw [hc] at CC ⊢
    clear R hm hc
    go_enter Tryz.func11, Tryz.ntmps11
    go_wp2_with (go_at_call 15; refine CC.out.mono ?_; rintro e w1 ⟨rfl, b1⟩; have B1 := Lib.hid b1; clear b1)
    go_loopw [5, 6] (fun b i wr => ∃ k : Nat, k ≤ m ∧ i = .int .i64 k ∧ ∃ A1 c1, b = .slice A1 k c1 ∧ Hid (Below w.heap.size w wr ∧ OwnN wr w.heap.size A1 k c1 (List.replicate k 1))) (fun _ i _ => m - (intOf i).toNat)
    case atStart => exact ⟨0, Nat.zero_le _, rfl, _, _, rfl, Lib.hid ⟨B1.out, ownN_nil _ _⟩⟩
    case round =>
      obtain ⟨k, hk, rfl, A1, c1, rfl, H⟩ := hrel
      by_cases hlt : (k : Int) < (m : Int)
      · have hk1 : k ≤ 1000 := by omega
        go_wp2_with (at_builtin; (refine app_num (v := 1) rfl (.tmp 19) (.tmp 20) rfl w.heap.size k c1 1 wr.heap.size A1 (List.replicate k 1) rfl rfl (own_keepB H.out.2 (bal (b0 wr) _)) (cell_new0 rfl) (by omega) (bal H.out.1 _).size ?_; intro A3 c3 w3 o3 g3; have H3 := Lib.hid (And.intro (bgrow (bal H.out.1 _) (own_keepB H.out.2 (bal (b0 wr) _)) (Nat.le_refl _) g3) o3); clear o3 g3))
        rw [rep_one] at H3
        go_roundw
        case rel => exact ⟨k + 1, by omega, by go_num, _, _, rfl, H3⟩
        case measure => simp [intOf]; omega
      · obtain rfl : k = m := by omega
        have HO := Lib.hid (And.intro (low_ones F.out) (ones_up F.out))
        rw [HM.out] at HO
        have H2 := Lib.hid (And.intro H.out HO.out)
        clear H HO
        generalize wr = W1 at *
        generalize List.replicate k 1 = one1 at *
        go_wp2
        go_loopw [5] (fun b wr => ∃ (A2 : Option Addr) (c2 : Nat) (ns : List Nat), b = .slice A2 k c2 ∧ Hid ((Below w.heap.size w wr ∧ OwnN wr w.heap.size A2 k c2 ns) ∧ Low ls ns ∧ Le ns (need ls ns))) (fun b wr => 8 * k + 1 - meas b wr)
        case atStart => exact ⟨A1, c1, one1, rfl, H2⟩
        case round =>
          obtain ⟨A2, c2, ns, rfl, H⟩ := hrel
          have hs1 := meas_rn H.out.1.2.rn H.out.1.2.len
          have C1 := Lib.hid (CN.out ns H.out.1.2.len H.out.2.1.le8 wr H.out.1.1 A2 c2 H.out.1.2.rn)
          have HS := Lib.hid hs1
          clear hs1 H2
          by_cases he : need ls ns = ns
          · have C2 := Lib.hid (fun (A3 : Option Addr) (c3 : Nat) (X : World) (S3 : RN X A3 c3 (need ls ns)) (b : Below wr.heap.size wr X) => (RSameInts_any S3 (H.out.1.2.rn.keep b) ((need_len ls ns).trans HM.out) H.out.1.2.len).mono (R' := fun e w' => e = .returned (.bool true) ∧ Below X.heap.size X w') (fun e w' h => by rw [decide_eq_true he] at h; exact h))
            have HF := Lib.hid (least_of F.out (low_least H.out.2.1 (by rw [he]; exact Le.refl _)))
            have HZ := Lib.hid (Nat.le_trans H.out.2.1.sum_le (by have := HM.out; omega) : ns.sum ≤ 8000)
            have CD := Lib.hid (fun (X : World) (b : Below wr.heap.size wr X) => (Raddress_any (i := k) (H.out.1.2.rn.keep b) H.out.1.2.len (Nat.le_refl _) h1 (fun j => Nat.le_trans (H.out.2.1.le8 j) (by omega))).mono (R' := fun e w' => e = .returned (.int .i64 (ns.sum : Nat)) ∧ X = w') (fun e w' h => by rw [← H.out.1.2.len, adr_all] at h; exact h))
            generalize ns.sum = sm at *
            have hz := HZ.out
            clear he
            go_wp2_with (first
              | (go_at_call 24; refine C1.out.mono ?_; rintro e w2 ⟨A3, c3, rfl, o3, b3⟩; have H3 := Lib.hid (And.intro b3 o3); clear b3 o3)
              | (go_at_call 12; refine (C2.out A3 c3 _ H3.out.2.rn H3.out.1).mono ?_; rintro e w3 ⟨rfl, b4⟩; have H4 := Lib.hid (blw H3.out.1 b4); clear b4)
              | (go_at_call 25; refine (CD.out _ H4.out).mono ?_; rintro e w4 ⟨rfl, rfl⟩))
            go_ret2
            rw [HL.out, ← HF.out, H.out.1.2.len]
            exact ⟨A2, c2, rfl, own_keepB H.out.1.2 H4.out, blw H.out.1.1 H4.out⟩
          · have C2 := Lib.hid (fun (A3 : Option Addr) (c3 : Nat) (X : World) (S3 : RN X A3 c3 (need ls ns)) (b : Below wr.heap.size wr X) => (RSameInts_any S3 (H.out.1.2.rn.keep b) ((need_len ls ns).trans HM.out) H.out.1.2.len).mono (R' := fun e w' => e = .returned (.bool false) ∧ Below X.heap.size X w') (fun e w' h => by rw [decide_eq_false he] at h; exact h))
            have HT := Lib.hid (And.intro (low_need F.out H.out.2.1) (need_mono ls H.out.2.2))
            have HU := Lib.hid (And.intro (H.out.2.2.sum_lt he) (low_need F.out H.out.2.1).sum_le)
            have HP := Lib.hid ((need_len ls ns).trans HM.out)
            clear he
            go_wp2_with (first
              | (go_at_call 24; refine C1.out.mono ?_; rintro e w2 ⟨A3, c3, rfl, o3, b3⟩; have H3 := Lib.hid (And.intro b3 o3); clear b3 o3)
              | (go_at_call 12; refine (C2.out A3 c3 _ H3.out.2.rn H3.out.1).mono ?_; rintro e w3 ⟨rfl, b4⟩; have H4 := Lib.hid (And.intro (blw H3.out.1 b4) (own_keepB H3.out.2 b4)); clear b4))
            go_roundw
            case rel => exact ⟨A3, c3, need ls ns, rfl, Lib.hid ⟨⟨blw H.out.1.1 H4.out.1, own_lowerN H.out.1.1.size H4.out.2⟩, HT.out.1, HT.out.2⟩⟩
            case measure =>
              have e2 := meas_rn (OwnN.rn H4.out.2) HP.out
              rw [e2, HS.out]
              have := HU.out
              have := HM.out
              omega
  · have HL := Lib.hid (lenR_no hc)
    obtain ⟨er, her⟩ : ∃ er, chk ls = er := ⟨_, rfl⟩
    have hq : (er != 0) = true := by simp; omega
    rw [her] at CC ⊢
    clear R hm hc her
    go_enter Tryz.func11, Tryz.ntmps11
    go_wp2_with (go_at_call 15; refine CC.out.mono ?_; rintro e w1 ⟨rfl, b1⟩; have B1 := Lib.hid b1; clear b1)
    go_ret2
    rw [HL.out]
    exact ⟨none, 0, rfl, ownN_nil _ _, B1.out⟩
end Go.Proofs.YtjdjkdgdbdenpaaGreatDoor
/- The reference's code of lines. -/
namespace Go.Proofs.YtjdjkdgdbdenpaaGreatDoor
open Go Go.RowKit

def insL (ls : List Ln) : List C4.II := (List.range ls.length).map fun i => ((ls.getD i l0).fn, opd ls (lens ls) i)
def atL (ls : List Ln) : List Nat := (List.range ls.length).map (adr (lens ls))
def codeR (ls : List Ln) : List Nat := if chk ls = 0 then C4.jl (insL ls) else []
def atR (ls : List Ln) : List Nat := if chk ls = 0 then atL ls else []
theorem insL_len (ls : List Ln) : (insL ls).length = ls.length := by simp [insL]
theorem atL_len (ls : List Ln) : (atL ls).length = ls.length := by simp [atL]
theorem range_snoc {α : Type} (f : Nat → α) {n k : Nat} (hk : k < n) : ((List.range n).map f).take (k + 1) = ((List.range n).map f).take k ++ [f k] := by
  rw [List.take_succ_eq_append_getElem (by simpa using hk)]
  simp
theorem jl_one (l : List C4.II) (f : Nat) (v : Int) : C4.jl (l ++ [(f, v)]) = C4.jl l ++ C4.enc f v := by rw [C4.jl_app]; simp [C4.jl]
theorem bdrew1 {n : Nat} {w w1 : World} (h : Below n w w1) : Below n w w1.drew := bdrew h 1
/-- Two rows of different types: what is done to the one leaves the other. -/
theorem own_other {w w' : World} {B B' n n' s s' : Nat} {e e' : TypeId} {v v' : Value} {xs xs' : List Value} (h : w.ownsRow B e s v n xs) (h' : w.ownsRow B' e' s' v' n' xs') (hne : e ≠ e') (g : w.grownBy w' v'.ownBlock) : w'.ownsRow B e s v n xs := by
  refine h.kept g ?_
  rcases h.2 with ⟨rfl, _⟩ | ⟨g1, cap, cur, rfl, _, hh, _⟩
  · exact .inl rfl
  · right
    intro he
    rcases h'.2 with ⟨rfl, _⟩ | ⟨g2, cap2, cur2, rfl, _, hh2, _⟩
    · cases he
    · have : g1 = g2 := by simpa [Value.ownBlock] using he
      subst this
      rw [hh] at hh2
      injection hh2 with hh2
      injection hh2 with _ h2
      exact hne h2
theorem rPut_is {f : Nat} {v : Int} (hf : C4.valid f = true) (hv : isW v) (w : World) : Calls Tryz.prog 30 #[.agg #[.int .u8 (f : Int), .int .i32 v]] w (C4.Gives w 0 (C4.enc f v)) := by
  have C := C4.rPut_any f hv w
  rwa [show C4.pe f = 0 from if_pos hf, show C4.pt f v = C4.enc f v from if_pos hf] at C
/-- New bytes and new numbers were made, and an error. -/
def GivesBN (w : World) (ys : List Nat) (ns : List Nat) (er : Int) (e : Ending) (w' : World) : Prop :=
  ∃ A c A' c', e = .returned (.tuple #[.slice A ys.length c, .slice A' ns.length c', .int .i64 er]) ∧ C4.RS w' A c ys ∧ RN w' A' c' ns ∧ Below w.heap.size w w'
theorem insL_ok {ls : List Ln} (F : Fit ls) (ok : OKL ls) : C4.OKI (insL ls) := by
  intro p hp
  obtain ⟨i, hi, rfl⟩ := List.mem_map.1 hp
  rw [List.mem_range] at hi
  exact ⟨(ok.get i).fn, opd_word F (b := 8) (by omega) (lens_low F).le8 hi⟩
theorem jl_take_len {l : List C4.II} (h : C4.OKI l) (k : Nat) : (C4.jl (l.take k)).length ≤ 8 * l.length := Nat.le_trans (C4.jl_mono k) (C4.jl_len h)
theorem insL_av {ls : List Ln} (F : Fit ls) : C4.av (insL ls) = true := by
  unfold C4.av
  rw [List.all_eq_true]
  intro p hp
  obtain ⟨i, hi, rfl⟩ := List.mem_map.1 hp
  rw [List.mem_range] at hi
  exact F.vl i hi
set_option maxRecDepth 100000 in
set_option maxHeartbeats 8000000 in
theorem RAssemble_any {A : Option Addr} {c m : Nat} {ls : List Ln} {w : World} (R : RL w A c ls) (hm : ls.length = m) (h1 : m ≤ 1000) : Calls Tryz.prog 17 #[.slice A m c] w (GivesBN w (codeR ls) (atR ls) (chk ls)) := by
  have HR := Lib.hid R
  have HM := Lib.hid hm
  have CC := Lib.hid (RLengths_any R hm h1)
  unfold GivesNE at CC
  unfold GivesBN
  by_cases hc : chk ls = 0
  · have F := Lib.hid (fit_of hc R.ok (by omega))
    have HK := Lib.hid (insL_ok F.out R.ok)
    have HV := Lib.hid (insL_av F.out)
    have hl8 := (lens_low F.out).le8
    have HL := Lib.hid ((lens_least F.out).len.trans hm)
    rw [lenR_ok hc, hc, HL.out] at CC
    rw [show codeR ls = C4.jl (insL ls) from if_pos hc, show atR ls = atL ls from if_pos hc, hc]
    have HI := Lib.hid ((insL_len ls).trans hm)
    have HA := Lib.hid ((atL_len ls).trans hm)
    have HZ := Lib.hid (fun k => jl_take_len HK.out k)
    have CO := Lib.hid (fun (W1 : World) (A5 : Option Addr) (c5 : Nat) (B1 : Below w.heap.size w W1) (S : RN W1 A5 c5 (lens ls)) (i : Nat) (hi : i < m) (W : World) (b : Below W1.heap.size W1 W) => ROperand_any ((R.keep B1).keep b) (S.keep b) hm HL.out hi h1 (fun j => Nat.le_trans (hl8 j) (by omega)) (refs_of hc i (by omega)).1 (refs_of hc i (by omega)).2)
    have CD := Lib.hid (fun (W1 : World) (A5 : Option Addr) (c5 : Nat) (S : RN W1 A5 c5 (lens ls)) (i : Nat) (hi : i < m) (W : World) (b : Below W1.heap.size W1 W) => Raddress_any (i := i) (S.keep b) HL.out (by omega) (by omega) (fun j => Nat.le_trans (hl8 j) (by omega)))
    have CP := Lib.hid (fun (i : Nat) (hi : i < m) => rPut_is (f := (ls.getD i l0).fn) (v := opd ls (lens ls) i) (F.out.vl i (by omega)) (opd_word F.out (b := 8) (by omega) hl8 (by omega)))
    have HB := Lib.hid (fun (i : Nat) (hi : i < m) => C4.enc_by (fn := (ls.getD i l0).fn) (v := opd ls (lens ls) i) (C4.valid_lt (F.out.vl i (by omega))))
    unfold C4.Gives at CP
    have HS1 := Lib.hid (fun (k : Nat) (hk : k < m) => range_snoc (fun i => ((ls.getD i l0).fn, opd ls (lens ls) i)) (show k < ls.length by omega))
    have HS2 := Lib.hid (fun (k : Nat) (hk : k < m) => range_snoc (adr (lens ls)) (show k < ls.length by omega))
    clear R hm hc hl8
    go_enter Tryz.func17, Tryz.ntmps17
    go_wp2_with (go_at_call 11; refine CC.out.mono ?_; rintro e w1 ⟨A5, c5, rfl, o1, b1⟩; have B1 := Lib.hid (And.intro b1 (OwnN.rn o1)); clear b1 o1)
    go_loopw [7, 8, 9] (fun a b i wr => ∃ k S : Nat, k ≤ m ∧ i = .int .i64 k ∧ S ≤ 8000 ∧ ∃ A7 c7 A8 c8, a = .slice A7 S c7 ∧ b = .slice A8 k c8 ∧
      Hid ((Below w1.heap.size w1 wr ∧ S = (C4.jl ((insL ls).take k)).length) ∧ wr.ownsRow w1.heap.size 5 1 (.slice A7 S c7) S (C4.bs (C4.jl ((insL ls).take k))) ∧ OwnN wr w1.heap.size A8 k c8 ((atL ls).take k))) (fun _ _ i _ => m - (intOf i).toNat)
    case atStart => exact ⟨0, 0, Nat.zero_le _, rfl, by omega, _, _, _, _, rfl, rfl, Lib.hid ⟨⟨b0 w1, rfl⟩, C4.own_nil' _ _, ownN_nil _ _⟩⟩
    case round =>
      obtain ⟨k, S, hk, rfl, hS, A7, c7, A8, c8, rfl, rfl, H⟩ := hrel
      by_cases hlt : (k : Int) < (m : Int)
      · obtain ⟨ad, rfl, _, f0, _⟩ := (HR.out.keep B1.out.1).rd k (by have := HM.out; omega)
        have F0 := Lib.hid f0
        have C1 := Lib.hid (CO.out w1 A5 c5 B1.out.1 B1.out.2 k (by omega))
        have C2 := Lib.hid (CD.out w1 A5 c5 B1.out.2 k (by omega))
        have C3 := Lib.hid (CP.out k (by omega))
        have HBk := Lib.hid (HB.out k (by omega))
        have E1 := Lib.hid (HS1.out k (by omega))
        have E2 := Lib.hid (HS2.out k (by omega))
        have HZk := Lib.hid (HZ.out (k + 1))
        have hk0 : (0 : Int) ≤ (k : Int) := by omega
        have hk1 : k ≤ 1000 := by omega
        have hm1 : m ≤ 1000 := h1
        generalize (ls.getD k l0).fn = f at *
        generalize opd ls (lens ls) k = v at *
        generalize adr (lens ls) k = S2 at *
        generalize hzs : C4.enc f v = zs at *
        generalize hL : zs.length = L at *
        have HLz := Lib.hid hL
        have HZs := Lib.hid hzs
        have E3 := Lib.hid (show C4.jl ((insL ls).take (k + 1)) = C4.jl ((insL ls).take k) ++ zs by unfold insL; rw [E1.out, jl_one, hzs])
        have E4 := Lib.hid (show S + L = (C4.jl ((insL ls).take (k + 1))).length by rw [E3.out, List.length_append, hL, H.out.1.2])
        have E5 := Lib.hid (show S + L ≤ 8000 by rw [E4.out]; have := HZk.out; have := HI.out; omega)
        have hE5 := E5.out
        clear f0 hzs hL
        go_wp2_with (first
          | (go_at_call 25; refine (C2.out _ H.out.1.1).mono ?_; rintro e w2 ⟨rfl, rfl⟩)
          | (at_builtin; refine app_num rfl (.tmp 26) (.tmp 30) rfl w1.heap.size k c8 1 S2 wr.heap.size A8 ((atL ls).take k) rfl rfl (own_keepB H.out.2.2 (bal (b0 wr) _)) (cell_new0 rfl) (by omega) (bal H.out.1.1 _).size ?_; intro A9 c9 w3 o3 g3; have H3 := Lib.hid (And.intro (bgrow (bal H.out.1.1 _) (own_keepB H.out.2.2 (bal (b0 wr) _)) (Nat.le_refl _) g3) (And.intro (own_other (own_keepB H.out.2.1 (bal (b0 wr) _)) (own_keepB H.out.2.2 (bal (b0 wr) _)) (by decide) g3) o3)); clear o3 g3))
        have f1 := (H3.out.1.cell (g_lt F0.out)).trans F0.out
        go_region_held3 (fun w' => w'.cell? ⟨(ad.add (k * 5)).block, (ad.add (k * 5)).off + 1, none⟩ = some (.int .u8 (f : Int)))
          (first | (exact f1) | (exact f2) | (exact f3) | go_keep)
          (first
            | (go_at_call 31; ((with_reducible refine (C1.out w3.drew (bdrew1 H3.out.1)).mono ?_); rintro e w4 ⟨rfl, b4⟩; have B4 := Lib.hid (blw (bdrew1 (b0 w3)) b4); have f2 := (B4.out.cell (g_lt f1)).trans f1; clear b4))
            | (go_at_call 30; (with_reducible refine (C3.out _).mono ?_); rintro e w5 ⟨A10, c10, rfl, o5, g5⟩; have B5 := Lib.hid (blw B4.out (C4.g_below0 g5)); have f3 := (B5.out.cell (g_lt f1)).trans f1; have O5 := Lib.hid (C4.OwnB.rs o5 HBk.out).1; clear o5 g5))
        all_goals go_wp2_with (at_builtin; refine C4.app_bytes rfl (.tmp 46) (.tmp 47) rfl w1.heap.size S c7 L c10 (S + L) A7 A10 (C4.jl ((insL ls).take k)) zs rfl rfl (own_keepB H3.out.2.1 B5.out) HLz.out O5.out.rd rfl (by omega) (Nat.le_trans H3.out.1.size B5.out.size) ?_; intro A11 c11 w6 o6 g6; have H6 := Lib.hid (And.intro (bgrow (blw H3.out.1 B5.out) (own_keepB H3.out.2.1 B5.out) (Nat.le_refl _) g6) (And.intro o6 (own_other (own_keepB H3.out.2.2 B5.out) (own_keepB H3.out.2.1 B5.out) (by decide) g6))); clear o6 g6)
        all_goals
          rw [← E3.out] at H6
          go_roundw
          case rel => exact ⟨k + 1, S + L, by omega, by go_num, by omega, _, _, _, _, rfl, rfl, Lib.hid ⟨⟨H6.out.1, E4.out⟩, H6.out.2.1, by have h := H6.out.2.2; unfold atL; rw [E2.out]; exact h⟩⟩
          case measure => simp [intOf]; omega
      · obtain rfl : k = m := by omega
        have t1 : (insL ls).take k = insL ls := List.take_of_length_le (by rw [HI.out]; exact Nat.le_refl _)
        have t2 : (atL ls).take k = atL ls := List.take_of_length_le (by rw [HA.out]; exact Nat.le_refl _)
        rw [t1, t2] at H
        clear t1 t2
        go_wp2
        go_ret3
        rw [← H.out.1.2, HA.out]
        exact ⟨_, _, _, _, rfl, (C4.rs_of_own (w := w1) H.out.2.1 H.out.1.2 (C4.jl_by HV.out)).1, OwnN.rn H.out.2.2, blw B1.out.1 H.out.1.1⟩
  · rw [lenR_no hc] at CC
    rw [show codeR ls = [] from if_neg hc, show atR ls = [] from if_neg hc]
    obtain ⟨er, her⟩ : ∃ er, chk ls = er := ⟨_, rfl⟩
    have hq : (er != 0) = true := by simp; omega
    rw [her] at CC ⊢
    clear R hm hc her
    go_enter Tryz.func17, Tryz.ntmps17
    go_wp2_with (go_at_call 11; refine CC.out.mono ?_; rintro e w1 ⟨A5, c5, rfl, o1, b1⟩; have B1 := Lib.hid b1; clear b1 o1)
    go_ret3
    exact ⟨none, 0, none, 0, rfl, C4.RS.nil _, RN.nil _, B1.out⟩
end Go.Proofs.YtjdjkdgdbdenpaaGreatDoor
/- Labels are looked up in a map. -/
namespace Go.Proofs.YtjdjkdgdbdenpaaGreatDoor
open Go Go.RowKit Go.Maps

theorem mapLaw : Keyed Tryz.prog 9 := string_keyed Tryz.underlying9
theorem key_of {l : Bs} (h : l.length ≤ maxLen) : keyOf Tryz.prog 9 (.string (strOf l)) = some (.string l) := by
  have := Go.WideMaps.keyOf_string_mk (P := Tryz.prog) (k := 9) Tryz.underlying9 (s := strOf l) (by rw [size_strOf]; exact h)
  rwa [strOf_data] at this
abbrev num (i : Nat) : DataW Unit := .lit (.int .i64 (i : Int))
/-- A map holds the labels of lines, each with the number of its line. -/
def MR (D : DataW Unit) (ls : List Ln) : Prop := Tidy D ∧ ∀ n : Bs, n ≠ [] → Maps.has D (.string n) = (fnd ls n).isSome ∧ ∀ i, fnd ls n = some i → D.atKey (.string n) (.lit (.int .i64 0)) = num i
theorem mr_empty : MR (.map []) [] := ⟨tidy_empty, fun n _ => ⟨rfl, fun i h => by simp [fnd] at h⟩⟩
theorem fnd_take {ls : List Ln} {k : Nat} (hk : k < ls.length) (n : Bs) : fnd (ls.take (k + 1)) n = if (fnd (ls.take k) n).isSome = true then fnd (ls.take k) n else if (ls.getD k l0).lab = n then some k else none := by
  have e : ls.take (k + 1) = ls.take k ++ [ls.getD k l0] := by
    rw [List.take_succ_eq_append_getElem hk]
    simp [hk]
  rw [e]
  generalize ls.getD k l0 = y
  have hlen : (ls.take k).length = k := by rw [List.length_take]; omega
  unfold fnd
  rw [List.findIdx?_append, hlen]
  cases h : List.findIdx? (fun x => decide (x.lab = n)) (ls.take k) with
  | some i => simp
  | none =>
    by_cases hl : y.lab = n
    · simp [hl, List.findIdx?_cons]
    · simp [hl, List.findIdx?_cons]
theorem mr_skip {D : DataW Unit} {ls : List Ln} {k : Nat} (hk : k < ls.length) (h : MR D (ls.take k)) (h0 : (ls.getD k l0).lab = []) : MR D (ls.take (k + 1)) := by
  refine ⟨h.1, fun n hn => ?_⟩
  have e : fnd (ls.take (k + 1)) n = fnd (ls.take k) n := by
    rw [fnd_take hk]
    split
    · rfl
    · rename_i hs
      rw [if_neg (by rw [h0]; exact fun e => hn e.symm)]
      cases hf : fnd (ls.take k) n with
      | none => rfl
      | some i => rw [hf] at hs; exact absurd rfl hs
  rw [e]
  exact h.2 n hn
theorem mr_put {D : DataW Unit} {ls : List Ln} {k : Nat} (hk : k < ls.length) (h : MR D (ls.take k)) (h1 : fnd (ls.take k) (ls.getD k l0).lab = none) : MR (D.put (.string (ls.getD k l0).lab) (num k)) (ls.take (k + 1)) := by
  refine ⟨h.1.put (show WideAt.IsKeyLit (.string _) from trivial) _, fun n hn => ?_⟩
  rw [fnd_take hk]
  by_cases hq : n = (ls.getD k l0).lab
  · subst hq
    rw [h1, if_neg (by decide), if_pos rfl]
    refine ⟨has_put_same h.1.isMap (show WideAt.IsKeyLit (.string _) from trivial) _, fun i hi => ?_⟩
    injection hi with hi
    subst hi
    exact atKey_put_same h.1.isMap (show WideAt.IsKeyLit (.string _) from trivial) _ _
  · have hne : (.string n : Lit) ≠ .string (ls.getD k l0).lab := fun e => hq (by injection e)
    have e : (if (fnd (ls.take k) n).isSome = true then fnd (ls.take k) n else if (ls.getD k l0).lab = n then some k else none) = fnd (ls.take k) n := by
      split
      · rfl
      · rename_i hs
        rw [if_neg (fun e => hq e.symm)]
        cases hf : fnd (ls.take k) n with
        | none => rfl
        | some i => rw [hf] at hs; exact absurd rfl hs
    rw [e, has_put_other hne]
    refine ⟨(h.2 n hn).1, fun i hi => ?_⟩
    rw [atKey_put_other hne]
    exact (h.2 n hn).2 i hi
theorem fnd_of_take {ls : List Ln} {k i : Nat} {n : Bs} (h : fnd (ls.take k) n = some i) : fnd ls n = some i ∧ i < k := by
  obtain ⟨h1, h2, h3⟩ := fnd_some h
  have hl : i < ls.length ∧ i < k := by rw [List.length_take] at h1; omega
  have e : ∀ j, j < k → (ls.take k).getD j l0 = ls.getD j l0 := fun j hj => by
    simp only [List.getD_eq_getElem?_getD]
    rw [List.getElem?_take, if_pos hj]
  refine ⟨fnd_hit hl.1 (fun j hj => ?_) ?_, hl.2⟩
  · rw [← e j (by omega)]; exact h3 j hj
  · rw [← e i hl.2]; exact h2
theorem fnd_first {ls : List Ln} {k : Nat} (hk : k < ls.length) (h : fnd (ls.take k) (ls.getD k l0).lab = none) : fnd ls (ls.getD k l0).lab = some k := by
  refine fnd_hit hk (fun j hj => ?_) rfl
  have := fnd_none h j (by rw [List.length_take]; omega)
  have e : (ls.take k).getD j l0 = ls.getD j l0 := by
    simp only [List.getD_eq_getElem?_getD]
    rw [List.getElem?_take, if_pos hj]
  rwa [e] at this
/-- No two of the first k lines have the same label. -/
def Uq (ls : List Ln) (k : Nat) : Prop := ∀ j, j < k → (ls.getD j l0).lab.isEmpty = true ∨ fnd ls (ls.getD j l0).lab = some j
/-- The labels as a map: in a block of the call's own. -/
def GivesM (w : World) (ls : List Ln) (e : Ending) (w' : World) : Prop :=
  (Uq ls ls.length ∧ ∃ b n D, e = .returned (.tuple #[.map (some b), .bool true]) ∧ w'.ownsMap Tryz.prog 9 (plainElem Tryz.prog 3) b n D ∧ MR D ls ∧ Below w.heap.size w w') ∨
  (¬ Uq ls ls.length ∧ e = .returned (.tuple #[.map none, .bool false]) ∧ Below w.heap.size w w')
/-- What the loop keeps. -/
def PL (w : World) (ls : List Ln) (k : Nat) (wr : World) : Prop := (Below w.heap.size w wr ∧ Uq ls k) ∧ ∃ n D, n ≤ k ∧ wr.ownsMap Tryz.prog 9 (plainElem Tryz.prog 3) w.heap.size n D ∧ MR D (ls.take k)
theorem wf_nat {k : Nat} (h : k ≤ 1000000) : (Lit.int .i64 (k : Int)).wf = true := by
  simp [Lit.wf, IntKind.min, IntKind.max, IntKind.signed, IntKind.bits]
  omega
set_option maxRecDepth 100000 in
set_option maxHeartbeats 4000000 in
theorem placesOf_any {A : Option Addr} {c m : Nat} {ls : List Ln} {w : World} (R : RL w A c ls) (hm : ls.length = m) (h1 : m ≤ 100000) : Calls Tryz.prog 46 #[.slice A m c] w (GivesM w ls) := by
  have HR := Lib.hid R
  have HM := Lib.hid hm
  clear R hm
  have hmm := @run_makeMap Tryz.prog
  have B0 := Lib.hid (bal (b0 w) (.map #[] 0))
  have O0 := Lib.hid (World.ownsMap_made (H := Unit) w Tryz.prog 9 (plainElem Tryz.prog 3))
  go_enter Tryz.func46, Tryz.ntmps46
  go_wp2
  go_loopw [2, 11] (fun pl i wr => pl = .map (some w.heap.size) ∧ ∃ k : Nat, k ≤ m ∧ i = .int .i64 k ∧ Hid (PL w ls k wr)) (fun _ i _ => m - (intOf i).toNat)
  case atStart => exact ⟨rfl, 0, Nat.zero_le _, rfl, Lib.hid ⟨⟨B0.out, fun j hj => absurd hj (by omega)⟩, 0, .map [], Nat.le_refl _, O0.out, mr_empty⟩⟩
  case round =>
    obtain ⟨rfl, k, hk, rfl, H⟩ := hrel
    by_cases hlt : (k : Int) < (m : Int)
    · obtain ⟨ad, rfl, c0, c1, c2, c3, c4⟩ := (HR.out.keep H.out.1.1).rd k (by have := HM.out; omega)
      have hkl : k < ls.length := by have := HM.out; omega
      have he := strOf_empty (ls.getD k l0).lab
      have hk0 : (0 : Int) ≤ (k : Int) := by omega
      have BX := Lib.hid (bal H.out.1.1 (.cells #[.string (strOf (ls.getD k l0).lab), .int .u8 ((ls.getD k l0).fn : Int), .int .i32 (ls.getD k l0).arg, .string (strOf (ls.getD k l0).tgt), .string (strOf (ls.getD k l0).fr)] 60))
      by_cases hl : (ls.getD k l0).lab = []
      · have HX := Lib.hid (show Uq ls (k + 1) from fun j hj => if h : j < k then H.out.1.2 j h else by rw [show j = k by omega]; left; rw [hl]; rfl)
        have HS := Lib.hid (fun (D : DataW Unit) (h : MR D (ls.take k)) => mr_skip hkl h hl)
        rw [show (ls.getD k l0).lab.isEmpty = true by rw [hl]; rfl] at he
        clear hl hkl
        generalize ls.getD k l0 = x at *
        go_wp2
        go_roundw
        case rel =>
          obtain ⟨_, n, D, hn, ho, hr⟩ := H.out
          exact ⟨rfl, k + 1, by omega, by go_num, Lib.hid ⟨⟨BX.out, HX.out⟩, n, D, by omega, ho.alloc _, HS.out D hr⟩⟩
        case measure => simp [intOf]; omega
      · have he' : (ls.getD k l0).lab.isEmpty = false := by cases hq : (ls.getD k l0).lab with | nil => exact absurd hq hl | cons a b => rfl
        rw [he'] at he
        have KEY := Lib.hid (key_of (HR.out.ok.get k).lab)
        obtain ⟨_, n, D, hn, ho, hr⟩ := H.out
        obtain ⟨hhas, hat0⟩ := hr.2 _ hl
        have HO := Lib.hid ho
        have HN := Lib.hid (And.intro hn hr)
        have hU := H.out.1.2
        cases hf : fnd (ls.take k) (ls.getD k l0).lab with
        | some i =>
          rw [hf] at hhas
          have HX := Lib.hid (show ¬ Uq ls ls.length from fun h => by
            rcases h k hkl with h | h
            · rw [he'] at h; cases h
            · have h2 := fnd_of_take hf
              rw [h2.1] at h
              injection h with h
              omega)
          have hb : Maps.has D (.string (ls.getD k l0).lab) = true := hhas
          clear hl hkl hf hhas he' hr ho hn hat0 hU
          generalize ls.getD k l0 = x at *
          go_wp2_with (at_lookup; refine wpList_lookup_own_ok_int _ rfl _ _ 91 rfl 9 3 .i64 mapLaw Tryz.underlying91 Tryz.underlying3 (Tryz.zeroValue3 _) w.heap.size n D rfl (HO.out.alloc _) _ (.string x.lab) rfl KEY.out ?_; intro cc hat hwc; clear hat hwc; rw [hb])
          go_ret2
          unfold GivesM
          exact .inr ⟨HX.out, rfl, BX.out⟩
        | none =>
          rw [hf] at hhas
          have HX := Lib.hid (show Uq ls (k + 1) from fun j hj => if h : j < k then hU j h else by rw [show j = k by omega]; right; exact fnd_first hkl hf)
          have hb : Maps.has D (.string (ls.getD k l0).lab) = false := hhas
          have HS := Lib.hid (mr_put hkl HN.out.2 hf)
          clear hl hkl hf hhas he' hr ho hn hat0 hU
          generalize ls.getD k l0 = x at *
          go_wp2_with (first
            | (at_lookup; refine wpList_lookup_own_ok_int _ rfl _ _ 91 rfl 9 3 .i64 mapLaw Tryz.underlying91 Tryz.underlying3 (Tryz.zeroValue3 _) w.heap.size n D rfl (HO.out.alloc _) _ (.string x.lab) rfl KEY.out ?_; intro cc hat hwc; clear hat hwc; rw [hb])
            | (at_mapUpdate; refine wpList_mapUpdate_own _ rfl _ _ _ 91 rfl 9 3 mapLaw Tryz.underlying91 (plainElem Tryz.prog 3) w.heap.size n D rfl (HO.out.alloc _) (by have := HN.out.1; unfold maxLen; omega) _ _ (.string x.lab) rfl rfl KEY.out (num k) [] (plainElem_int Tryz.underlying3 (wf_nat (by omega))) ?_; intro w5 ho5 hg5; have H5 := Lib.hid (And.intro ho5 (BX.out.grown hg5 BX.out.size (fun q hq => by cases hq; exact Nat.le_refl _))); clear ho5 hg5))
          go_roundw
          case rel => exact ⟨rfl, k + 1, by omega, by go_num, Lib.hid ⟨⟨H5.out.2, HX.out⟩, n + 1, _, by have := HN.out.1; omega, H5.out.1, HS.out⟩⟩
          case measure => simp [intOf]; omega
    · obtain rfl : k = m := by omega
      have ht : ls.take k = ls := List.take_of_length_le (by rw [HM.out]; exact Nat.le_refl _)
      have HT := Lib.hid ht
      clear ht
      go_wp2
      go_ret2
      unfold GivesM
      obtain ⟨⟨hB, hU⟩, n, D, hn, ho, hr⟩ := H.out
      rw [HT.out] at hr
      exact .inl ⟨by rw [HM.out]; exact hU, _, n, D, rfl, ho, hr, hB⟩
end Go.Proofs.YtjdjkdgdbdenpaaGreatDoor
