/- The reference's reading of lines: the walk. -/
import Derived.Deep.RegionHeld3
import Derived.Deep.RegionLaw
import Derived.Deep.DrawnRows
import Derived.Test.YtjdjkdgdbdenpaaGreatDoorM32
import Derived.Test.YtjdjkdgdbdenpaaGreatDoorM37
set_option linter.unusedVariables false
set_option linter.unusedSimpArgs false
namespace Go.Proofs.YtjdjkdgdbdenpaaGreatDoor
open Go Go.RowKit
attribute [local go_sem ↓] Go.wp_at_zero Go.wp_at_succ

theorem slice_to (l : Bs) (k : Nat) (h : k ≤ l.length) (W : World) : (Instr.slice 9 (.string (strOf l)) none (some (.int .i64 (k : Int))) none).run Tryz.prog W = .ok (.string (strOf (l.take k))) W := by
  have hs := size_strOf l
  rw [run_slice_string_to_if W 9 (strOf l) .i64 (k : Int) Tryz.underlying9, if_pos ⟨by omega, by omega⟩, Int.toNat_natCast]
  congr 2
  apply ByteArray.ext
  simp [strOf]
theorem slice_fr (l : Bs) (k : Nat) (h : k ≤ l.length) (W : World) : (Instr.slice 9 (.string (strOf l)) (some (.int .i64 (k : Int))) none none).run Tryz.prog W = .ok (.string (strOf (l.drop k))) W := by
  have hs := size_strOf l
  rw [run_slice_string_from_if W 9 (strOf l) .i64 (k : Int) Tryz.underlying9, if_pos ⟨by omega, by omega⟩, Int.toNat_natCast]
  congr 2
  apply ByteArray.ext
  apply Array.ext'
  have h2 : (strOf l).data.toList = l := rfl
  simp only [ByteArray.data_extract, Array.toList_extract, h2, hs]
  simp [strOf, List.extract]
  exact List.take_of_length_le (by simp)
theorem take_lf {R : Bs} {k : Nat} (hk : k < R.length) (h : R = R.take k ++ 10 :: R.drop (k + 1)) : R.take (k + 1) = R.take k ++ [10] := by
  have hl : (R.take k).length = k := by simp; omega
  have e := List.take_length_add_append (l₁ := R.take k) (l₂ := 10 :: R.drop (k + 1)) 1
  rw [hl, ← h] at e
  exact e
set_option maxRecDepth 100000 in
set_option maxHeartbeats 4000000 in
theorem RdRef_of (CL : ∀ (l : Bs) (_ : l.length ≤ 100000) (W : World), Calls Tryz.prog 39 #[.string (strOf l)] W fun e w' => e = .returned (lnV (gR l)) ∧ Below W.heap.size W w') (s : Bs) (hs : s.length ≤ 100000) (w : World) : Calls Tryz.prog 21 #[.string (strOf s)] w (GivesLN w (rdL s) (rdN s) (rdE s)) := by
  have HS := Lib.hid hs
  have CL := Lib.hid CL
  have H0 := Lib.hid (rd_start s)
  have HG := Lib.hid (fun (ds : List Bs) (h : RdInv s [] ds) => rd_end h)
  go_enter Tryz.func21, Tryz.ntmps21
  go_wp2
  go_loopw [0, 5, 6] (fun r b n wr => ∃ (R : Bs) (ds : List Bs) (m : Nat) (A1 : Option Addr) (c1 : Nat), r = .string (strOf R) ∧ b = .slice A1 m c1 ∧ n = .int .i64 ((m : Int) + 1) ∧ m ≤ 100000 ∧ Hid (m = ds.length ∧ RdInv s R ds ∧ R.length + m ≤ s.length ∧ Below w.heap.size w wr ∧ OwnL wr w.heap.size A1 m c1 (ds.map gC) ∧ ∀ d ∈ ds, d.length ≤ 100000)) (fun r _ _ _ => match r with | .string b => b.size | _ => 0)
  case atStart => exact ⟨s, [], 0, none, 0, rfl, rfl, rfl, by omega, Lib.hid ⟨rfl, H0.out, by omega, b0 w, ownL_nil _ _, fun d hd => (by cases hd)⟩⟩
  case round =>
    obtain ⟨R, ds, m, A1, c1, rfl, rfl, rfl, hm, H⟩ := hrel
    have he := strOf_empty R
    by_cases hR : R = []
    · subst hR
      have he' : (!(strOf ([] : Bs)).toList.isEmpty) = false := by rw [he]; rfl
      have HE := Lib.hid (HG.out ds H.out.2.1)
      have HB := Lib.hid H.out
      clear H he
      generalize strOf ([] : Bs) = R0 at *
      go_wp2
      go_ret3
      rw [HE.out.1, HE.out.2.1, HE.out.2.2]
      have hl : (ds.map gC).length = m := by rw [List.length_map]; exact HB.out.1.symm
      unfold GivesLN
      rw [hl]
      exact ⟨A1, c1, rfl, HB.out.2.2.2.2.1, HB.out.2.2.2.1⟩
    · have he' : (!(strOf R).toList.isEmpty) = true := by rw [he]; cases R with | nil => exact absurd rfl hR | cons a b => rfl
      have hRl : R.length ≤ 100000 := by have := H.out.2.2.1; have := HS.out; omega
      have CU := Lib.hid (fun (W : World) => upto_any R 10 W hRl)
      rw [show ((10 : UInt8).toNat : Int) = 10 from rfl] at CU
      have hz := size_strOf R
      rcases rest_part R with ⟨hk, hno⟩ | ⟨hk, hno, hpart⟩
      · have HBad := Lib.hid (rd_bad H.out.2.1 (spl_last hno hR) (okC_no hno))
        have s1 := slice_to R R.length (Nat.le_refl _)
        rw [List.take_length] at s1
        have CL1 := Lib.hid (fun (W : World) => CL.out R hRl W)
        have HB := Lib.hid H.out
        rw [hk] at CU
        clear H he hk hno hRl hR
        generalize gR R = x at *
        generalize R.length = n at *
        have g1 : ((n : Int) == (n : Int)) = true := by simp
        go_wp2_with (first
          | (go_at_call 38; (with_reducible refine (CU.out _).mono ?_); rintro e v1 ⟨rfl, rfl⟩)
          | (go_at_call 39; (with_reducible refine (CL1.out _).mono ?_); rintro e v2 ⟨rfl, b2⟩; have B2 := Lib.hid (blw HB.out.2.2.2.1 b2); clear b2))
        go_quiet (fail)
        go_wp2
        go_ret3
        exact givesLN_no rfl (by rw [HB.out.1]; exact HBad.out) (bdrew (bal B2.out _) _)
      · have hspl : spl R = (R.take (upto R 10) ++ [10]) :: spl (R.drop (upto R 10 + 1)) := (congrArg spl hpart).trans (spl_hit hno)
        have htk := take_lf hk hpart
        have hok := (okR_eq (R.take (upto R 10))).1
        have hgc := (okR_eq (R.take (upto R 10))).2
        have HNx := Lib.hid (fun (h : okC (R.take (upto R 10) ++ [10]) = true) => rd_next (by rw [← hpart]; exact H.out.2.1) hno h)
        have HBad := Lib.hid (fun (h : okC (R.take (upto R 10) ++ [10]) = false) => rd_bad H.out.2.1 hspl h)
        have s1 := slice_to R (upto R 10) (by omega)
        have s2 := slice_to R (upto R 10 + 1) (by omega)
        have s3 := slice_fr R (upto R 10 + 1) (by omega)
        rw [htk] at s2
        have CL1 := Lib.hid (fun (W : World) => CL.out (R.take (upto R 10)) (by simp; omega) W)
        have hx : OKx (gR (R.take (upto R 10))) := gR_okx (by simp; omega)
        have CV := Lib.hid (fun (W : World) => RValid_any _ hx W)
        have CO := Lib.hid (fun (h : vld (gR (R.take (upto R 10))) = true) (W : World) => ROne_any _ hx h W)
        have HX := Lib.hid hx
        have hdef : okR (R.take (upto R 10)) = (vld (gR (R.take (upto R 10))) && decide (one (gR (R.take (upto R 10))) = R.take (upto R 10) ++ [10])) := rfl
        rw [hok] at hdef
        have HB := Lib.hid H.out
        have HLen := Lib.hid (show (R.drop (upto R 10 + 1)).length + (m + 1) ≤ s.length ∧ (R.drop (upto R 10 + 1)).length < R.length ∧ (R.take (upto R 10) ++ [10]).length ≤ 100000 by
          have := H.out.2.2.1
          simp
          omega)
        have hm1 : m + 1 ≤ 100000 := by have := HLen.out.1; have := HS.out; omega
        have hg1 : ((upto R 10 : Int) == (R.length : Int)) = false := by simp; omega
        have hkb : upto R 10 ≤ 100000 := by omega
        have HGC := Lib.hid hgc
        clear H he hk hno hRl hR hpart hspl htk hx hgc
        rw [hok] at HGC
        generalize hq : R.drop (upto R 10 + 1) = q at *
        generalize hp : R.take (upto R 10) = p at *
        generalize hxx : gR p = x at *
        generalize upto R 10 = k at *
        generalize R.length = n at *
        clear hq hp hok
        have wr1 : IntKind.i64.wrap ((k : Int) + 1) = (k : Int) + 1 := IntWalk.i64_in _ (by omega)
        have s2' : ∀ W : World, (Instr.slice 9 (.string (strOf R)) none (some (.int .i64 ((k : Int) + 1))) none).run Tryz.prog W = .ok (.string (strOf (p ++ [10]))) W := s2
        have s3' : ∀ W : World, (Instr.slice 9 (.string (strOf R)) (some (.int .i64 ((k : Int) + 1))) none none).run Tryz.prog W = .ok (.string (strOf q)) W := s3
        clear s2 s3
        obtain ⟨lab, fn, arg, tgt, fr⟩ := x
        cases hv : vld (⟨lab, fn, arg, tgt, fr⟩ : Ln) with
        | false =>
          rw [hv] at CV hdef
          rw [Bool.false_and] at hdef
          have HBd := Lib.hid (HBad.out hdef)
          clear hv hdef
          go_wp2_with (first
            | (go_at_call 38; (with_reducible refine (CU.out _).mono ?_); rintro e v1 ⟨rfl, rfl⟩)
            | (go_at_call 39; (with_reducible refine (CL1.out _).mono ?_); rintro e v2 ⟨rfl, b2⟩; have B2 := Lib.hid (And.intro (blw HB.out.2.2.2.1 b2) (own_keepB HB.out.2.2.2.2.1 b2)); have X2 := Lib.hid ((boxS_new v2 60 #[.string (strOf lab), .int .u8 (fn : Int), .int .i32 arg, .string (strOf tgt), .string (strOf fr)]).below (bdrew1 (b0 _))); obtain ⟨⟨x0, x1, x2, x3, x4⟩, x5⟩ := box5c X2.out; clear b2))
          first
            | (go_region_law (first
                | (go_simp; go_at_call 27; (with_reducible refine (CV.out _).mono ?_); rintro e v3 ⟨rfl, b3⟩; have B3 := Lib.hid (blw (bdrew1 (b0 _)) b3); have X3 := Lib.hid (X2.out.below b3); obtain ⟨⟨z0, z1, z2, z3, z4⟩, z5⟩ := box5c X3.out; clear b3)))
            | fail
          all_goals
            go_wp2
            go_ret3
            exact givesLN_no rfl (by rw [HB.out.1]; exact HBd.out) (blw (bal B2.out.1 _) B3.out)
        | true =>
          rw [hv] at CV hdef
          rw [Bool.true_and] at hdef
          have CO1 := Lib.hid (CO.out hv)
          have HT := Lib.hid (neqS (one (⟨lab, fn, arg, tgt, fr⟩ : Ln)) (p ++ [10]))
          obtain ⟨qb, hqb⟩ : ∃ qb, okC (p ++ [10]) = qb := ⟨_, rfl⟩
          rw [hqb] at hdef HNx HBad HGC
          have hq := HT.out
          rw [← hdef] at hq
          have hq1 : ((strOf (one (⟨lab, fn, arg, tgt, fr⟩ : Ln))).toList == (strOf (p ++ [10])).toList) = qb := by rw [eqS, hdef]
          have HQ := Lib.hid hqb
          clear hv hdef CO HT hqb
          generalize one (⟨lab, fn, arg, tgt, fr⟩ : Ln) = T at *
          go_wp2_with (first
            | (go_at_call 38; (with_reducible refine (CU.out _).mono ?_); rintro e v1 ⟨rfl, rfl⟩)
            | (go_at_call 39; (with_reducible refine (CL1.out _).mono ?_); rintro e v2 ⟨rfl, b2⟩; have B2 := Lib.hid (And.intro (blw HB.out.2.2.2.1 b2) (own_keepB HB.out.2.2.2.2.1 b2)); have X2 := Lib.hid ((boxS_new v2 60 #[.string (strOf lab), .int .u8 (fn : Int), .int .i32 arg, .string (strOf tgt), .string (strOf fr)]).below (bdrew1 (b0 _))); obtain ⟨⟨x0, x1, x2, x3, x4⟩, x5⟩ := box5c X2.out; clear b2))
          first
            | (go_region_law (first
                | (go_simp; go_at_call 27; (with_reducible refine (CV.out _).mono ?_); rintro e v3 ⟨rfl, b3⟩; have B3 := Lib.hid (blw (bdrew1 (b0 _)) b3); have X3 := Lib.hid (X2.out.below b3); obtain ⟨⟨z0, z1, z2, z3, z4⟩, z5⟩ := box5c X3.out; clear b3)
                | (go_simp; go_at_call 35; (with_reducible refine (CO1.out _).mono ?_); rintro e v4 ⟨rfl, b4⟩; have B4 := Lib.hid (blw B3.out b4); have X4 := Lib.hid (X3.out.below b4); obtain ⟨⟨y0, y1, y2, y3, y4⟩, y5⟩ := box5c X4.out; clear b4)))
            | fail
          cases qb with
          | false =>
            have HBd := Lib.hid (HBad.out rfl)
            clear HBad HNx HGC HQ
            go_wp2
            go_ret3
            exact givesLN_no rfl (by rw [HB.out.1]; exact HBd.out) (blw (bal B2.out.1 _) B4.out)
          | true =>
            have HG1 := Lib.hid (HGC.out rfl)
            have HN1 := Lib.hid (HNx.out rfl)
            clear HBad HNx HGC HQ
            have OK := Lib.hid (own_keepB (own_keepB B2.out.2 (bal (b0 _) (.cells #[.string (strOf lab), .int .u8 (fn : Int), .int .i32 arg, .string (strOf tgt), .string (strOf fr)] 60))) B4.out)
            have BW := Lib.hid (blw (bal B2.out.1 (.cells #[.string (strOf lab), .int .u8 (fn : Int), .int .i32 arg, .string (strOf tgt), .string (strOf fr)] 60)) B4.out)
            go_wp2_with (at_builtin; refine app_lns rfl (.tmp 38) (.tmp 40) rfl w.heap.size m c1 1 1 (m + 1) A1 (some ⟨v4.heap.size, 0, none⟩) (ds.map gC) [⟨lab, fn, arg, tgt, fr⟩] rfl rfl (own_keepB OK.out (bal (b0 v4) _)) rfl (rl_one HX.out (boxS_new v4 _ _)) rfl (by omega) (bal BW.out _).size ?_; intro A2 c2 v5 o5 g5; have H5 := Lib.hid (And.intro (bgrow (bal BW.out _) (own_keepB OK.out (bal (b0 v4) _)) (Nat.le_refl _) g5) o5); clear o5 g5)
            go_roundw
            case rel =>
              refine ⟨q, ds ++ [p ++ [10]], m + 1, A2, c2, rfl, rfl, rfl, hm1, Lib.hid ⟨by simp [HB.out.1], HN1.out, HLen.out.1, H5.out.1, ?_, fun d hd => ?_⟩⟩
              · rw [List.map_append, List.map_cons, List.map_nil, ← HG1.out]
                exact H5.out.2
              · rcases List.mem_append.1 hd with hd | hd
                · exact HB.out.2.2.2.2.2 d hd
                · rw [List.mem_singleton.1 hd]; exact HLen.out.2.2
            case measure =>
              show (strOf q).size < (strOf R).size
              rw [size_strOf q, hz]
              exact HLen.out.2.1
theorem RRead6_any (s : Bs) (hs : s.length ≤ 100000) (w : World) : Calls Tryz.prog 21 #[.string (strOf s)] w (GivesLN w (rdL s) (rdN s) (rdE s)) := RdRef_of rline_any s hs w
end Go.Proofs.YtjdjkdgdbdenpaaGreatDoor
