/- The law on instructions that are decoded from their encodings returns true for every list. -/
import Derived.Test.YtiblicpaeogihaaLawsF
namespace Go.Proofs.Ytiblicpaeogihaa
open Go Go.RowKit

def fxl (l : List II) : List II := l.map fun p => (fx p.1, p.2)
theorem fxl_len (l : List II) : (fxl l).length = l.length := by simp [fxl]
theorem fxl_av (l : List II) : av (fxl l) = true := by
  unfold av fxl
  rw [List.all_map]
  exact List.all_eq_true.2 fun p _ => fx_valid p.1
theorem fxl_ok {l : List II} (h : OKI l) : OKI (fxl l) := by
  intro p hp
  simp only [fxl, List.mem_map] at hp
  obtain ⟨q, hq, rfl⟩ := hp
  exact ⟨by have := valid_lt (fx_valid q.1); show fx q.1 < 256; omega, (h q hq).2⟩
theorem fxl_snoc {l : List II} {k : Nat} (h : k < l.length) : fxl (l.take (k + 1)) = fxl (l.take k) ++ [(fx (l.getD k i0).1, (l.getD k i0).2)] := by
  rw [take_snoc h]; simp [fxl]
/-- What is decoded from the encodings of valid instructions. -/
def gots (l : List II) : List Got := l.map fun p => ⟨p.1, p.2, (enc p.1 p.2).length, 0⟩
theorem items_jl {l : List II} (h : OKI l) (hv : av l = true) : items (jl l) = gots l := by
  induction l with
  | nil => rw [show jl [] = [] from rfl, items_nil]; rfl
  | cons p l ih =>
    have h1 := ih (fun q hq => h q (List.mem_cons_of_mem _ hq)) (by simp only [av, List.all_cons, Bool.and_eq_true] at hv ⊢; exact hv.2)
    have hp : valid p.1 = true := by simp only [av, List.all_cons, Bool.and_eq_true] at hv; exact hv.1
    have hg := get_enc hp (h p List.mem_cons_self).2 (jl l)
    rw [show jl (p :: l) = enc p.1 p.2 ++ jl l from rfl]
    have hne : enc p.1 p.2 ++ jl l ≠ [] := by
      have := enc_len_pos p.1 p.2
      intro e
      have e2 := congrArg List.length e
      simp at e2
      rw [e2.1] at this
      simp at this
    rw [items_ok hne (by rw [hg]), hg, List.drop_left, h1]
    rfl
theorem toI_gots (l : List II) : toI (gots l) = l := by
  simp only [toI, gots, List.map_map]
  exact List.map_id' l
theorem back_je {l : List II} (h : OKI l) (hv : av l = true) (hl : l.length ≤ 4000) : je l = 0 ∧ jb l = jl l := by
  have h1 := jl_len h
  have := je_ok hv (by omega)
  exact ⟨this, jb_ok this⟩
theorem back_ae {l : List II} (h : OKI l) (hv : av l = true) (hl : l.length ≤ 4000) : ae (jl l) = 0 ∧ al (jl l) = l := by
  have h1 := jl_len h
  have e : ae (jl l) = lastE (items (jl l)) := if_neg (by omega)
  have e2 : ae (jl l) = 0 := by
    rw [e, items_jl h hv]
    refine lastE_ok ?_
    intro g hg
    simp only [gots, List.mem_map] at hg
    obtain ⟨p, _, rfl⟩ := hg
    rfl
  exact ⟨e2, by rw [al_ok e2, items_jl h hv, toI_gots]⟩
theorem back_get {l : List II} (h : OKI l) (hv : av l = true) {k : Nat} (hk : k < l.length) : get ((jl l).drop (jl (l.take k)).length) = ⟨(l.getD k i0).1, (l.getD k i0).2, (enc (l.getD k i0).1 (l.getD k i0).2).length, 0⟩ := by
  have e : jl l = jl (l.take k) ++ (enc (l.getD k i0).1 (l.getD k i0).2 ++ jl (l.drop (k + 1))) := by
    conv => lhs; rw [← List.take_append_drop (k + 1) l, jl_app, jl_snoc hk]
    rw [List.append_assoc]
  rw [e, List.drop_left]
  exact get_enc (av_get hv hk) (h.get k).2 _
theorem back_at {l : List II} {k : Nat} (hk : k < l.length) : (jl (l.take (k + 1))).length = (jl (l.take k)).length + (enc (l.getD k i0).1 (l.getD k i0).2).length := by rw [jl_snoc hk, List.length_append]
set_option maxRecDepth 100000 in
set_option maxHeartbeats 8000000 in
theorem back_law {A : Option Addr} {L m c : Nat} {ls : List II} {w : World} (R : RI w A c ls) (hm : ls.length = m) (hL : Cut L m 60) (hc : L ≤ c) :
    Calls Try.prog 6 #[.slice A L c] w fun e w' => e = .returned (.bool true) ∧ w.grownBy w' none := by
  have HR := Lib.hid R
  have HM := Lib.hid hm
  have HB := Lib.hid (show m ≤ 60 by unfold Cut at hL; omega)
  have q1 : (L : Int) ≤ (c : Int) := by omega
  have e60 : max (60 : Int) 0 = 60 := by decide
  have hmx := R.mx
  unfold maxLen at hmx
  clear R hm
  unfold Cut at hL
  obtain ⟨h20, h21⟩ | ⟨h20, h21⟩ := hL
  · subst h21
    go_enter Try.func6, Try.ntmps6
    go_wp2_with (go_at_call 17; (with_reducible refine (works_any _).mono ?_); rintro e w1 ⟨rfl, g1⟩; have G1 := Lib.hid g1; clear g1)
    go_loopw [3, 23] (fun b i wr => ∃ k : Nat, k ≤ m ∧ i = .int .i64 k ∧ ∃ A1 c1, b = .slice A1 k c1 ∧ Hid (w.grownBy wr none ∧ OwnI wr w.heap.size A1 k c1 (fxl (ls.take k)))) (fun _ i _ => m - (intOf i).toNat)
    case atStart => exact ⟨0, by omega, rfl, _, _, rfl, G1.out, ownI_nil _ _⟩
    case round =>
      obtain ⟨k, hk, rfl, A1, c1, rfl, H⟩ := hrel
      by_cases hlt : k < m
      · obtain ⟨ad, rfl, k0, k1⟩ := (HR.out.kept0 H.out.1).rd k (by have := HM.out; omega)
        have HF := Lib.hid (fxl_snoc (l := ls) (k := k) (by have := HM.out; omega))
        have hk60 : k < 60 := by have := HB.out; omega
        generalize (ls.getD k i0).1 = f at *
        generalize (ls.getD k i0).2 = v at *
        have CF := Lib.hid (fun w => fix_any f v w)
        generalize fx f = f' at *
        have hk0 : (0 : Int) ≤ (k : Int) := by omega
        go_wp2_with (first
          | (go_at_call 25; (with_reducible refine (CF.out _).mono ?_); rintro e w2 ⟨rfl, g2⟩; have H2 := Lib.hid (And.intro (g_trans H.out.1 g2) (ownI_keep H.out.2 g2)); clear g2)
          | (at_builtin; refine app_ins rfl (.tmp 26) (.tmp 32) rfl w.heap.size k c1 1 A1 w2.heap.size (fxl (ls.take k)) f' v rfl rfl (World.ownsRow.alloc H2.out.2 _) (cell2_new rfl) (by omega) (by have := H2.out.1.size; simp; omega) ?_; intro g3 c3 w3 o3 g3' _; have H3 := Lib.hid (ownI_app (o := some _) H2.out.1 H2.out.2 g3' o3); clear o3 g3'))
        rw [← HF.out] at H3
        go_roundw
        case rel => exact ⟨k + 1, by omega, by go_num, _, _, rfl, H3.out⟩
        case measure => simp [intOf]; omega
      · obtain rfl : k = m := by omega
        have ht : ls.take k = ls := List.take_of_length_le (by have := HM.out; omega)
        have hf0 := fxl_ok HR.out.ok
        have hf1 := fxl_av ls
        have hf2 := fxl_len ls
        rw [ht] at H
        generalize fxl ls = fs at *
        have hfk : fs.length = k := by have := HM.out; omega
        have hk60 : k ≤ 60 := by have := HB.out; omega
        obtain ⟨j1, j2⟩ := back_je hf0 hf1 (by omega)
        obtain ⟨a1, a2⟩ := back_ae hf0 hf1 (by omega)
        have CJ := Lib.hid (fun (w1 : World) (A1 : Option Addr) (c1 : Nat) (R1 : RI w1 A1 c1 fs) => Join_any R1 hfk (by omega))
        have CA := Lib.hid (fun (w1 : World) (A1 : Option Addr) (c1 : Nat) (R1 : RS w1 A1 c1 (jl fs)) => All_any R1 rfl)
        have HJ := Lib.hid (jl_by hf1)
        have HG := Lib.hid (fun (k2 : Nat) (hk2 : k2 < fs.length) => back_get hf0 hf1 hk2)
        have HT := Lib.hid (fun (k2 : Nat) (hk2 : k2 < fs.length) => back_at (l := fs) hk2)
        have HV := Lib.hid (fun (k2 : Nat) (hk2 : k2 < fs.length) => And.intro (av_get hf1 hk2) (hf0.get k2).2)
        have HU := Lib.hid (fun (k2 : Nat) => jl_mono (l := fs) k2)
        have HL := Lib.hid (jl_len hf0)
        unfold Gives at CJ
        unfold GivesI at CA
        rw [j1, j2] at CJ
        rw [a1, a2, hfk] at CA
        have HF := Lib.hid (And.intro hf0 hfk)
        have H0 := Lib.hid (And.intro H.out.1 (H.out.2.ri hf0))
        have q5 : (jl fs).length ≤ 480 := by have := HL.out; omega
        obtain ⟨N, hN⟩ : ∃ N, N = (jl fs).length := ⟨_, rfl⟩
        rw [← hN] at CJ CA q5
        have HN := Lib.hid hN
        clear H hf0 hf1 hf2 ht j1 j2 a1 a2 HL hN hfk
        go_wp2_with (first
          | (go_at_call 20; (with_reducible refine (CJ.out _ _ _ H0.out.2).mono ?_); rintro e w3 ⟨A3, c3, rfl, o3, g3⟩; have H3 := Lib.hid (And.intro (OwnB.rs o3 HJ.out).1 (And.intro (g_trans H0.out.1 g3) (H0.out.2.kept0 g3))); clear o3 g3)
          | (go_at_call 22; (with_reducible refine (CA.out _ _ _ H3.out.1).mono ?_); rintro e w4 ⟨A4, c4, rfl, o4, g4⟩; have H4 := Lib.hid (And.intro (o4.ri HF.out.1) (And.intro (H3.out.1.kept0 g4) (And.intro (g_trans H3.out.2.1 g4) (H3.out.2.2.kept0 g4)))); clear o4 g4)
          | (go_at_call 24; (with_reducible refine (Same_any H4.out.1 H4.out.2.2.2 HF.out.2).mono ?_); rintro e w5 ⟨rfl, g5⟩; have H5 := Lib.hid (And.intro (H4.out.2.1.kept0 g5) (And.intro (g_trans H4.out.2.2.1 g5) (H4.out.2.2.2.kept0 g5))); clear g5))
        go_loopw [9, 59] (fun T i wr => ∃ k2 T' : Nat, k2 ≤ k ∧ i = .int .i64 k2 ∧ T = .int .i64 T' ∧ T' ≤ N ∧ Hid ((w.grownBy wr none ∧ RI wr A1 c1 fs ∧ RS wr A3 c3 (jl fs)) ∧ T' = (jl (fs.take k2)).length)) (fun _ i _ => k - (intOf i).toNat)
        case atStart => exact ⟨0, 0, by omega, rfl, rfl, by omega, ⟨H5.out.2.1, H5.out.2.2, H5.out.1⟩, rfl⟩
        case round =>
          obtain ⟨k2, T, hk2, rfl, rfl, hTN, H6⟩ := hrel
          by_cases hlt : k2 < k
          · have hkf : k2 < fs.length := by have := HF.out.2; omega
            obtain ⟨ad, rfl, x0, x1⟩ := H6.out.1.2.1.rd k2 hkf
            obtain ⟨V0, V1⟩ := HV.out k2 hkf
            have hg := HG.out k2 hkf
            have hT := HT.out k2 hkf
            have hU := HU.out (k2 + 1)
            rw [← H6.out.2] at hg hT
            rw [hT, ← HN.out] at hU
            have S0 := Lib.hid (fun (w' : World) (g : wr.grownBy w' none) => And.intro (g.cell x0 (by simp)) (g.cell x1 (by simp)))
            have CG := Lib.hid (fun (w6 : World) (A6 : Option Addr) (c6 : Nat) (R6 : RS w6 A6 c6 ((jl fs).drop T)) => Get_is (m := N - T) R6 (by rw [List.length_drop, ← HN.out]) hg)
            have CL := Lib.hid (fun w => Len_is V0 V1 w)
            have hq0 := enc_len_pos (fs.getD k2 i0).1 (fs.getD k2 i0).2
            clear hg V0 V1 x0 x1
            generalize (fs.getD k2 i0).1 = f at *
            generalize (fs.getD k2 i0).2 = v at *
            generalize (enc f v).length = q at *
            have HT2 := Lib.hid hT
            have hc3 : N ≤ c3 := by have := H6.out.1.2.2.le; rw [← HN.out] at this; exact this
            have t1 : ¬ c3 = T := by omega
            have t2 : (0 : Int) ≤ (T : Int) := by omega
            have t3 : (T : Int) ≤ (N : Int) := by omega
            have t4 : (T : Int) ≤ (c3 : Int) := by omega
            have t5 : (0 : Int) ≤ (k2 : Int) := by omega
            have t6 : IntKind.i64.wrap ((T : Int) + (q : Int)) = ((T + q : Nat) : Int) := by rw [IntKind.wrap_i64]; omega
            have hN : ∀ w : World, (binOp .neq 23 (.agg #[.int .u8 (f : Int), .int .i32 v]) (.agg #[.int .u8 (f : Int), .int .i32 v])).run Try.prog w = .ok (.bool false) w := fun w => by rw [neq_iv]; simp
            have hGd : ∀ w : World, (eqGuard .neq 23 (.tmp 73) (.tmp 77) (.agg #[.int .u8 (f : Int), .int .i32 v]) (.agg #[.int .u8 (f : Int), .int .i32 v])).run Try.prog w = .ok () w := fun w => run_eqGuard_agg w .neq _ _ _ _ _ guard_iv
            clear hT hkf
            obtain ⟨i0', i1'⟩ := S0.out wr (World.grownBy.refl _ _)
            go_wp2_with (go_at_call 18; (with_reducible refine (CG.out _ _ _ (H6.out.1.2.2.from_ T)).mono ?_); rintro e w6 ⟨rfl, g6⟩; have G6 := Lib.hid g6; clear g6 i0' i1')
            have gW := g_trans G6.out (World.grownBy_alloc w6 (.cells #[.int .u8 (f : Int), .int .i32 v] 23) none)
            have K := Lib.hid (And.intro gW (heap_alloc_new w6 (.cells #[.int .u8 (f : Int), .int .i32 v] 23) : BoxI _ _ _ _))
            clear gW
            generalize w6.alloc (.cells #[.int .u8 (f : Int), .int .i32 v] 23) = W at *
            generalize w6.heap.size = y at *
            obtain ⟨o0, o1⟩ := S0.out W K.out.1
            obtain ⟨j0, j1⟩ := boxI_cells K.out.2
            go_region_held3 (fun w' => (w'.cell? (ad.add (k2 * 2)) = some (.int .u8 (f : Int)) ∧ w'.cell? ⟨(ad.add (k2 * 2)).block, (ad.add (k2 * 2)).off + 1, none⟩ = some (.int .i32 v)) ∧ (w'.cell? ⟨y, 0, none⟩ = some (.int .u8 (f : Int)) ∧ w'.cell? ⟨y, 1, none⟩ = some (.int .i32 v)))
              (first | (exact ⟨⟨o0, o1⟩, ⟨j0, j1⟩⟩) | (exact ⟨⟨o2, o3⟩, ⟨j2, j3⟩⟩) | go_keep)
              (first | (go_at_call 13; (with_reducible refine (CL.out _).mono ?_); rintro e w7 ⟨rfl, g7⟩; have G8 := g_trans (g_drew (World.grownBy.refl W none) 1) g7; obtain ⟨o2, o3⟩ := S0.out w7 (g_trans K.out.1 G8); obtain ⟨j2, j3⟩ := boxI_cells (boxI_own K.out.2 G8 (fun _ h => nomatch h)); have G7 := Lib.hid (g_trans K.out.1 G8); clear g7 G8))
            all_goals go_wp2
            all_goals
              go_roundw
              case rel => exact ⟨k2 + 1, T + q, by omega, by go_num, by go_num, by omega, ⟨g_trans H6.out.1.1 G7.out, H6.out.1.2.1.kept0 G7.out, H6.out.1.2.2.kept0 G7.out⟩, HT2.out.symm⟩
              case measure => simp [intOf]; omega
          · obtain rfl : k2 = k := by omega
            obtain rfl : T = N := by rw [H6.out.2, HN.out, List.take_of_length_le (by have := HF.out.2; omega)]
            go_wp2
            go_ret
            exact ⟨rfl, H6.out.1.1⟩
  · have H21 := Lib.hid h21
    clear h21
    go_enter Try.func6, Try.ntmps6
    go_wp2_with (go_at_call 17; (with_reducible refine (works_any _).mono ?_); rintro e w1 ⟨rfl, g1⟩; have G1 := Lib.hid g1; clear g1)
    rw [show Value.slice A 60 c = Value.slice A m c by rw [H21.out], show Value.int .i64 60 = Value.int .i64 (m : Int) by rw [H21.out]; rfl]
    go_loopw [3, 23] (fun b i wr => ∃ k : Nat, k ≤ m ∧ i = .int .i64 k ∧ ∃ A1 c1, b = .slice A1 k c1 ∧ Hid (w.grownBy wr none ∧ OwnI wr w.heap.size A1 k c1 (fxl (ls.take k)))) (fun _ i _ => m - (intOf i).toNat)
    case atStart => exact ⟨0, by omega, rfl, _, _, rfl, G1.out, ownI_nil _ _⟩
    case round =>
      obtain ⟨k, hk, rfl, A1, c1, rfl, H⟩ := hrel
      by_cases hlt : k < m
      · obtain ⟨ad, rfl, k0, k1⟩ := (HR.out.kept0 H.out.1).rd k (by have := HM.out; omega)
        have HF := Lib.hid (fxl_snoc (l := ls) (k := k) (by have := HM.out; omega))
        have hk60 : k < 60 := by have := HB.out; omega
        generalize (ls.getD k i0).1 = f at *
        generalize (ls.getD k i0).2 = v at *
        have CF := Lib.hid (fun w => fix_any f v w)
        generalize fx f = f' at *
        have hk0 : (0 : Int) ≤ (k : Int) := by omega
        go_wp2_with (first
          | (go_at_call 25; (with_reducible refine (CF.out _).mono ?_); rintro e w2 ⟨rfl, g2⟩; have H2 := Lib.hid (And.intro (g_trans H.out.1 g2) (ownI_keep H.out.2 g2)); clear g2)
          | (at_builtin; refine app_ins rfl (.tmp 26) (.tmp 32) rfl w.heap.size k c1 1 A1 w2.heap.size (fxl (ls.take k)) f' v rfl rfl (World.ownsRow.alloc H2.out.2 _) (cell2_new rfl) (by omega) (by have := H2.out.1.size; simp; omega) ?_; intro g3 c3 w3 o3 g3' _; have H3 := Lib.hid (ownI_app (o := some _) H2.out.1 H2.out.2 g3' o3); clear o3 g3'))
        rw [← HF.out] at H3
        go_roundw
        case rel => exact ⟨k + 1, by omega, by go_num, _, _, rfl, H3.out⟩
        case measure => simp [intOf]; omega
      · obtain rfl : k = m := by omega
        have ht : ls.take k = ls := List.take_of_length_le (by have := HM.out; omega)
        have hf0 := fxl_ok HR.out.ok
        have hf1 := fxl_av ls
        have hf2 := fxl_len ls
        rw [ht] at H
        generalize fxl ls = fs at *
        have hfk : fs.length = k := by have := HM.out; omega
        have hk60 : k ≤ 60 := by have := HB.out; omega
        obtain ⟨j1, j2⟩ := back_je hf0 hf1 (by omega)
        obtain ⟨a1, a2⟩ := back_ae hf0 hf1 (by omega)
        have CJ := Lib.hid (fun (w1 : World) (A1 : Option Addr) (c1 : Nat) (R1 : RI w1 A1 c1 fs) => Join_any R1 hfk (by omega))
        have CA := Lib.hid (fun (w1 : World) (A1 : Option Addr) (c1 : Nat) (R1 : RS w1 A1 c1 (jl fs)) => All_any R1 rfl)
        have HJ := Lib.hid (jl_by hf1)
        have HG := Lib.hid (fun (k2 : Nat) (hk2 : k2 < fs.length) => back_get hf0 hf1 hk2)
        have HT := Lib.hid (fun (k2 : Nat) (hk2 : k2 < fs.length) => back_at (l := fs) hk2)
        have HV := Lib.hid (fun (k2 : Nat) (hk2 : k2 < fs.length) => And.intro (av_get hf1 hk2) (hf0.get k2).2)
        have HU := Lib.hid (fun (k2 : Nat) => jl_mono (l := fs) k2)
        have HL := Lib.hid (jl_len hf0)
        unfold Gives at CJ
        unfold GivesI at CA
        rw [j1, j2] at CJ
        rw [a1, a2, hfk] at CA
        have HF := Lib.hid (And.intro hf0 hfk)
        have H0 := Lib.hid (And.intro H.out.1 (H.out.2.ri hf0))
        have q5 : (jl fs).length ≤ 480 := by have := HL.out; omega
        obtain ⟨N, hN⟩ : ∃ N, N = (jl fs).length := ⟨_, rfl⟩
        rw [← hN] at CJ CA q5
        have HN := Lib.hid hN
        clear H hf0 hf1 hf2 ht j1 j2 a1 a2 HL hN hfk
        go_wp2_with (first
          | (go_at_call 20; (with_reducible refine (CJ.out _ _ _ H0.out.2).mono ?_); rintro e w3 ⟨A3, c3, rfl, o3, g3⟩; have H3 := Lib.hid (And.intro (OwnB.rs o3 HJ.out).1 (And.intro (g_trans H0.out.1 g3) (H0.out.2.kept0 g3))); clear o3 g3)
          | (go_at_call 22; (with_reducible refine (CA.out _ _ _ H3.out.1).mono ?_); rintro e w4 ⟨A4, c4, rfl, o4, g4⟩; have H4 := Lib.hid (And.intro (o4.ri HF.out.1) (And.intro (H3.out.1.kept0 g4) (And.intro (g_trans H3.out.2.1 g4) (H3.out.2.2.kept0 g4)))); clear o4 g4)
          | (go_at_call 24; (with_reducible refine (Same_any H4.out.1 H4.out.2.2.2 HF.out.2).mono ?_); rintro e w5 ⟨rfl, g5⟩; have H5 := Lib.hid (And.intro (H4.out.2.1.kept0 g5) (And.intro (g_trans H4.out.2.2.1 g5) (H4.out.2.2.2.kept0 g5))); clear g5))
        go_loopw [9, 59] (fun T i wr => ∃ k2 T' : Nat, k2 ≤ k ∧ i = .int .i64 k2 ∧ T = .int .i64 T' ∧ T' ≤ N ∧ Hid ((w.grownBy wr none ∧ RI wr A1 c1 fs ∧ RS wr A3 c3 (jl fs)) ∧ T' = (jl (fs.take k2)).length)) (fun _ i _ => k - (intOf i).toNat)
        case atStart => exact ⟨0, 0, by omega, rfl, rfl, by omega, ⟨H5.out.2.1, H5.out.2.2, H5.out.1⟩, rfl⟩
        case round =>
          obtain ⟨k2, T, hk2, rfl, rfl, hTN, H6⟩ := hrel
          by_cases hlt : k2 < k
          · have hkf : k2 < fs.length := by have := HF.out.2; omega
            obtain ⟨ad, rfl, x0, x1⟩ := H6.out.1.2.1.rd k2 hkf
            obtain ⟨V0, V1⟩ := HV.out k2 hkf
            have hg := HG.out k2 hkf
            have hT := HT.out k2 hkf
            have hU := HU.out (k2 + 1)
            rw [← H6.out.2] at hg hT
            rw [hT, ← HN.out] at hU
            have S0 := Lib.hid (fun (w' : World) (g : wr.grownBy w' none) => And.intro (g.cell x0 (by simp)) (g.cell x1 (by simp)))
            have CG := Lib.hid (fun (w6 : World) (A6 : Option Addr) (c6 : Nat) (R6 : RS w6 A6 c6 ((jl fs).drop T)) => Get_is (m := N - T) R6 (by rw [List.length_drop, ← HN.out]) hg)
            have CL := Lib.hid (fun w => Len_is V0 V1 w)
            have hq0 := enc_len_pos (fs.getD k2 i0).1 (fs.getD k2 i0).2
            clear hg V0 V1 x0 x1
            generalize (fs.getD k2 i0).1 = f at *
            generalize (fs.getD k2 i0).2 = v at *
            generalize (enc f v).length = q at *
            have HT2 := Lib.hid hT
            have hc3 : N ≤ c3 := by have := H6.out.1.2.2.le; rw [← HN.out] at this; exact this
            have t1 : ¬ c3 = T := by omega
            have t2 : (0 : Int) ≤ (T : Int) := by omega
            have t3 : (T : Int) ≤ (N : Int) := by omega
            have t4 : (T : Int) ≤ (c3 : Int) := by omega
            have t5 : (0 : Int) ≤ (k2 : Int) := by omega
            have t6 : IntKind.i64.wrap ((T : Int) + (q : Int)) = ((T + q : Nat) : Int) := by rw [IntKind.wrap_i64]; omega
            have hN : ∀ w : World, (binOp .neq 23 (.agg #[.int .u8 (f : Int), .int .i32 v]) (.agg #[.int .u8 (f : Int), .int .i32 v])).run Try.prog w = .ok (.bool false) w := fun w => by rw [neq_iv]; simp
            have hGd : ∀ w : World, (eqGuard .neq 23 (.tmp 73) (.tmp 77) (.agg #[.int .u8 (f : Int), .int .i32 v]) (.agg #[.int .u8 (f : Int), .int .i32 v])).run Try.prog w = .ok () w := fun w => run_eqGuard_agg w .neq _ _ _ _ _ guard_iv
            clear hT hkf
            obtain ⟨i0', i1'⟩ := S0.out wr (World.grownBy.refl _ _)
            go_wp2_with (go_at_call 18; (with_reducible refine (CG.out _ _ _ (H6.out.1.2.2.from_ T)).mono ?_); rintro e w6 ⟨rfl, g6⟩; have G6 := Lib.hid g6; clear g6 i0' i1')
            have gW := g_trans G6.out (World.grownBy_alloc w6 (.cells #[.int .u8 (f : Int), .int .i32 v] 23) none)
            have K := Lib.hid (And.intro gW (heap_alloc_new w6 (.cells #[.int .u8 (f : Int), .int .i32 v] 23) : BoxI _ _ _ _))
            clear gW
            generalize w6.alloc (.cells #[.int .u8 (f : Int), .int .i32 v] 23) = W at *
            generalize w6.heap.size = y at *
            obtain ⟨o0, o1⟩ := S0.out W K.out.1
            obtain ⟨j0, j1⟩ := boxI_cells K.out.2
            go_region_held3 (fun w' => (w'.cell? (ad.add (k2 * 2)) = some (.int .u8 (f : Int)) ∧ w'.cell? ⟨(ad.add (k2 * 2)).block, (ad.add (k2 * 2)).off + 1, none⟩ = some (.int .i32 v)) ∧ (w'.cell? ⟨y, 0, none⟩ = some (.int .u8 (f : Int)) ∧ w'.cell? ⟨y, 1, none⟩ = some (.int .i32 v)))
              (first | (exact ⟨⟨o0, o1⟩, ⟨j0, j1⟩⟩) | (exact ⟨⟨o2, o3⟩, ⟨j2, j3⟩⟩) | go_keep)
              (first | (go_at_call 13; (with_reducible refine (CL.out _).mono ?_); rintro e w7 ⟨rfl, g7⟩; have G8 := g_trans (g_drew (World.grownBy.refl W none) 1) g7; obtain ⟨o2, o3⟩ := S0.out w7 (g_trans K.out.1 G8); obtain ⟨j2, j3⟩ := boxI_cells (boxI_own K.out.2 G8 (fun _ h => nomatch h)); have G7 := Lib.hid (g_trans K.out.1 G8); clear g7 G8))
            all_goals go_wp2
            all_goals
              go_roundw
              case rel => exact ⟨k2 + 1, T + q, by omega, by go_num, by go_num, by omega, ⟨g_trans H6.out.1.1 G7.out, H6.out.1.2.1.kept0 G7.out, H6.out.1.2.2.kept0 G7.out⟩, HT2.out.symm⟩
              case measure => simp [intOf]; omega
          · obtain rfl : k2 = k := by omega
            obtain rfl : T = N := by rw [H6.out.2, HN.out, List.take_of_length_le (by have := HF.out.2; omega)]
            go_wp2
            go_ret
            exact ⟨rfl, H6.out.1.1⟩
theorem walkCodeBack (a0 : Option Addr) (len0 cap0 : Nat) (w : World) (w0 : IsL w a0 len0 cap0) :
    Calls Try.prog 6 #[.slice a0 len0 cap0] w fun e w' => e = .returned (.bool true) ∧ Below w.heap.size w w' := by
  obtain ⟨ls, rfl, R⟩ := ins_of_is w0
  exact (back_law (R.take 60) (cut_is 60).symm (cut_of _ _) w0.2.1).mono fun _ _ ⟨he, hg⟩ => ⟨he, g_below0 hg⟩
end Go.Proofs.Ytiblicpaeogihaa
