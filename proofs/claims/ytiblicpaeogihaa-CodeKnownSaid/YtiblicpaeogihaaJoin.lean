/- Instructions are encoded one after the other: by the program. -/
import Derived.Test.YtiblicpaeogihaaInss
namespace Go.Proofs.Ytiblicpaeogihaa
open Go Go.RowKit

def jl (l : List II) : List Nat := l.flatMap fun p => enc p.1 p.2
def av (l : List II) : Bool := l.all fun p => valid p.1
def je (l : List II) : Int := if av l = true then (if 32768 < (jl l).length then 3 else 0) else 2
def jb (l : List II) : List Nat := if je l = 0 then jl l else []
theorem jl_app (l k : List II) : jl (l ++ k) = jl l ++ jl k := by simp [jl]
theorem take_snoc {l : List II} {k : Nat} (h : k < l.length) : l.take (k + 1) = l.take k ++ [l.getD k i0] := by
  rw [List.take_succ_eq_append_getElem h]
  simp [h]
theorem jl_snoc {l : List II} {k : Nat} (h : k < l.length) : jl (l.take (k + 1)) = jl (l.take k) ++ enc (l.getD k i0).1 (l.getD k i0).2 := by
  rw [take_snoc h, jl_app]; simp [jl]
theorem av_snoc {l : List II} {k : Nat} (h : k < l.length) (hv : av (l.take k) = true) (hp : valid (l.getD k i0).1 = true) : av (l.take (k + 1)) = true := by
  rw [take_snoc h]
  unfold av at hv ⊢
  rw [List.all_append, hv, List.all_cons, List.all_nil, hp]
  rfl
theorem av_get {l : List II} (h : av l = true) {k : Nat} (hk : k < l.length) : valid (l.getD k i0).1 = true := by
  have e : l.getD k i0 = l[k] := by simp [hk]
  rw [e]
  exact List.all_eq_true.1 h _ (List.getElem_mem hk)
theorem av_no {l : List II} {k : Nat} (h : k < l.length) (hp : ¬ valid (l.getD k i0).1 = true) : ¬ av l = true := fun hv => hp (av_get hv h)
theorem jl_len {l : List II} (h : OKI l) : (jl l).length ≤ 8 * l.length := by
  induction l with
  | nil => simp [jl]
  | cons p l ih =>
    have h1 := ih (fun q hq => h q (List.mem_cons_of_mem _ hq))
    have h2 := enc_len p.1 (h p List.mem_cons_self).2
    rw [show jl (p :: l) = enc p.1 p.2 ++ jl l from rfl]
    simp; omega
theorem jl_mono {l : List II} (k : Nat) : (jl (l.take k)).length ≤ (jl l).length := by
  conv => rhs; rw [← List.take_append_drop k l, jl_app]
  simp
theorem jl_by {l : List II} (h : av l = true) : BY (jl l) := by
  intro x hx
  simp only [jl, List.mem_flatMap] at hx
  obtain ⟨p, hp, hx⟩ := hx
  exact enc_by (valid_lt (List.all_eq_true.1 h p hp)) x hx
theorem je_bad {l : List II} (h : ¬ av l = true) : je l = 2 := if_neg h
theorem je_long {l : List II} (h : av l = true) (h2 : 32768 < (jl l).length) : je l = 3 := by unfold je; rw [if_pos h, if_pos h2]
theorem je_ok {l : List II} (h : av l = true) (h2 : ¬ 32768 < (jl l).length) : je l = 0 := by unfold je; rw [if_pos h, if_neg h2]
theorem jb_no {l : List II} (h : je l ≠ 0) : jb l = [] := if_neg h
theorem jb_ok {l : List II} (h : je l = 0) : jb l = jl l := if_pos h
theorem Len_no {f : Nat} {v : Int} (hf : ¬ valid f = true) (hv : isW v) (w : World) : Calls Try.prog 13 #[.agg #[.int .u8 (f : Int), .int .i32 v]] w fun e w' => e = .returned (.int .i64 0) ∧ w.grownBy w' none := by
  have C := Len_any f hv w
  rwa [show ln f v = 0 from if_neg hf] at C
set_option maxRecDepth 100000 in
set_option maxHeartbeats 4000000 in
theorem Join_any {A : Option Addr} {c n : Nat} {l : List II} {w : World} (R : RI w A c l) (hn : l.length = n) (hl : n ≤ 100000) : Calls Try.prog 20 #[.slice A n c] w (Gives w (je l) (jb l)) := by
  unfold Gives
  have HR := Lib.hid R
  have HN := Lib.hid hn
  have HJ := Lib.hid (jl_len R.ok)
  have hlI : (n : Int) ≤ 100000 := by omega
  clear R hn
  go_enter Try.func20, Try.ntmps20
  go_wp2
  go_loopw [4, 13] (fun s i wr => ∃ k S : Nat, k ≤ n ∧ i = .int .i64 k ∧ s = .int .i64 S ∧ S ≤ 800000 ∧ Hid (w.grownBy wr none ∧ S = (jl (l.take k)).length ∧ av (l.take k) = true)) (fun _ i _ => n - (intOf i).toNat)
  case atStart => exact ⟨0, 0, by omega, rfl, rfl, by omega, World.grownBy.refl _ _, rfl, rfl⟩
  case round =>
    obtain ⟨k, S, hk, rfl, rfl, hS, H⟩ := hrel
    by_cases hlt : (k : Int) < (n : Int)
    · obtain ⟨ad, rfl, c0, c1⟩ := (HR.out.kept0 H.out.1).rd k (by have := HN.out; omega)
      have hv := (HR.out.ok.get k).2
      have hkl : k < l.length := by have := HN.out; omega
      by_cases hf : valid (l.getD k i0).1 = true
      · have CL := Lib.hid (fun w => Len_is hf hv w)
        have h8 := enc_len (l.getD k i0).1 hv
        have hp := enc_len_pos (l.getD k i0).1 (l.getD k i0).2
        have HS := Lib.hid (show S + (enc (l.getD k i0).1 (l.getD k i0).2).length = (jl (l.take (k + 1))).length by rw [jl_snoc hkl, List.length_append, H.out.2.1])
        have HV := Lib.hid (av_snoc hkl H.out.2.2 hf)
        have HM := Lib.hid (show S + (enc (l.getD k i0).1 (l.getD k i0).2).length ≤ 800000 by have := jl_mono (l := l) (k + 1); have := HJ.out; have := HS.out; have := HN.out; omega)
        generalize (enc (l.getD k i0).1 (l.getD k i0).2).length = L at *
        generalize (l.getD k i0).1 = f at *
        generalize (l.getD k i0).2 = v at *
        have q : ((L : Int) == 0) = false := by simp; omega
        have q2 : ¬ (L : Int) = 0 := by omega
        have hk0 : (0 : Int) ≤ (k : Int) := by omega
        clear hv hf hp hkl
        go_wp2_with (go_at_call 13; (with_reducible refine (CL.out _).mono ?_); rintro e w2 ⟨rfl, g2⟩; have G2 := Lib.hid (g_trans (g_trans H.out.1 (World.grownBy_alloc wr _ none)) g2); clear g2)
        go_roundw
        case rel => exact ⟨k + 1, S + L, by omega, by go_num, by go_num, HM.out, G2.out, HS.out, HV.out⟩
        case measure => simp [intOf]; omega
      · have CL := Lib.hid (fun w => Len_no hf hv w)
        have E := Lib.hid (je_bad (av_no hkl hf))
        have E2 := Lib.hid (jb_no (l := l) (by rw [E.out]; decide))
        generalize (l.getD k i0).1 = f at *
        generalize (l.getD k i0).2 = v at *
        have hk0 : (0 : Int) ≤ (k : Int) := by omega
        clear hv hf hkl
        go_wp2_with (go_at_call 13; (with_reducible refine (CL.out _).mono ?_); rintro e w2 ⟨rfl, g2⟩; have G2 := Lib.hid (g_trans (g_trans H.out.1 (World.grownBy_alloc wr _ none)) g2); clear g2)
        go_ret2
        rw [E.out, E2.out]
        exact ⟨none, 0, rfl, own_nil _ _, G2.out⟩
    · obtain rfl : k = n := by omega
      have ht : l.take k = l := List.take_of_length_le (by have := HN.out; omega)
      rw [ht] at H
      by_cases h3 : (32768 : Int) < (S : Int)
      · have E := Lib.hid (je_long H.out.2.2 (by rw [← H.out.2.1]; omega))
        have E2 := Lib.hid (jb_no (l := l) (by rw [E.out]; decide))
        clear ht
        go_wp2
        go_ret2
        rw [E.out, E2.out]
        exact ⟨none, 0, rfl, own_nil _ _, H.out.1⟩
      · have E := Lib.hid (je_ok H.out.2.2 (by rw [← H.out.2.1]; omega))
        have E2 := Lib.hid (jb_ok E.out)
        clear ht
        have hmk := run_mk S (by omega)
        go_wp2
        have HV := Lib.hid H.out.2.2
        have HW := Lib.hid (And.intro (g_trans H.out.1 (World.grownBy_alloc wr (.cells (zc S) 5) none)) (own_mk wr S w.heap.size H.out.1.size (by omega)))
        have HSZ := Lib.hid H.out.2.1
        clear H hmk
        generalize wr.heap.size = g0 at *
        generalize wr.alloc (.cells (zc S) 5) = W at *
        go_loopw [8, 31] (fun b i wr2 => ∃ k2 S2 : Nat, k2 ≤ k ∧ i = .int .i64 k2 ∧ S2 ≤ 32768 ∧ ∃ A2 c2, b = .slice A2 S2 c2 ∧ Hid ((w.grownBy wr2 none ∧ wr2.ownsRow w.heap.size 5 1 (.slice A2 S2 c2) S2 (bs (jl (l.take k2)))) ∧ S2 = (jl (l.take k2)).length)) (fun _ i _ => k - (intOf i).toNat)
        case atStart => exact ⟨0, 0, by omega, rfl, by omega, _, _, rfl, HW.out, rfl⟩
        case round =>
          obtain ⟨k2, S2, hk2, rfl, hS2, A2, c2, rfl, H2⟩ := hrel
          by_cases hlt : (k2 : Int) < (k : Int)
          · obtain ⟨ad, rfl, c0, c1⟩ := (HR.out.kept0 H2.out.1.1).rd k2 (by have := HN.out; omega)
            have hv := (HR.out.ok.get k2).2
            have hkl : k2 < l.length := by have := HN.out; omega
            have hf := av_get HV.out hkl
            have CE := Lib.hid (fun w1 (g1 : wr.grownBy w1 none) => enc_any (l.getD k2 i0).1 (valid_lt hf) (l.getD k2 i0).2 hv w1 w.heap.size A2 S2 c2 _ (own_keep H2.out.1.2 g1) (by omega) (Nat.le_trans H2.out.1.1.size g1.size))
            unfold Made at CE
            have HM := Lib.hid (show S2 + (enc (l.getD k2 i0).1 (l.getD k2 i0).2).length = (jl (l.take (k2 + 1))).length ∧ S2 + (enc (l.getD k2 i0).1 (l.getD k2 i0).2).length ≤ 32768 by
              have e1 := jl_mono (l := l) (k2 + 1)
              have e2 : (jl (l.take (k2 + 1))).length = S2 + (enc (l.getD k2 i0).1 (l.getD k2 i0).2).length := by rw [jl_snoc hkl, List.length_append, ← H2.out.2]
              have e3 := HSZ.out
              omega)
            rw [← jl_snoc hkl] at CE
            generalize (enc (l.getD k2 i0).1 (l.getD k2 i0).2).length = L at *
            generalize (l.getD k2 i0).1 = f at *
            generalize (l.getD k2 i0).2 = v at *
            have hk0 : (0 : Int) ≤ (k2 : Int) := by omega
            clear hv hf hkl
            go_wp2_with (go_at_call 29; (with_reducible refine (CE.out _ (World.grownBy_alloc wr _ none)).mono ?_); rintro e w5 ⟨g5, c5, rfl, o5, g5', _⟩; have H5 := Lib.hid (own_app (o := none) (g_trans H2.out.1.1 (World.grownBy_alloc wr _ none)) (H2.out.1.2.alloc _) g5' o5); clear o5 g5')
            go_roundw
            case rel => exact ⟨k2 + 1, S2 + L, by omega, by go_num, HM.out.2, _, _, rfl, H5.out, HM.out.1⟩
            case measure => simp [intOf]; omega
          · obtain rfl : k2 = k := by omega
            have ht : l.take k2 = l := List.take_of_length_le (by have := HN.out; omega)
            have HL := Lib.hid ht
            clear ht
            go_wp2
            go_ret2
            rw [E.out, E2.out]
            have h1 := H2.out
            rw [HL.out] at h1
            exact ⟨A2, c2, by rw [h1.2]; rfl, own_of h1.1.2 h1.2, h1.1.1⟩
end Go.Proofs.Ytiblicpaeogihaa
