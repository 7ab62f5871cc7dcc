/- What the rows list is what the walks lean on. -/
import Derived.Lib.LaidTab
import Derived.Stop.LaidErr
import Derived.LaidMore
import Derived.Shelf.LaysM
import Derived.Deep.QuietTactic
import Derived.BigQuiet
import Derived.Test.YtjdjkdgdbdenpaaDoorM33
import Derived.Test.YtjdjkdgdbdenpaaDoorRows
import Derived.Test.YtjdjkdgdbdenpaaDoorM14
set_option linter.unusedVariables false
set_option linter.unusedSimpArgs false
namespace Go.Proofs.YtjdjkdgdbdenpaaDoor
open Go Go.RowKit

theorem laidF {H : Type} : (Rows.laid_transputer_instr_functions : DataW H) = .agg (fnT.map fun r => .agg [.lit (.string r.1), .lit (.int .i64 r.2.1), .lit (.int .i64 r.2.2)]) := by kernel_rfl
theorem laidO {H : Type} : (Rows.laid_transputer_instr_operationNames : DataW H) = .agg ((opT.map (·.1)).map fun l => .lit (.string l)) := by kernel_rfl
theorem tF : (Tryd.prog.globals[0]?).map (·.type) = some 125 := by kernel_rfl
theorem tO : (Tryd.prog.globals[1]?).map (·.type) = some 126 := by kernel_rfl
theorem ft_of {W : World} {rest : List (String × DataW Unit)} (h : laidMet Tryd.prog (("transputer/instr.functions", Rows.laid_transputer_instr_functions) :: rest) W) : FT W := by
  obtain ⟨ps, ⟨g', t', cs, fuel, p, q, hg', ht', hvar, hd, _, _⟩, _⟩ := h
  obtain rfl := Option.some.inj (gF.symm.trans hg')
  obtain rfl := Option.some.inj (tF.symm.trans ht')
  rw [laidF] at hd
  have hc := cells_of_rows (by kernel_rfl) (by kernel_rfl) (by kernel_rfl) (by kernel_rfl) hd
  unfold FT
  rw [hvar, ← hc]
theorem ot_of {W : World} {rest : List (String × DataW Unit)} (h : laidMet Tryd.prog (("transputer/instr.operationNames", Rows.laid_transputer_instr_operationNames) :: rest) W) : OT W := by
  obtain ⟨ps, ⟨g', t', cs, fuel, p, q, hg', ht', hvar, hd, _, _⟩, _⟩ := h
  obtain rfl := Option.some.inj (gO.symm.trans hg')
  obtain rfl := Option.some.inj (tO.symm.trans ht')
  rw [laidO] at hd
  have hc := cells_of_strs Tryd.underlying126 Tryd.underlying9 (by kernel_rfl) (by kernel_rfl) hd
  unfold OT
  rw [hvar]
  have : cs.toList = opT.map fun r => Value.string (strOf r.1) := by rw [hc, List.map_map]; rfl
  rw [← this]
theorem gTab : Tryd.prog.globalNamed "internal/strconv.uint64pow10" = some 3 := by kernel_rfl
theorem gTabType : (Tryd.prog.globals[3]?).map (·.type) = some 155 := by kernel_rfl
theorem cellsTab : Tryd.prog.cellsOf 155 = 20 := by kernel_rfl
theorem cellsNum : Tryd.prog.cellsOf 148 = 1 := by kernel_rfl
theorem tab_of {W : World} {rest : List (String × DataW Unit)} (h : laidMet Tryd.prog (("internal/strconv.uint64pow10", Rows.laid_internal_strconv_uint64pow10) :: rest) W) : Tab W :=
  Lib.tabIs_of_head (zs := Lib.pow10Tab) (rest := rest) gTab gTabType Tryd.underlying155 Tryd.underlying148 cellsNum cellsTab h
theorem table_a {W : World} (h : laidMet Tryd.prog [("math/bits.deBruijn32tab", Rows.laid_math_bits_deBruijn32tab), ("math/bits.deBruijn64tab", Rows.laid_math_bits_deBruijn64tab), ("internal/strconv.uint64pow10", Rows.laid_internal_strconv_uint64pow10), ("transputer/instr.functions", Rows.laid_transputer_instr_functions), ("transputer/instr.operationNames", Rows.laid_transputer_instr_operationNames)] W) : Good W :=
  ⟨⟨ft_of h.tail.tail.tail, ot_of h.tail.tail.tail.tail⟩, tab_of h.tail.tail⟩
theorem max_of_shape {w : World} (h : w.ShapedOpen Tryd.prog) : MaxIs w :=
  Go.Proofs.cell_of_shapedOpen_int (zero := #[.int .i64 0]) (t := 3) h (of_decide_eq_true (by kernel_rfl)) (by kernel_rfl) rfl (by kernel_rfl) (by kernel_rfl) Tryd.underlying3
end Go.Proofs.YtjdjkdgdbdenpaaDoor
/- The law on the least lengths: the walk. -/
namespace Go.Proofs.YtjdjkdgdbdenpaaDoor
open Go Go.RowKit

/-- The other lengths that the law tries. -/
def oth (zs : List Nat) (i : Nat) : Nat := 1 + zs.getD i 0 % 9
def oths (zs : List Nat) (n : Nat) : List Nat := (List.range n).map (oth zs)
theorem oths_len (zs : List Nat) (n : Nat) : (oths zs n).length = n := by simp [oths]
theorem oths_at (zs : List Nat) {n i : Nat} (h : i < n) : (oths zs n).getD i 0 = oth zs i := by simp [oths, h]
theorem oths_le (zs : List Nat) (n j : Nat) : (oths zs n).getD j 0 ≤ 9 := by
  by_cases h : j < n
  · rw [oths_at zs h]; unfold oth; omega
  · have : (oths zs n).getD j 0 = 0 := by simp [oths, h]
    omega
theorem oths_snoc (zs : List Nat) {n k : Nat} (h : k < n) : (oths zs n).take (k + 1) = (oths zs n).take k ++ [oth zs k] := by
  have hl : k < (oths zs n).length := by rw [oths_len]; exact h
  rw [List.take_succ_eq_append_getElem hl]
  have e := oths_at zs h
  simp only [List.getD_eq_getElem?_getD, List.getElem?_eq_getElem hl, Option.getD_some] at e
  rw [e]
theorem suff_of {ls : List Ln} {ms : List Nat} (hl : ms.length = ls.length) (h : ∀ j, j < ls.length → (need ls ms).getD j 0 ≤ ms.getD j 0) : Suff ls ms :=
  ⟨hl, by rw [need_len, hl], fun i => by
    by_cases hi : i < ls.length
    · exact h i hi
    · rw [need_out ls ms hi]; exact Nat.zero_le _⟩
theorem cell_newv {w : World} {a b : Int} {t : TypeId} {k : Nat} (h : k = w.heap.size) (e : b = a) : (w.alloc (.cells #[.int .i64 a] t)).cell? ⟨k, 0, none⟩ = some (.int .i64 b) := by
  subst e
  exact cell_new0 h
theorem same_nsq {W : World} {A B : Option Addr} {c d m n : Nat} {ns : List Nat} (R : RN W A c ns) (S : RN W B d ns) (hm : ns.length = m) (hn : ns.length = n) : Calls Tryd.prog 9 #[.slice A m c, .slice B n d] W fun e W' => e = .returned (.bool true) ∧ Below W.heap.size W W' := by
  have C := RSameInts_any R S hm hn
  rwa [decide_eq_true rfl] at C
set_option maxRecDepth 100000 in
set_option maxHeartbeats 16000000 in
theorem least_ok {A B : Option Addr} {c d m q : Nat} {ls : List Ln} {ys : List Nat} {w : World} (R : RL w A c ls) (hA : ∀ ad, A = some ad → 0 < ls.length → ad.block < w.heap.size) (hm : ls.length = m) (S : C4.RS w B d ys) (hq : ys.length = q) (h60 : m ≤ 60) (hc : chk ls = 0) (hg : Good6 w) :
    Calls Tryd.prog 3 #[.slice A m c, .slice B q d] w fun e w' => e = .returned (.bool true) ∧ Below w.heap.size w w' := by
  have HG := Lib.hid hg
  have HR := Lib.hid (And.intro R hm)
  have HS := Lib.hid (And.intro S hq)
  have hqm : q ≤ maxLen := by rw [← hq]; exact Nat.le_trans S.le S.mx
  unfold maxLen at hqm
  have F := Lib.hid (fit_of hc R.ok (by omega))
  have HL := Lib.hid (lens_low F.out)
  have HF := Lib.hid (lens_least F.out)
  have hlen : (lens ls).length = m := by rw [HL.out.len, hm]
  have HN := Lib.hid hlen
  have CH := Lib.hid (fun (W : World) (b : Below w.heap.size w W) => head_any W (HG.out.below b))
  have C1 := Lib.hid ((Lengths_any R hA hm (by omega) hg.1.1).mono (R' := fun e W' => ∃ A' c', e = .returned (.tuple #[.slice A' m c', .int .i64 0]) ∧ RN W' A' c' (lens ls) ∧ Below w.heap.size w W') (fun e W' h => by
    unfold GivesNE at h
    rw [lenR_ok hc, hc, hlen] at h
    obtain ⟨A', c', h1, h2, h3⟩ := h
    exact ⟨A', c', h1, h2.rn, h3⟩))
  have CN := Lib.hid (fun (ns : List Nat) (hl : ns.length = m) (h9 : ∀ j, ns.getD j 0 ≤ 9) (W : World) (b : Below w.heap.size w W) (A' : Option Addr) (c' : Nat) (T : RN W A' c' ns) =>
    (RNeed_any (R.keep b) T hm hl (by omega) (fun j => Nat.le_trans (h9 j) (by omega)) (refs_of hc) (fun i hi => opd_word F.out (b := 9) (by omega) h9 (by omega))).mono (R' := fun e W' => ∃ A c, e = .returned (.slice A m c) ∧ RN W' A c (need ls ns) ∧ Below W.heap.size W W') (fun e W' h => by
      unfold GivesN at h
      rw [need_len, hm] at h
      obtain ⟨A', c', h1, h2, h3⟩ := h
      exact ⟨A', c', h1, h2.rn, h3⟩))
  have t60 : decide ((60 : Int) < (m : Int)) = false := by simp; omega
  clear R hA hm S hq hc hg hlen
  go_enter Tryd.func3, Tryd.ntmps3
  go_wp2_with (first
    | (go_at_call 8; (with_reducible refine C1.out.mono ?_); rintro e v1 ⟨A1, c1, rfl, r1, b1⟩; have H1 := Lib.hid (And.intro b1 r1); clear r1 b1))
  go_loop [7] (fun i => ∃ k : Nat, k ≤ m ∧ i = .int .i64 k) (fun i => m - (intOf i).toNat)
  case atStart => exact ⟨0, Nat.zero_le _, rfl⟩
  case round =>
    obtain ⟨k, hk, rfl⟩ := hrel
    by_cases hlt : (k : Int) < (m : Int)
    · obtain ⟨ad, rfl, c0⟩ := H1.out.2.rd k (by have := HN.out; omega)
      have h8 := HL.out.le8 k
      have h1 := HL.out.ge1 k (by have := HR.out.2; omega)
      generalize (lens ls).getD k 0 = v at *
      have q1 : ¬ (v : Int) < 1 := by omega
      have q2 : ¬ (8 : Int) < (v : Int) := by omega
      have hk0 : (0 : Int) ≤ (k : Int) := by omega
      go_wp2
      go_round
      case rel => exact ⟨k + 1, by omega, by go_num⟩
      case measure => simp [intOf]; omega
    · obtain rfl : k = m := by omega
      have C2 := Lib.hid (CN.out (lens ls) HN.out (fun j => Nat.le_trans (HL.out.le8 j) (by omega)) v1 H1.out.1 A1 c1 H1.out.2)
      rw [HF.out.fix] at C2
      go_wp2_with (first
        | (go_at_call 10; (with_reducible refine C2.out.mono ?_); rintro e v2 ⟨A2, c2, rfl, r2, b2⟩; have H2 := Lib.hid (And.intro (blw H1.out.1 b2) (And.intro (H1.out.2.keep b2) r2)); clear r2 b2)
        | (go_at_call 9; (with_reducible refine (same_nsq H2.out.2.1 H2.out.2.2 HN.out HN.out).mono ?_); rintro e v3 ⟨rfl, b3⟩; have H3 := Lib.hid (And.intro (blw H2.out.1 b3) (H2.out.2.1.keep b3)); clear b3 H2))
      clear C1 C2 H1
      have HS3 := Lib.hid (C4.RS.kept0 HS.out.1 (g_of_below H3.out.1))
      go_loopw [8, 9, 10] (fun b i _ wr => ∃ j : Nat, j ≤ k ∧ i = .int .i64 j ∧ ∃ A4 c4, b = .slice A4 j c4 ∧ Hid (Below v3.heap.size v3 wr ∧ OwnN wr v3.heap.size A4 j c4 ((oths ys k).take j))) (fun _ i _ _ => k - (intOf i).toNat)
      case atStart => exact ⟨0, Nat.zero_le _, rfl, _, _, rfl, Lib.hid ⟨b0 v3, ownN_nil _ _⟩⟩
      case round =>
        obtain ⟨j, hj, rfl, A4, c4, rfl, H⟩ := hrel
        by_cases hlj : (j : Int) < (k : Int)
        · have HT := Lib.hid (oths_snoc ys (n := k) (k := j) (by omega))
          have hj0 : (0 : Int) ≤ (j : Int) := by omega
          by_cases hjq : (j : Int) < (q : Int)
          · obtain ⟨ad, rfl, c0⟩ := (C4.RS.kept0 HS3.out (g_of_below H.out.1)).rd j (by have := HS.out.2; omega)
            unfold C4.bc at c0
            have HV := Lib.hid (show ((oth ys j : Nat) : Int) = 1 + ((ys.getD j 0 : Nat) : Int) % 9 by unfold oth; omega)
            generalize oth ys j = L at *
            generalize ys.getD j 0 = z at *
            go_wp2_with (at_builtin; refine app_num (v := L) rfl (.tmp 76) (.tmp 79) rfl v3.heap.size j c4 1 wr.heap.size A4 ((oths ys k).take j) rfl rfl (own_keepB H.out.2 (bal (b0 wr) _)) (cell_newv rfl HV.out) (by omega) (bal H.out.1 _).size ?_; intro A5 c5 w3 o3 g3; have H5 := Lib.hid (And.intro (bgrow (bal H.out.1 _) (own_keepB H.out.2 (bal (b0 wr) _)) (Nat.le_refl _) g3) o3); clear o3 g3)
            rw [← HT.out] at H5
            go_roundw
            case rel => exact ⟨j + 1, by omega, by go_num, _, _, rfl, H5⟩
            case measure => simp [intOf]; omega
          · have HV := Lib.hid (show ((oth ys j : Nat) : Int) = 1 by
              have e : ys.getD j 0 = 0 := by simp [List.getElem?_eq_none (show ys.length ≤ j by have := HS.out.2; omega)]
              unfold oth
              rw [e]
              rfl)
            generalize oth ys j = L at *
            go_wp2_with (at_builtin; refine app_num (v := L) rfl (.tmp 76) (.tmp 79) rfl v3.heap.size j c4 1 wr.heap.size A4 ((oths ys k).take j) rfl rfl (own_keepB H.out.2 (bal (b0 wr) _)) (cell_newv rfl HV.out) (by omega) (bal H.out.1 _).size ?_; intro A5 c5 w3 o3 g3; have H5 := Lib.hid (And.intro (bgrow (bal H.out.1 _) (own_keepB H.out.2 (bal (b0 wr) _)) (Nat.le_refl _) g3) o3); clear o3 g3)
            rw [← HT.out] at H5
            go_roundw
            case rel => exact ⟨j + 1, by omega, by go_num, _, _, rfl, H5⟩
            case measure => simp [intOf]; omega
        · obtain rfl : j = k := by omega
          have ht : (oths ys j).take j = oths ys j := List.take_of_length_le (by rw [oths_len]; exact Nat.le_refl _)
          rw [ht] at H
          clear ht
          have H4 := Lib.hid (And.intro (H3.out.1.trans (H.out.1.mono H3.out.1.size)) (And.intro (H3.out.2.keep H.out.1) (OwnN.rn H.out.2)))
          have C5 := Lib.hid (CN.out (oths ys j) (oths_len ys j) (oths_le ys j) wr H4.out.1 A4 c4 H4.out.2.2)
          clear H H3 HS3 CN
          go_wp2_with (first
            | (go_at_call 10; (with_reducible refine C5.out.mono ?_); rintro e v5 ⟨A5, c5, rfl, r5, b5⟩; have H5 := Lib.hid (And.intro (blw H4.out.1 b5) (And.intro (H4.out.2.1.keep b5) (And.intro (H4.out.2.2.keep b5) r5))); clear r5 b5))
          go_loopw [12] (fun i wr => ∃ p : Nat, p ≤ j ∧ i = .int .i64 p ∧ Hid (Below v5.heap.size v5 wr ∧ ∀ x, x < p → (need ls (oths ys j)).getD x 0 ≤ (oths ys j).getD x 0)) (fun i _ => j - (intOf i).toNat)
          case atStart => exact ⟨0, Nat.zero_le _, rfl, Lib.hid ⟨b0 v5, fun x hx => absurd hx (by omega)⟩⟩
          case round =>
            obtain ⟨p, hp, rfl, H⟩ := hrel
            by_cases hlp : (p : Int) < (j : Int)
            · obtain ⟨a1, rfl, k1⟩ := (H5.out.2.2.2.keep H.out.1).rd p (by rw [need_len]; have := HR.out.2; omega)
              obtain ⟨a2, rfl, k2⟩ := (H5.out.2.2.1.keep H.out.1).rd p (by rw [oths_len]; omega)
              have hp0 : (0 : Int) ≤ (p : Int) := by omega
              have HX := Lib.hid (fun (h : (need ls (oths ys j)).getD p 0 ≤ (oths ys j).getD p 0) (x : Nat) (hx : x < p + 1) => show (need ls (oths ys j)).getD x 0 ≤ (oths ys j).getD x 0 by
                by_cases hxp : x < p
                · exact H.out.2 x hxp
                · rw [show x = p by omega]; exact h)
              have HB := Lib.hid H.out.1
              have HW := Lib.hid (blw H5.out.1 H.out.1)
              clear H
              by_cases hgt : (((oths ys j).getD p 0 : Nat) : Int) < (((need ls (oths ys j)).getD p 0 : Nat) : Int)
              · clear HX
                generalize (oths ys j).getD p 0 = u1 at *
                generalize (need ls (oths ys j)).getD p 0 = u2 at *
                go_wp2
                go_quiet (fail)
                have HD := Lib.hid (bdrew HW.out nq)
                generalize wr.drewN nq = W at *
                go_wp2_with (go_at_call 7; (with_reducible refine (CH.out _ HD.out).mono ?_); rintro e v9 ⟨rfl, b9⟩; have B9 := Lib.hid (blw HD.out b9); clear b9)
                go_ret
                exact ⟨rfl, B9.out⟩
              · have HX1 := Lib.hid (HX.out (by omega))
                clear HX
                generalize (oths ys j).getD p 0 = u1 at *
                generalize (need ls (oths ys j)).getD p 0 = u2 at *
                go_wp2
                go_quiet (fail)
                have HD := Lib.hid (bdrew HB.out nq)
                generalize wr.drewN nq = W at *
                go_wp2
                go_roundw
                case rel => exact ⟨p + 1, by omega, by go_num, Lib.hid ⟨HD.out, HX1.out⟩⟩
                case measure => simp [intOf]; omega
            · obtain rfl : p = j := by omega
              have HLe := Lib.hid (HF.out.min _ (suff_of (by rw [oths_len, HR.out.2]) (fun x hx => H.out.2 x (by have := HR.out.2; omega))))
              have H6 := Lib.hid (And.intro (blw H5.out.1 H.out.1) (And.intro (H5.out.2.1.keep H.out.1) (H5.out.2.2.1.keep H.out.1)))
              clear H H5 H4
              go_wp2
              go_loopw [13] (fun i wq => ∃ y : Nat, y ≤ p ∧ i = .int .i64 y ∧ Hid (Below wr.heap.size wr wq)) (fun i _ => p - (intOf i).toNat)
              case atStart => exact ⟨0, Nat.zero_le _, rfl, Lib.hid (b0 wr)⟩
              case round =>
                obtain ⟨y, hy, rfl, H⟩ := hrel
                by_cases hly : (y : Int) < (p : Int)
                · obtain ⟨a1, rfl, k1⟩ := (H6.out.2.1.keep H.out).rd y (by have := HN.out; omega)
                  obtain ⟨a2, rfl, k2⟩ := (H6.out.2.2.keep H.out).rd y (by rw [oths_len]; omega)
                  have hy0 : (0 : Int) ≤ (y : Int) := by omega
                  have hle := HLe.out.2 y
                  have hgt : ¬ (((oths ys p).getD y 0 : Nat) : Int) < (((lens ls).getD y 0 : Nat) : Int) := by omega
                  clear hle
                  generalize (oths ys p).getD y 0 = u1 at *
                  generalize (lens ls).getD y 0 = u2 at *
                  go_wp2
                  go_quiet (fail)
                  have HD := Lib.hid (bdrew H.out nq)
                  generalize wr.drewN nq = W at *
                  go_wp2
                  go_roundw
                  case rel => exact ⟨y + 1, by omega, by go_num, HD⟩
                  case measure => simp [intOf]; omega
                · obtain rfl : y = p := by omega
                  have HW := Lib.hid (blw H6.out.1 H.out)
                  go_wp2_with (go_at_call 7; (with_reducible refine (CH.out _ HW.out).mono ?_); rintro e v9 ⟨rfl, b9⟩; have B9 := Lib.hid (blw HW.out b9); clear b9)
                  go_ret
                  exact ⟨rfl, B9.out⟩
end Go.Proofs.YtjdjkdgdbdenpaaDoor
/- Lines that get their operands as numbers: plain Lean, and the stores. -/
namespace Go.Proofs.YtjdjkdgdbdenpaaDoor
open Go Go.RowKit

/-! ### Lines with numbers for operands -/
def num1 (ls : List Ln) (i : Nat) : Ln := ⟨(ls.getD i l0).lab, (ls.getD i l0).fn, opd ls (lens ls) i, [], []⟩
def nbrs (ls : List Ln) : List Ln := (List.range ls.length).map (num1 ls)
theorem nbrs_len (ls : List Ln) : (nbrs ls).length = ls.length := by simp [nbrs]
theorem nbrs_at (ls : List Ln) {i : Nat} (h : i < ls.length) : (nbrs ls).getD i l0 = num1 ls i := by simp [nbrs, h]
theorem ln_eq {a b : List Ln} (hl : a.length = b.length) (h : ∀ i, i < a.length → (a.getD i l0).lab = (b.getD i l0).lab) (n : Bs) : fnd a n = fnd b n := by
  cases hb : fnd b n with
  | none =>
    have := fnd_none hb
    exact fnd_miss (fun j hj => by rw [h j hj]; exact this j (by omega))
  | some k =>
    obtain ⟨h1, h2, h3⟩ := fnd_some hb
    exact fnd_hit (by omega) (fun j hj => by rw [h j (by omega)]; exact h3 j hj) (by rw [h k (by omega)]; exact h2)
theorem chk_parts {ls : List Ln} (h : chk ls = 0) : ls.all vld = true ∧ (List.range ls.length).all (lineOk ls) = true := by
  unfold chk at h
  split at h
  · rename_i h1
    split at h
    · rename_i h2; exact ⟨h1, h2⟩
    · cases h
  · cases h
theorem chk_back {ls : List Ln} (h1 : ls.all vld = true) (h2 : (List.range ls.length).all (lineOk ls) = true) : chk ls = 0 := by
  unfold chk
  rw [if_pos h1, if_pos h2]
theorem all_at {ls : List Ln} (h : ∀ i, i < ls.length → vld (ls.getD i l0) = true) : ls.all vld = true := by
  rw [List.all_eq_true]
  intro x hx
  obtain ⟨i, hi, rfl⟩ := List.getElem_of_mem hx
  have := h i hi
  have e : ls.getD i l0 = ls[i] := by simp [hi]
  rwa [e] at this
theorem nbrs_vld {ls : List Ln} (h : ls.all vld = true) {i : Nat} (hi : i < ls.length) : vld (num1 ls i) = true := by
  have hv := all_get h hi
  have hx := vld_valid hv
  unfold num1 opd
  unfold vld at hv ⊢
  simp only [Bool.and_eq_true] at hv ⊢
  obtain ⟨h1, h2⟩ := hv
  refine ⟨h1, ?_⟩
  simp only [List.isEmpty_nil, if_true, Bool.true_and]
  split at h2
  · rename_i ht
    simp only [Bool.and_eq_true] at h2
    rw [if_pos ht]
    exact h2.2
  · rename_i ht
    simp only [Bool.and_eq_true, decide_eq_true_eq] at h2
    exact ex_of_valid hx h2.2 _
theorem nbrs_chk {ls : List Ln} (h : chk ls = 0) : chk (nbrs ls) = 0 := by
  obtain ⟨h1, h2⟩ := chk_parts h
  refine chk_back (all_at fun i hi => ?_) ?_
  · rw [nbrs_len] at hi
    rw [nbrs_at ls hi]
    exact nbrs_vld h1 hi
  · rw [List.all_eq_true] at h2 ⊢
    intro i hi
    rw [List.mem_range, nbrs_len] at hi
    have := h2 i (List.mem_range.2 hi)
    have hf : ∀ n, fnd (nbrs ls) n = fnd ls n := ln_eq (nbrs_len ls) (fun j hj => by rw [nbrs_len] at hj; rw [nbrs_at ls hj]; rfl)
    unfold lineOk at this ⊢
    simp only [Bool.and_eq_true] at this
    rw [nbrs_at ls hi, hf]
    show (((ls.getD i l0).lab.isEmpty || decide (fnd ls (ls.getD i l0).lab = some i)) && (true || _) && (true || _)) = true
    rw [this.1.1]
    rfl
theorem nbrs_okl {ls : List Ln} (F : Fit ls) (ok : OKL ls) : OKL (nbrs ls) := by
  intro x hx
  obtain ⟨i, hi, rfl⟩ := List.mem_map.1 hx
  rw [List.mem_range] at hi
  have := ok.get i
  exact ⟨this.fn, opd_word F (b := 8) (by omega) (lens_low F).le8 hi, this.lab, by simp [num1, maxLen], by simp [num1, maxLen]⟩
theorem nbrs_opd (ls : List Ln) (ns : List Nat) {i : Nat} (h : i < ls.length) : opd (nbrs ls) ns i = opd ls (lens ls) i := by
  have e : opd (nbrs ls) ns i = (num1 ls i).arg := by
    unfold opd
    rw [nbrs_at ls h]
    rfl
  rw [e]
  rfl
theorem nbrs_need {ls : List Ln} (F : Fit ls) (ns : List Nat) : need (nbrs ls) ns = lens ls := by
  have hL := lens_least F
  refine list_ext (by rw [need_len, nbrs_len, hL.len]) (fun i => ?_)
  by_cases hi : i < ls.length
  · rw [need_at _ _ (by rw [nbrs_len]; exact hi)]
    have e := need_at ls (lens ls) hi
    rw [hL.fix] at e
    rw [e]
    unfold nd1
    rw [nbrs_opd ls ns hi, nbrs_at ls hi]
    rfl
  · rw [need_out _ _ (by rw [nbrs_len]; exact hi)]
    have : (lens ls).getD i 0 = 0 := by simp [List.getElem?_eq_none (show (lens ls).length ≤ i by rw [hL.len]; omega)]
    rw [this]
theorem nbrs_lens {ls : List Ln} (F : Fit ls) (F' : Fit (nbrs ls)) : lens (nbrs ls) = lens ls := by
  have hL := lens_least F
  refine (lens_least F').uniq ⟨by rw [hL.len, nbrs_len], nbrs_need F _, fun ms hm => ?_⟩
  have := hm.2
  rwa [nbrs_need F] at this
theorem nbrs_code {ls : List Ln} (h : chk ls = 0) (ok : OKL ls) (few : ls.length ≤ 1000) : codeR (nbrs ls) = codeR ls := by
  have F := fit_of h ok few
  have F' := fit_of (nbrs_chk h) (nbrs_okl F ok) (by rw [nbrs_len]; exact few)
  unfold codeR
  rw [if_pos h, if_pos (nbrs_chk h)]
  congr 1
  unfold insL
  rw [nbrs_len]
  refine List.map_congr_left fun i hi => ?_
  rw [List.mem_range] at hi
  rw [nbrs_lens F F', nbrs_opd ls _ hi, nbrs_at ls hi]
  rfl
/-! ### A field of a line is stored -/
theorem lnCs_set {ls : List Ln} {k j : Nat} {v : Value} {y : Ln} (hk : k < ls.length) (hj : j < 5) (hy : lnC y = (lnC (ls.getD k l0)).set j v) : (lnCs ls).set (k * 5 + j) v = lnCs (ls.set k y) := by
  induction ls generalizing k with
  | nil => simp at hk
  | cons x ls ih =>
    cases k with
    | zero =>
      rw [List.getD_cons_zero] at hy
      rw [List.set_cons_zero, show lnCs (x :: ls) = lnC x ++ lnCs ls from rfl, show lnCs (y :: ls) = lnC y ++ lnCs ls from rfl, hy, Nat.zero_mul, Nat.zero_add]
      exact List.set_append_left _ _ (by simp [lnC]; omega)
    | succ k =>
      rw [List.getD_cons_succ] at hy
      have := ih (k := k) (by simpa using hk) hy
      rw [List.set_cons_succ, show lnCs (x :: ls) = lnC x ++ lnCs ls from rfl, show lnCs (x :: ls.set k y) = lnC x ++ lnCs (ls.set k y) from rfl, ← this, List.set_append_right _ _ (by simp [lnC]; omega)]
      congr 2
      simp [lnC]
      omega
end Go.Proofs.YtjdjkdgdbdenpaaDoor
/- Lines whose labels get other names. Plain Lean. -/
namespace Go.Proofs.YtjdjkdgdbdenpaaDoor
open Go Go.RowKit

def rn1 (l : Bs) : Bs := if l.isEmpty || decide (32 ≤ l.length) then l else 113 :: l
def rnL (x : Ln) : Ln := ⟨rn1 x.lab, x.fn, x.arg, rn1 x.tgt, rn1 x.fr⟩
def Short (x : Ln) : Prop := x.lab.length < 32 ∧ x.tgt.length < 32 ∧ x.fr.length < 32
theorem rn1_empty (l : Bs) : (rn1 l).isEmpty = l.isEmpty := by
  unfold rn1
  split
  · rfl
  · rename_i h
    simp only [Bool.or_eq_true, not_or] at h
    cases l with
    | nil => exact absurd rfl h.1
    | cons a b => rfl
theorem rn1_cons {a : UInt8} {b : Bs} (h : (a :: b).length < 32) : rn1 (a :: b) = 113 :: a :: b := by
  unfold rn1
  rw [if_neg]
  simp only [List.isEmpty_cons, Bool.false_or, decide_eq_true_eq]
  omega
theorem rn1_inj {a b : Bs} (ha : a.length < 32) (hb : b.length < 32) : (rn1 a = rn1 b) ↔ a = b := by
  refine ⟨fun h => ?_, fun h => by rw [h]⟩
  cases a with
  | nil =>
    cases b with
    | nil => rfl
    | cons y ys => rw [rn1_cons hb] at h; cases h
  | cons x xs =>
    rw [rn1_cons ha] at h
    cases b with
    | nil => cases h
    | cons y ys => rw [rn1_cons hb] at h; exact (List.cons.inj h).2
theorem rn1_lab {l : Bs} (h : l.length < 32) (hl : isLab l = true) : isLab (rn1 l) = true := by
  cases l with
  | nil => cases hl
  | cons a b =>
    rw [rn1_cons h]
    unfold isLab at hl ⊢
    simp only [Bool.and_eq_true, decide_eq_true_eq] at hl ⊢
    simp only [List.length_cons] at h
    refine ⟨⟨by simp only [List.length_cons]; omega, by decide⟩, ?_⟩
    rw [List.all_cons, isLet_mid hl.1.2, hl.2]
    rfl
theorem rn1_or {l : Bs} (h : l.length < 32) (hl : orNone l = true) : orNone (rn1 l) = true := by
  unfold orNone at hl ⊢
  rw [rn1_empty]
  rcases (Bool.or_eq_true _ _).mp hl with h1 | h1
  · rw [h1]; rfl
  · rw [rn1_lab h h1, Bool.or_true]
theorem rnL_vld {x : Ln} (hs : Short x) (h : vld x = true) : vld (rnL x) = true := by
  unfold vld at h ⊢
  unfold rnL
  simp only [Bool.and_eq_true] at h ⊢
  refine ⟨rn1_or hs.1 h.1, ?_⟩
  rw [rn1_empty]
  have h2 := h.2
  split at h2
  · rename_i ht
    rw [if_pos ht]
    simp only [Bool.and_eq_true] at h2 ⊢
    rw [rn1_empty]
    exact h2
  · rename_i ht
    rw [if_neg ht]
    simp only [Bool.and_eq_true] at h2 ⊢
    exact ⟨⟨⟨⟨rn1_lab hs.2.1 h2.1.1.1.1, rn1_or hs.2.2 h2.1.1.1.2⟩, h2.1.1.2⟩, h2.1.2⟩, h2.2⟩
section
variable {ls : List Ln} (hs : ∀ i, i < ls.length → Short (ls.getD i l0))
theorem rns_len : (ls.map rnL).length = ls.length := by simp
theorem rns_at {i : Nat} (h : i < ls.length) : (ls.map rnL).getD i l0 = rnL (ls.getD i l0) := by simp [h]
include hs
theorem rns_fnd {n : Bs} (hn : n.length < 32) : fnd (ls.map rnL) (rn1 n) = fnd ls n := by
  cases hb : fnd ls n with
  | none =>
    have := fnd_none hb
    refine fnd_miss (fun j hj => ?_)
    rw [rns_len] at hj
    rw [rns_at hj]
    show rn1 _ ≠ rn1 n
    rw [Ne, rn1_inj (hs j hj).1 hn]
    exact this j hj
  | some k =>
    obtain ⟨h1, h2, h3⟩ := fnd_some hb
    refine fnd_hit (by rw [rns_len]; exact h1) (fun j hj => ?_) ?_
    · rw [rns_at (by omega)]
      show rn1 _ ≠ rn1 n
      rw [Ne, rn1_inj (hs j (by omega)).1 hn]
      exact h3 j hj
    · rw [rns_at h1]
      show rn1 _ = rn1 n
      rw [h2]
theorem rns_ok {i : Nat} (hi : i < ls.length) : lineOk (ls.map rnL) i = lineOk ls i := by
  have h := hs i hi
  unfold lineOk
  rw [rns_at hi]
  show (((rn1 _).isEmpty || decide (fnd _ (rn1 _) = some i)) && ((rn1 _).isEmpty || (fnd _ (rn1 _)).isSome) && ((rn1 _).isEmpty || (fnd _ (rn1 _)).isSome)) = _
  rw [rn1_empty, rn1_empty, rn1_empty, rns_fnd hs h.1, rns_fnd hs h.2.1, rns_fnd hs h.2.2]
theorem rns_chk (hv : ls.all vld = true) : chk (ls.map rnL) = chk ls := by
  have h1 : (ls.map rnL).all vld = true := all_at fun i hi => by
    rw [rns_len] at hi
    rw [rns_at hi]
    exact rnL_vld (hs i hi) (all_get hv hi)
  have h2 : (List.range (ls.map rnL).length).all (lineOk (ls.map rnL)) = (List.range ls.length).all (lineOk ls) := by
    rw [rns_len, Bool.eq_iff_iff, List.all_eq_true, List.all_eq_true]
    refine ⟨fun h i hi => ?_, fun h i hi => ?_⟩
    · rw [← rns_ok hs (List.mem_range.1 hi)]; exact h i hi
    · rw [rns_ok hs (List.mem_range.1 hi)]; exact h i hi
  unfold chk
  rw [if_pos h1, if_pos hv, h2]
theorem rns_opd (ns : List Nat) {i : Nat} (hi : i < ls.length) : opd (ls.map rnL) ns i = opd ls ns i := by
  have h := hs i hi
  have e1 : toL (ls.map rnL) i = toL ls i := by
    unfold toL pos
    rw [rns_at hi]
    show (fnd _ (rn1 _)).getD 0 = _
    rw [rns_fnd hs h.2.1]
  have e2 : fromL (ls.map rnL) i = fromL ls i := by
    unfold fromL pos
    rw [rns_at hi]
    show (if (rn1 _).isEmpty = true then _ else (fnd _ (rn1 _)).getD 0) = _
    rw [rn1_empty, rns_fnd hs h.2.2]
  unfold opd
  rw [e1, e2, rns_at hi]
  show (if (rn1 _).isEmpty = true then _ else _) = _
  rw [rn1_empty]
  rfl
theorem rns_need (ns : List Nat) : need (ls.map rnL) ns = need ls ns := by
  unfold need
  rw [rns_len]
  refine List.map_congr_left fun i hi => ?_
  rw [List.mem_range] at hi
  unfold nd1
  rw [rns_opd hs ns hi, rns_at hi]
  rfl
theorem rns_lfp (k : Nat) (ns : List Nat) : lfpN (ls.map rnL) k ns = lfpN ls k ns := by
  induction k generalizing ns with
  | zero => rfl
  | succ k ih =>
    unfold lfpN
    rw [rns_need hs]
    split
    · rfl
    · exact ih _
theorem rns_lens : lens (ls.map rnL) = lens ls := by
  unfold lens
  rw [rns_len]
  exact rns_lfp hs _ _
theorem rns_code (hv : ls.all vld = true) : codeR (ls.map rnL) = codeR ls ∧ atR (ls.map rnL) = atR ls := by
  unfold codeR atR
  rw [rns_chk hs hv]
  have e : insL (ls.map rnL) = insL ls := by
    unfold insL
    rw [rns_len]
    refine List.map_congr_left fun i hi => ?_
    rw [List.mem_range] at hi
    rw [rns_lens hs, rns_opd hs _ hi, rns_at hi]
    rfl
  have e2 : atL (ls.map rnL) = atL ls := by
    unfold atL
    rw [rns_len, rns_lens hs]
  rw [e, e2]
  exact ⟨rfl, rfl⟩
end
theorem rn1_max {l : Bs} (h : l.length ≤ maxLen) : (rn1 l).length ≤ maxLen := by
  unfold rn1
  split
  · exact h
  · rename_i h1
    simp only [Bool.or_eq_true, not_or, decide_eq_true_eq] at h1
    simp only [List.length_cons]
    unfold maxLen
    omega
theorem rnL_okx {x : Ln} (h : OKx x) : OKx (rnL x) := ⟨h.fn, h.arg, rn1_max h.lab, rn1_max h.tgt, rn1_max h.fr⟩
end Go.Proofs.YtjdjkdgdbdenpaaDoor
/- The law on lines with numbers for operands: the walk. -/
namespace Go.Proofs.YtjdjkdgdbdenpaaDoor
open Go Go.RowKit

/-- The first k lines of one list, and the others of another. -/
def mix (ls ms : List Ln) (k : Nat) : List Ln := ms.take k ++ ls.drop k
theorem mix_zero (ls ms : List Ln) : mix ls ms 0 = ls := rfl
theorem mix_all {ls ms : List Ln} (h : ms.length = ls.length) : mix ls ms ls.length = ms := by
  unfold mix
  rw [List.drop_length, List.append_nil, ← h, List.take_length]
theorem mix_len {ls ms : List Ln} (h : ms.length = ls.length) (k : Nat) : (mix ls ms k).length = ls.length := by
  unfold mix
  simp
  omega
theorem mix_get {ls ms : List Ln} (h : ms.length = ls.length) {k : Nat} (hk : k < ls.length) : (mix ls ms k).getD k l0 = ls.getD k l0 := by
  unfold mix
  simp only [List.getD_eq_getElem?_getD]
  rw [List.getElem?_append_right (by simp; omega)]
  congr 1
  simp
  congr 1
  omega
theorem mix_set {ls ms : List Ln} (h : ms.length = ls.length) {k : Nat} (hk : k < ls.length) : (mix ls ms k).set k (ms.getD k l0) = mix ls ms (k + 1) := by
  unfold mix
  have e1 : (ms.take k).length = k := by simp; omega
  rw [List.set_append_right _ _ (by omega), e1, Nat.sub_self, List.drop_eq_getElem_cons hk, List.set_cons_zero, List.take_succ_eq_append_getElem (show k < ms.length by omega), List.append_assoc]
  congr 2
  simp [show k < ms.length by omega]
/-- A field of a line in a row of the call's own. -/
theorem own_field {W : World} {B g n c k j : Nat} {cur : List Ln} (h : OwnL W B (some ⟨g, 0, none⟩) n c cur) (hk : k < n) (hj : j < 5) :
    W.cell? ⟨g, k * 5 + j, none⟩ = (lnC (cur.getD k l0))[j]? ∧ W.frozen? ⟨g, k * 5 + j, none⟩ = false := by
  have hl := h.len
  have e : (lnCs cur).length = n * 5 := by rw [lnCs_len, hl]
  refine ⟨(World.ownsRow.cellAt h (k * 5 + j) (by omega)).trans (lnCs_at (by omega) hj), World.ownsRow.frozenAt h (k * 5 + j)⟩
theorem own_put {W : World} {B g n c k j : Nat} {cur : List Ln} {v : Value} (h : OwnL W B (some ⟨g, 0, none⟩) n c cur) (hk : k < n) (hj : j < 5) (y : Ln) (hy : lnC y = (lnC (cur.getD k l0)).set j v) :
    OwnL (W.setCell ⟨g, k * 5 + j, none⟩ v) B (some ⟨g, 0, none⟩) n c (cur.set k y) ∧ W.grownBy (W.setCell ⟨g, k * 5 + j, none⟩ v) (some g) := by
  have hl := h.len
  have := World.ownsRow.stored h (k * 5 + j) v
  unfold OwnL
  rw [← lnCs_set (by omega) hj hy]
  exact this
theorem own_some {W : World} {B n c : Nat} {A : Option Addr} {cur : List Ln} (h : OwnL W B A n c cur) (hn : 0 < n) : ∃ g, A = some ⟨g, 0, none⟩ ∧ B ≤ g := by
  rcases h.2 with ⟨_, h0⟩ | ⟨g, cap, _, hv, hB, _⟩
  · omega
  · injection hv with h1
    exact ⟨g, h1, hB⟩
theorem getD_set {ls : List Ln} {k : Nat} {y : Ln} (h : k < ls.length) : (ls.set k y).getD k l0 = y := by simp [h]
theorem ownL_keep {w w' : World} {B n c : Nat} {A : Option Addr} {ls : List Ln} (h : OwnL w B A n c ls) (hb : Below w.heap.size w w') : OwnL w' B A n c ls := own_keepB h hb
/-- The three fields that are stored. -/
theorem own_three {W : World} {B g n c k : Nat} {cur : List Ln} (h : OwnL W B (some ⟨g, 0, none⟩) n c cur) (hk : k < n) (a : Int) :
    W.cell? ⟨g, k * 5 + 2, none⟩ = some (.int .i32 (cur.getD k l0).arg) ∧ W.frozen? ⟨g, k * 5 + 2, none⟩ = false ∧
    (W.setCell ⟨g, k * 5 + 2, none⟩ (.int .i32 a)).cell? ⟨g, k * 5 + 3, none⟩ = some (.string (strOf (cur.getD k l0).tgt)) ∧ (W.setCell ⟨g, k * 5 + 2, none⟩ (.int .i32 a)).frozen? ⟨g, k * 5 + 3, none⟩ = false ∧
    ((W.setCell ⟨g, k * 5 + 2, none⟩ (.int .i32 a)).setCell ⟨g, k * 5 + 3, none⟩ (.string ⟨#[]⟩)).cell? ⟨g, k * 5 + 4, none⟩ = some (.string (strOf (cur.getD k l0).fr)) ∧ ((W.setCell ⟨g, k * 5 + 2, none⟩ (.int .i32 a)).setCell ⟨g, k * 5 + 3, none⟩ (.string ⟨#[]⟩)).frozen? ⟨g, k * 5 + 4, none⟩ = false ∧
    OwnL (((W.setCell ⟨g, k * 5 + 2, none⟩ (.int .i32 a)).setCell ⟨g, k * 5 + 3, none⟩ (.string ⟨#[]⟩)).setCell ⟨g, k * 5 + 4, none⟩ (.string ⟨#[]⟩)) B (some ⟨g, 0, none⟩) n c (cur.set k ⟨(cur.getD k l0).lab, (cur.getD k l0).fn, a, [], []⟩) := by
  have hl := h.len
  have hkl : k < cur.length := by omega
  have s1 := (own_put h hk (j := 2) (by decide) (v := .int .i32 a) ⟨(cur.getD k l0).lab, (cur.getD k l0).fn, a, (cur.getD k l0).tgt, (cur.getD k l0).fr⟩ rfl).1
  have s2 := (own_put s1 hk (j := 3) (by decide) (v := .string ⟨#[]⟩) ⟨(cur.getD k l0).lab, (cur.getD k l0).fn, a, [], (cur.getD k l0).fr⟩ (by rw [getD_set hkl]; rfl)).1
  have s3 := (own_put s2 hk (j := 4) (by decide) (v := .string ⟨#[]⟩) ⟨(cur.getD k l0).lab, (cur.getD k l0).fn, a, [], []⟩ (by rw [List.set_set, getD_set hkl]; rfl)).1
  rw [List.set_set, List.set_set] at s3
  have f0 := own_field h hk (j := 2) (by decide)
  have f1 := own_field s1 hk (j := 3) (by decide)
  have f2 := own_field s2 hk (j := 4) (by decide)
  rw [getD_set hkl] at f1
  rw [List.set_set, getD_set hkl] at f2
  exact ⟨f0.1, f0.2, f1.1, f1.2, f2.1, f2.2, s3⟩
theorem len_err {A : Option Addr} {c m : Nat} {ls : List Ln} {w : World} {k : Int} (R : RL w A c ls) (hA : ∀ ad, A = some ad → 0 < ls.length → ad.block < w.heap.size) (hm : ls.length = m) (h1 : m ≤ 1000) (hg : Good6 w) (hk : chk ls = k) (h0 : k ≠ 0) :
    Calls Tryd.prog 8 #[.slice A m c] w fun e W' => ∃ A' c', e = .returned (.tuple #[.slice A' 0 c', .int .i64 k]) ∧ Below w.heap.size w W' :=
  (Lengths_any R hA hm h1 hg.1.1).mono (fun e W' h => by
    unfold GivesNE at h
    rw [lenR_no (by rw [hk]; exact h0), hk] at h
    obtain ⟨A', c', h1, _, h3⟩ := h
    exact ⟨A', c', h1, h3⟩)
theorem len_fine {A : Option Addr} {c m : Nat} {ls : List Ln} {w : World} (R : RL w A c ls) (hA : ∀ ad, A = some ad → 0 < ls.length → ad.block < w.heap.size) (hm : ls.length = m) (h1 : m ≤ 1000) (hg : Good6 w) (hc : chk ls = 0) :
    Calls Tryd.prog 8 #[.slice A m c] w fun e W' => ∃ A' c', e = .returned (.tuple #[.slice A' m c', .int .i64 0]) ∧ RN W' A' c' (lens ls) ∧ Below w.heap.size w W' :=
  (Lengths_any R hA hm h1 hg.1.1).mono (fun e W' h => by
    unfold GivesNE at h
    rw [lenR_ok hc, hc, (lens_least (fit_of hc R.ok (by omega))).len, hm] at h
    obtain ⟨A', c', h1, h2, h3⟩ := h
    exact ⟨A', c', h1, h2.rn, h3⟩)
theorem asm_gives {A : Option Addr} {c m p q : Nat} {k : Int} {ys : List Nat} {ls : List Ln} {w : World} (R : RL w A c ls) (hA : ∀ ad, A = some ad → 0 < ls.length → ad.block < w.heap.size) (hm : ls.length = m) (h1 : m ≤ 1000) (hg : Good6 w) (hk : chk ls = k) (hy : codeR ls = ys) (hq : ys.length = q) (hp : (atR ls).length = p) :
    Calls Tryd.prog 11 #[.slice A m c] w fun e W' => ∃ A c A' c', e = .returned (.tuple #[.slice A q c, .slice A' p c', .int .i64 k]) ∧ C4.RS W' A c ys ∧ RN W' A' c' (atR ls) ∧ Below w.heap.size w W' :=
  (Assemble_any R hA hm h1 hg.1.1).mono (fun e W' h => by unfold GivesBN at h; rwa [hk, hy, hq, hp] at h)
set_option maxRecDepth 100000 in
set_option maxHeartbeats 16000000 in
theorem walkAsmNumbers (a0 : Option Addr) (len0 cap0 : Nat) (w : World) (w0 : IsLs w a0 len0 cap0) (hg : Good6 w) :
    Calls Tryd.prog 5 #[.slice a0 len0 cap0] w fun e w' => e = .returned (.bool true) ∧ Below w.heap.size w w' := by
  obtain ⟨ls, hm, R, hA0⟩ := w0
  have hA : ∀ ad, a0 = some ad → 0 < ls.length → ad.block < w.heap.size := fun ad e h => hA0 (by omega) ad e
  have hmx : len0 ≤ maxLen := by rw [← hm]; exact Nat.le_trans R.le R.mx
  unfold maxLen at hmx
  have HG := Lib.hid hg
  have CH := Lib.hid (fun (W : World) (b : Below w.heap.size w W) => head_any W (HG.out.below b))
  by_cases h60 : (60 : Int) < (len0 : Int)
  · have t60 : decide ((60 : Int) < (len0 : Int)) = true := by simpa using h60
    clear hg R hm hA hA0
    go_enter Tryd.func5, Tryd.ntmps5
    go_wp2_with (go_at_call 7; (with_reducible refine (CH.out _ (b0 _)).mono ?_); rintro e v9 ⟨rfl, b9⟩; have B9 := Lib.hid b9; clear b9)
    go_ret
    exact ⟨rfl, B9.out⟩
  · have t60 : decide ((60 : Int) < (len0 : Int)) = false := by simpa using h60
    have hle : len0 ≤ 60 := by omega
    obtain ⟨k, hk⟩ : ∃ k, chk ls = k := ⟨_, rfl⟩
    obtain ⟨ys, hys⟩ : ∃ ys, codeR ls = ys := ⟨_, rfl⟩
    obtain ⟨q, hq⟩ : ∃ q, ys.length = q := ⟨_, rfl⟩
    obtain ⟨p, hp⟩ : ∃ p, (atR ls).length = p := ⟨_, rfl⟩
    have HR := Lib.hid (And.intro R (And.intro hm hA))
    have C2 := Lib.hid (fun (W : World) (bw : Below w.heap.size w W) => asm_gives (HR.out.1.keep bw) (fun ad e h => Nat.lt_of_lt_of_le (HR.out.2.2 ad e h) bw.size) hm (by omega) (HG.out.below bw) hk hys hq hp)
    by_cases h0 : k = 0
    · subst h0
      have C1 := Lib.hid (len_fine R hA hm (by omega) hg hk)
      have F := Lib.hid (fit_of hk R.ok (by omega))
      have HC := Lib.hid (nbrs_code hk R.ok (by omega))
      have HK := Lib.hid (nbrs_chk hk)
      have HO := Lib.hid (nbrs_okl F.out R.ok)
      have HRf := Lib.hid (refs_of hk)
      have HL := Lib.hid (lens_low F.out)
      have CO := Lib.hid (fun (W : World) (bw : Below w.heap.size w W) => own_any (R.keep bw) hm (by omega))
      have HY := Lib.hid hys
      have HQ := Lib.hid hq
      have CP := Lib.hid (fun (A' : Option Addr) (c' j : Nat) (hj : j < len0) (W : World) (bw : Below w.heap.size w W) (S : RN W A' c' (lens ls)) =>
        ROperand_any (R.keep bw) S hm (by rw [HL.out.len, hm]) hj (by omega) (fun i => Nat.le_trans (HL.out.le8 i) (by omega)) (HRf.out j (by omega)).1 (HRf.out j (by omega)).2)
      clear hg R hm hA hA0 hk hys hq hp h60
      go_enter Tryd.func5, Tryd.ntmps5
      go_wp2_with (first
        | (go_at_call 8; (with_reducible refine C1.out.mono ?_); rintro e v1 ⟨A1, c1, rfl, r1, b1⟩; have H1 := Lib.hid (And.intro b1 r1); clear b1 r1)
        | (go_at_call 11; (with_reducible refine (C2.out _ H1.out.1).mono ?_); rintro e v2 ⟨A2, c2, D2, d2, rfl, r2, _, b2⟩; have H2 := Lib.hid (And.intro (blw H1.out.1 b2) (And.intro (H1.out.2.keep b2) r2)); clear b2 r2 H1)
        | (go_at_call 14; (with_reducible refine (CO.out v2 H2.out.1).mono ?_); rintro e v3 ⟨A3, c3, rfl, o3, b3⟩; have H3 := Lib.hid (And.intro b3 o3); clear b3 o3))
      go_loopw [9] (fun i wr => ∃ j : Nat, j ≤ len0 ∧ i = .int .i64 j ∧ Hid (Below v2.heap.size v2 wr ∧ OwnL wr v2.heap.size A3 len0 c3 (mix ls (nbrs ls) j))) (fun i _ => len0 - (intOf i).toNat)
      case atStart => exact ⟨0, Nat.zero_le _, rfl, Lib.hid ⟨H3.out.1, H3.out.2⟩⟩
      case round =>
        obtain ⟨j, hj, rfl, H⟩ := hrel
        by_cases hlt : (j : Int) < (len0 : Int)
        · obtain ⟨g, rfl, hgB⟩ := own_some H.out.2 (by omega)
          have hj0 : (0 : Int) ≤ (j : Int) := by omega
          have C5 := Lib.hid (CP.out A1 c1 j (by omega) wr (blw H2.out.1 H.out.1) (H2.out.2.1.keep H.out.1))
          have HM := Lib.hid (show (mix ls (nbrs ls) j).set j ⟨((mix ls (nbrs ls) j).getD j l0).lab, ((mix ls (nbrs ls) j).getD j l0).fn, opd ls (lens ls) j, [], []⟩ = mix ls (nbrs ls) (j + 1) by
            have hjl : j < ls.length := by have := HR.out.2.1; omega
            rw [← mix_set (nbrs_len ls) hjl, nbrs_at ls hjl, mix_get (nbrs_len ls) hjl]
            rfl)
          generalize opd ls (lens ls) j = a at *
          have HJ := Lib.hid (show j < len0 by omega)
          go_wp2_with (first
            | (go_at_call 15; (with_reducible refine C5.out.mono ?_); rintro e v4 ⟨rfl, b4⟩; have T4 := Lib.hid (own_three (ownL_keep H.out.2 b4) HJ.out a); have t1 := T4.out.1; have t2 := T4.out.2.1; have t3 := T4.out.2.2.1; have t4 := T4.out.2.2.2.1; have t5 := T4.out.2.2.2.2.1; have t6 := T4.out.2.2.2.2.2.1; have B4 := Lib.hid (bset (bset (bset (blw H.out.1 b4) hgB (.int .i32 a) (j := j * 5 + 2)) hgB (.string ⟨#[]⟩) (j := j * 5 + 3)) hgB (.string ⟨#[]⟩) (j := j * 5 + 4)); clear b4))
          have HO7 := T4.out.2.2.2.2.2.2
          rw [HM.out] at HO7
          go_roundw
          case rel => exact ⟨j + 1, by omega, by go_num, Lib.hid ⟨B4.out, HO7⟩⟩
          case measure => simp [intOf]; omega
        · obtain rfl : j = len0 := by omega
          have H5 := Lib.hid (show Below v2.heap.size v2 wr ∧ OwnL wr v2.heap.size A3 j c3 (nbrs ls) from ⟨H.out.1, by have h := H.out.2; rwa [← HR.out.2.1, mix_all (nbrs_len ls), HR.out.2.1] at h⟩)
          have C6 := Lib.hid (asm_gives (p := (atR (nbrs ls)).length) (H5.out.2.rl HO.out) (fun ad e _ => owned_lt H5.out.2 ad e) (by rw [nbrs_len, HR.out.2.1]) (by omega) (HG.out.below (blw H2.out.1 H5.out.1)) HK.out (HC.out.trans HY.out) HQ.out rfl)
          clear H C1 C2 CO CP
          go_wp2_with (first
            | (go_at_call 11; (with_reducible refine C6.out.mono ?_); rintro e v6 ⟨A6, c6, D6, d6, rfl, r6, _, b6⟩; have H6 := Lib.hid (blw (blw H2.out.1 H5.out.1) b6); have k1 := C4.str_any (C4.RS.kept0 H2.out.2.2 (g_of_below (blw H5.out.1 b6))) q HQ.out.symm; have k2 := C4.str_any r6 q HQ.out.symm; generalize C4.str ys = S at k1 k2; clear r6 b6)
            | (go_at_call 7; (with_reducible refine (CH.out _ H6.out).mono ?_); rintro e v9 ⟨rfl, b9⟩; have B9 := Lib.hid (blw H6.out b9); clear b9))
          go_ret
          exact ⟨rfl, B9.out⟩
    · have C1 := Lib.hid (len_err R hA hm (by omega) hg hk h0)
      have k1 : (k != 0) = true := by simpa using h0
      have k2 : (k == 0) = false := by simpa using h0
      clear hg R hm hA hA0 hk hys hq hp h60 h0
      go_enter Tryd.func5, Tryd.ntmps5
      go_wp2_with (first
        | (go_at_call 8; (with_reducible refine C1.out.mono ?_); rintro e v1 ⟨A1, c1, rfl, b1⟩; have H1 := Lib.hid b1; clear b1)
        | (go_at_call 11; (with_reducible refine (C2.out _ H1.out).mono ?_); rintro e v2 ⟨A2, c2, D2, d2, rfl, _, _, b2⟩; have H2 := Lib.hid (blw H1.out b2); clear b2)
        | (go_at_call 7; (with_reducible refine (CH.out _ H2.out).mono ?_); rintro e v9 ⟨rfl, b9⟩; have B9 := Lib.hid (blw H2.out b9); clear b9))
      go_ret
      exact ⟨rfl, B9.out⟩
end Go.Proofs.YtjdjkdgdbdenpaaDoor
/- The law on other names for labels: the walk. -/
namespace Go.Proofs.YtjdjkdgdbdenpaaDoor
open Go Go.RowKit

theorem ret_s1 {s : ByteArray} {l : Bs} (h : s = strOf l) : Ending.returned (.string s) = .returned (.string (strOf l)) := by rw [h]
theorem renamed_any (l : Bs) (h : l.length < 32) (w : World) : Calls Tryd.prog 16 #[.string (strOf l)] w fun e w' => e = .returned (.string (strOf (rn1 l))) ∧ w = w' := by
  have he := strOf_empty l
  have he' : (!(strOf l).toList.isEmpty) = !l.isEmpty := by rw [he]
  have hz := size_strOf l
  cases hl : l.isEmpty with
  | true =>
    rw [hl] at he he'
    have hr : rn1 l = l := by unfold rn1; rw [hl]; rfl
    rw [hr]
    clear hr hl
    generalize l.length = n at *
    generalize strOf l = s at *
    go_enter Tryd.func16, Tryd.ntmps16
    go_wp2
    go_ret
    exact ⟨rfl, rfl⟩
  | false =>
    rw [hl] at he he'
    have hr : rn1 l = [113] ++ l := by
      unfold rn1
      rw [hl, if_neg (by simp; omega)]
      rfl
    have c1 := cat_str [113] l (by simp; omega)
    rw [show strOf [113] = (⟨#[113]⟩ : ByteArray) from rfl] at c1
    rw [hr]
    have hn : ¬ (32 : Int) ≤ (l.length : Int) := by omega
    clear hr hl h
    generalize strOf ([113] ++ l) = t at *
    generalize l.length = n at *
    generalize strOf l = s at *
    go_enter Tryd.func16, Tryd.ntmps16
    go_wp2
    go_ret
    exact ⟨rfl, rfl⟩
/-- The three names that are stored. -/
theorem own_names {W : World} {B g n c k : Nat} {cur : List Ln} {x : Ln} (h : OwnL W B (some ⟨g, 0, none⟩) n c cur) (hk : k < n) (hx : cur.getD k l0 = x) (a b d : Bs) :
    (W.cell? ⟨g, k * 5, none⟩ = some (.string (strOf x.lab)) ∧ W.frozen? ⟨g, k * 5, none⟩ = false ∧ W.cell? ⟨g, k * 5 + 3, none⟩ = some (.string (strOf x.tgt)) ∧ W.cell? ⟨g, k * 5 + 4, none⟩ = some (.string (strOf x.fr))) ∧
    ((W.setCell ⟨g, k * 5, none⟩ (.string (strOf a))).cell? ⟨g, k * 5 + 3, none⟩ = some (.string (strOf x.tgt)) ∧ (W.setCell ⟨g, k * 5, none⟩ (.string (strOf a))).frozen? ⟨g, k * 5 + 3, none⟩ = false) ∧
    (((W.setCell ⟨g, k * 5, none⟩ (.string (strOf a))).setCell ⟨g, k * 5 + 3, none⟩ (.string (strOf b))).cell? ⟨g, k * 5 + 4, none⟩ = some (.string (strOf x.fr)) ∧ ((W.setCell ⟨g, k * 5, none⟩ (.string (strOf a))).setCell ⟨g, k * 5 + 3, none⟩ (.string (strOf b))).frozen? ⟨g, k * 5 + 4, none⟩ = false) ∧
    OwnL (((W.setCell ⟨g, k * 5, none⟩ (.string (strOf a))).setCell ⟨g, k * 5 + 3, none⟩ (.string (strOf b))).setCell ⟨g, k * 5 + 4, none⟩ (.string (strOf d))) B (some ⟨g, 0, none⟩) n c (cur.set k ⟨a, x.fn, x.arg, b, d⟩) := by
  subst hx
  have hl := h.len
  have hkl : k < cur.length := by omega
  have s1 := (own_put h hk (j := 0) (by decide) (v := .string (strOf a)) ⟨a, (cur.getD k l0).fn, (cur.getD k l0).arg, (cur.getD k l0).tgt, (cur.getD k l0).fr⟩ rfl).1
  rw [Nat.add_zero] at s1
  have s2 := (own_put s1 hk (j := 3) (by decide) (v := .string (strOf b)) ⟨a, (cur.getD k l0).fn, (cur.getD k l0).arg, b, (cur.getD k l0).fr⟩ (by rw [getD_set hkl]; rfl)).1
  have s3 := (own_put s2 hk (j := 4) (by decide) (v := .string (strOf d)) ⟨a, (cur.getD k l0).fn, (cur.getD k l0).arg, b, d⟩ (by rw [List.set_set, getD_set hkl]; rfl)).1
  rw [List.set_set, List.set_set] at s3
  have f0 := own_field h hk (j := 0) (by decide)
  have f03 := own_field h hk (j := 3) (by decide)
  have f04 := own_field h hk (j := 4) (by decide)
  have f1 := own_field s1 hk (j := 3) (by decide)
  have f2 := own_field s2 hk (j := 4) (by decide)
  rw [Nat.add_zero] at f0
  rw [getD_set hkl] at f1
  rw [List.set_set, getD_set hkl] at f2
  exact ⟨⟨f0.1, f0.2, f03.1, f04.1⟩, ⟨f1.1, f1.2⟩, ⟨f2.1, f2.2⟩, s3⟩
theorem chk_two {ls : List Ln} (h : ¬ ls.all vld = true) : chk ls = 2 := if_neg h
theorem chk_not {ls : List Ln} (h : ls.all vld = true) : chk ls = 0 ∨ chk ls = 60 := by
  unfold chk
  rw [if_pos h]
  split
  · exact .inl rfl
  · exact .inr rfl
theorem rns_okl {ls : List Ln} (ok : OKL ls) : OKL (ls.map rnL) := by
  intro x hx
  obtain ⟨y, hy, rfl⟩ := List.mem_map.1 hx
  exact rnL_okx (ok y hy)
set_option maxRecDepth 100000 in
set_option maxHeartbeats 16000000 in
theorem walkAsmNames (a0 : Option Addr) (len0 cap0 : Nat) (w : World) (w0 : IsLs w a0 len0 cap0) (hg : Good6 w) :
    Calls Tryd.prog 6 #[.slice a0 len0 cap0] w fun e w' => e = .returned (.bool true) ∧ Below w.heap.size w w' := by
  obtain ⟨ls, hm, R, hA0⟩ := w0
  have hA : ∀ ad, a0 = some ad → 0 < ls.length → ad.block < w.heap.size := fun ad e h => hA0 (by omega) ad e
  have hmx : len0 ≤ maxLen := by rw [← hm]; exact Nat.le_trans R.le R.mx
  unfold maxLen at hmx
  have HG := Lib.hid hg
  have CH := Lib.hid (fun (W : World) (b : Below w.heap.size w W) => head_any W (HG.out.below b))
  by_cases h60 : (60 : Int) < (len0 : Int)
  · have t60 : decide ((60 : Int) < (len0 : Int)) = true := by simpa using h60
    clear hg R hm hA hA0
    go_enter Tryd.func6, Tryd.ntmps6
    go_wp2_with (go_at_call 7; (with_reducible refine (CH.out _ (b0 _)).mono ?_); rintro e v9 ⟨rfl, b9⟩; have B9 := Lib.hid b9; clear b9)
    go_ret
    exact ⟨rfl, B9.out⟩
  · have t60 : decide ((60 : Int) < (len0 : Int)) = false := by simpa using h60
    have hle : len0 ≤ 60 := by omega
    have HR := Lib.hid (And.intro R (And.intro hm hA))
    have CO := Lib.hid (own_any R hm (by omega))
    clear hg R hm hA hA0 h60
    go_enter Tryd.func6, Tryd.ntmps6
    go_wp2_with (first
      | (go_at_call 14; (with_reducible refine CO.out.mono ?_); rintro e v1 ⟨A1, c1, rfl, o1, b1⟩; have H1 := Lib.hid (And.intro b1 o1); clear b1 o1))
    go_loopw [4] (fun i wr => ∃ j : Nat, j ≤ len0 ∧ i = .int .i64 j ∧ Hid (Below w.heap.size w wr ∧ OwnL wr w.heap.size A1 len0 c1 (mix ls (ls.map rnL) j) ∧ ∀ x, x < j → Short (ls.getD x l0))) (fun i _ => len0 - (intOf i).toNat)
    case atStart => exact ⟨0, Nat.zero_le _, rfl, Lib.hid ⟨H1.out.1, H1.out.2, fun x hx => absurd hx (by omega)⟩⟩
    case round =>
      obtain ⟨j, hj, rfl, H⟩ := hrel
      by_cases hlt : (j : Int) < (len0 : Int)
      · obtain ⟨g, rfl, hgB⟩ := own_some H.out.2.1 (by omega)
        have hj0 : (0 : Int) ≤ (j : Int) := by omega
        have hjl : j < ls.length := by have := HR.out.2.1; omega
        have hx := mix_get (ms := ls.map rnL) (by simp) hjl
        have HT := Lib.hid (own_names H.out.2.1 (by omega) hx (rn1 (ls.getD j l0).lab) (rn1 (ls.getD j l0).tgt) (rn1 (ls.getD j l0).fr))
        have HM := Lib.hid (show (mix ls (ls.map rnL) j).set j ⟨rn1 (ls.getD j l0).lab, (ls.getD j l0).fn, (ls.getD j l0).arg, rn1 (ls.getD j l0).tgt, rn1 (ls.getD j l0).fr⟩ = mix ls (ls.map rnL) (j + 1) by
          rw [← mix_set (by simp) hjl, rns_at hjl]
          rfl)
        have HS := Lib.hid (fun (hs : Short (ls.getD j l0)) (x : Nat) (hxj : x < j + 1) => show Short (ls.getD x l0) by
          by_cases hlt2 : x < j
          · exact H.out.2.2 x hlt2
          · rw [show x = j by omega]; exact hs)
        have R1 := Lib.hid (fun (h : (ls.getD j l0).lab.length < 32) (W : World) => renamed_any _ h W)
        have R2 := Lib.hid (fun (h : (ls.getD j l0).tgt.length < 32) (W : World) => renamed_any _ h W)
        have R3 := Lib.hid (fun (h : (ls.getD j l0).fr.length < 32) (W : World) => renamed_any _ h W)
        have HB := Lib.hid H.out.1
        clear hx hjl H
        obtain ⟨y, hy⟩ : ∃ y, ls.getD j l0 = y := ⟨_, rfl⟩
        rw [hy] at HT HM HS R1 R2 R3
        clear hy
        obtain ⟨lab, fn, arg, tgt, fr⟩ := y
        have t1 := HT.out.1.1
        have t2 := HT.out.1.2.1
        have t3 := HT.out.1.2.2.1
        have t4 := HT.out.1.2.2.2
        have z1 := size_strOf lab
        have z2 := size_strOf tgt
        have z3 := size_strOf fr
        dsimp only at t1 t2 t3 t4 R1 R2 R3 HM
        have HZ := Lib.hid (fun (h1 : lab.length < 32) (h2 : tgt.length < 32) (h3 : fr.length < 32) => HS.out ⟨h1, h2, h3⟩)
        clear HS
        by_cases hh : (lab.length < 32 ∧ tgt.length < 32 ∧ fr.length < 32)
        · have HZ1 := Lib.hid (HZ.out hh.1 hh.2.1 hh.2.2)
          have Q1 := Lib.hid (R1.out hh.1)
          have Q2 := Lib.hid (R2.out hh.2.1)
          have Q3 := Lib.hid (R3.out hh.2.2)
          have g1 : ¬ (32 : Int) ≤ (lab.length : Int) := by omega
          have g2 : ¬ (32 : Int) ≤ (tgt.length : Int) := by omega
          have g3 : ¬ (32 : Int) ≤ (fr.length : Int) := by omega
          have u1 := HT.out.2.1.1
          have u2 := HT.out.2.1.2
          have u3 := HT.out.2.2.1.1
          have u4 := HT.out.2.2.1.2
          have HO := Lib.hid HT.out.2.2.2
          dsimp only at u1 u2 u3 u4
          clear hh HZ R1 R2 R3 HT
          have HB4 := Lib.hid (bset (bset (bset HB.out hgB (.string (strOf (rn1 lab))) (j := j * 5)) hgB (.string (strOf (rn1 tgt))) (j := j * 5 + 3)) hgB (.string (strOf (rn1 fr))) (j := j * 5 + 4))
          go_wp2_with (first
            | (go_at_call 16; (with_reducible refine (Q1.out _).mono ?_); clear Q1; rintro e v5 ⟨rfl, rfl⟩)
            | (go_at_call 16; (with_reducible refine (Q2.out _).mono ?_); clear Q2; rintro e v6 ⟨rfl, rfl⟩)
            | (go_at_call 16; (with_reducible refine (Q3.out _).mono ?_); clear Q3; rintro e v7 ⟨rfl, rfl⟩))
          have HO2 := HO.out
          rw [HM.out] at HO2
          go_roundw
          case rel => exact ⟨j + 1, by omega, by go_num, Lib.hid ⟨HB4.out, HO2, HZ1.out⟩⟩
          case measure => simp [intOf]; omega
        · clear HZ R1 R2 R3 HT HM
          by_cases g1 : (32 : Int) ≤ (lab.length : Int)
          all_goals by_cases g2 : (32 : Int) ≤ (tgt.length : Int)
          all_goals by_cases g3 : (32 : Int) ≤ (fr.length : Int)
          all_goals first | (exfalso; omega) | skip
          all_goals
            clear hh
            go_wp2_with (go_at_call 7; (with_reducible refine (CH.out _ HB.out).mono ?_); rintro e v9 ⟨rfl, b9⟩; have B9 := Lib.hid (blw HB.out b9); clear b9)
            go_ret
            exact ⟨rfl, B9.out⟩
      · obtain rfl : j = len0 := by omega
        have hS : ∀ i, i < ls.length → Short (ls.getD i l0) := fun i hi => H.out.2.2 i (by have := HR.out.2.1; omega)
        have hO : OwnL wr w.heap.size A1 j c1 (ls.map rnL) := by
          have h := H.out.2.1
          rwa [← HR.out.2.1, mix_all (by simp), HR.out.2.1] at h
        have HB := Lib.hid (And.intro H.out.1 hO)
        have hlm : (ls.map rnL).length = j := by rw [List.length_map, HR.out.2.1]
        have C6 : ∀ (k : Int) (ys : List Nat) (q p : Nat), chk (ls.map rnL) = k → codeR (ls.map rnL) = ys → ys.length = q → (atR (ls.map rnL)).length = p → ∀ (W : World) (b : Below wr.heap.size wr W),
            Calls Tryd.prog 11 #[.slice A1 j c1] W fun e W' => ∃ A c A' c', e = .returned (.tuple #[.slice A q c, .slice A' p c', .int .i64 k]) ∧ C4.RS W' A c ys ∧ RN W' A' c' (atR (ls.map rnL)) ∧ Below W.heap.size W W' := fun k ys q p h1 h2 h3 h4 W b =>
          asm_gives ((ownL_keep HB.out.2 b).rl (rns_okl HR.out.1.ok)) (fun ad e _ => owned_lt (ownL_keep HB.out.2 b) ad e) hlm (by omega) (HG.out.below (blw HB.out.1 b)) h1 h2 h3 h4
        by_cases hv : ls.all vld = true
        · obtain ⟨k, hk⟩ : ∃ k, chk ls = k := ⟨_, rfl⟩
          obtain ⟨ys, hys⟩ : ∃ ys, codeR ls = ys := ⟨_, rfl⟩
          obtain ⟨q, hq⟩ : ∃ q, ys.length = q := ⟨_, rfl⟩
          obtain ⟨p, hp⟩ : ∃ p, (atR ls).length = p := ⟨_, rfl⟩
          have hc := rns_code hS hv
          have C7 := Lib.hid (C6 k ys q p (by rw [rns_chk hS hv, hk]) (by rw [hc.1, hys]) hq (by rw [hc.2, hp]))
          rw [hc.2] at C7
          have C5 := Lib.hid (asm_gives (HR.out.1.keep HB.out.1) (fun ad e h => Nat.lt_of_lt_of_le (HR.out.2.2 ad e h) HB.out.1.size) HR.out.2.1 (by omega) (HG.out.below HB.out.1) hk hys hq hp)
          have k2 : (k == 2) = false := by
            rcases chk_not hv with h | h <;> rw [← hk, h] <;> rfl
          have HQ := Lib.hid hq
          have HP := Lib.hid hp
          clear C6 hv hk hys hq hp hc hS hO hlm H CO H1
          go_wp2_with (first
            | (go_at_call 11; (with_reducible refine C5.out.mono ?_); clear C5; rintro e v2 ⟨A2, c2, D2, d2, rfl, r2, n2, b2⟩; have H2 := Lib.hid (And.intro b2 (And.intro r2 n2)); clear r2 n2 b2)
            | (go_at_call 11; (with_reducible refine (C7.out _ H2.out.1).mono ?_); rintro e v3 ⟨A3, c3, D3, d3, rfl, r3, n3, b3⟩; have H3 := Lib.hid (And.intro (blw HB.out.1 (blw H2.out.1 b3)) (And.intro (H2.out.2.2.keep b3) n3)); have k3 := C4.str_any (C4.RS.kept0 H2.out.2.1 (g_of_below b3)) q HQ.out.symm; have k4 := C4.str_any r3 q HQ.out.symm; generalize C4.str ys = S at k3 k4; clear r3 n3 b3)
            | (go_at_call 9; (with_reducible refine (same_nsq H3.out.2.1 H3.out.2.2 HP.out HP.out).mono ?_); rintro e v4 ⟨rfl, b4⟩; have H4 := Lib.hid (blw H3.out.1 b4); clear b4)
            | (go_at_call 7; (with_reducible refine (CH.out _ H4.out).mono ?_); rintro e v9 ⟨rfl, b9⟩; have B9 := Lib.hid (blw H4.out b9); clear b9))
          go_ret
          exact ⟨rfl, B9.out⟩
        · have C7 := Lib.hid (C6 _ _ _ _ rfl rfl rfl rfl)
          have C5 := Lib.hid (asm_gives (HR.out.1.keep HB.out.1) (fun ad e h => Nat.lt_of_lt_of_le (HR.out.2.2 ad e h) HB.out.1.size) HR.out.2.1 (by omega) (HG.out.below HB.out.1) (chk_two hv) rfl rfl rfl)
          generalize chk (ls.map rnL) = k at *
          generalize (codeR (ls.map rnL)).length = q at *
          generalize (atR (ls.map rnL)).length = p at *
          generalize (codeR ls).length = q1 at *
          generalize (atR ls).length = p1 at *
          clear C6 hv hS hO hlm H CO H1
          go_wp2_with (first
            | (go_at_call 11; (with_reducible refine C5.out.mono ?_); clear C5; rintro e v2 ⟨A2, c2, D2, d2, rfl, _, _, b2⟩; have H2 := Lib.hid b2; clear b2)
            | (go_at_call 11; (with_reducible refine (C7.out _ H2.out).mono ?_); rintro e v3 ⟨A3, c3, D3, d3, rfl, _, _, b3⟩; have H3 := Lib.hid (blw HB.out.1 (blw H2.out b3)); clear b3)
            | (go_at_call 7; (with_reducible refine (CH.out _ H3.out).mono ?_); rintro e v9 ⟨rfl, b9⟩; have B9 := Lib.hid (blw H3.out b9); clear b9))
          go_ret
          exact ⟨rfl, B9.out⟩
end Go.Proofs.YtjdjkdgdbdenpaaDoor
/- The law on the least lengths, whatever came in. -/
namespace Go.Proofs.YtjdjkdgdbdenpaaDoor
open Go Go.RowKit

set_option maxRecDepth 100000 in
set_option maxHeartbeats 16000000 in
theorem walkAsmLeast (a0 : Option Addr) (len0 cap0 : Nat) (a1 : Option Addr) (len1 cap1 : Nat) (z1 : List Int) (w : World) (w0 : IsLs w a0 len0 cap0) (w1 : C4.Came w a1 len1 cap1 z1) (hg : Good6 w) :
    Calls Tryd.prog 3 #[.slice a0 len0 cap0, .slice a1 len1 cap1] w fun e w' => e = .returned (.bool true) ∧ Below w.heap.size w w' := by
  obtain ⟨ls, hm, R, hA0⟩ := w0
  obtain ⟨ys, hq, S, _⟩ := w1.rs
  have hA : ∀ ad, a0 = some ad → 0 < ls.length → ad.block < w.heap.size := fun ad e h => hA0 (by omega) ad e
  have hmx : len0 ≤ maxLen := by rw [← hm]; exact Nat.le_trans R.le R.mx
  unfold maxLen at hmx
  by_cases h60 : (60 : Int) < (len0 : Int)
  · have HG := Lib.hid hg
    have CH := Lib.hid (fun (W : World) (b : Below w.heap.size w W) => head_any W (HG.out.below b))
    have t60 : decide ((60 : Int) < (len0 : Int)) = true := by simpa using h60
    clear hg R hm hA hA0 S hq w1
    go_enter Tryd.func3, Tryd.ntmps3
    go_wp2_with (go_at_call 7; (with_reducible refine (CH.out _ (b0 _)).mono ?_); rintro e v9 ⟨rfl, b9⟩; have B9 := Lib.hid b9; clear b9)
    go_ret
    exact ⟨rfl, B9.out⟩
  · by_cases hc : chk ls = 0
    · exact least_ok R hA hm S hq (by omega) hc hg
    · have HG := Lib.hid hg
      have CH := Lib.hid (fun (W : World) (b : Below w.heap.size w W) => head_any W (HG.out.below b))
      have t60 : decide ((60 : Int) < (len0 : Int)) = false := by simpa using h60
      obtain ⟨k, hk⟩ : ∃ k, chk ls = k := ⟨_, rfl⟩
      have h0 : k ≠ 0 := by rw [← hk]; exact hc
      have C1 := Lib.hid (len_err R hA hm (by omega) hg hk h0)
      have k1 : (k != 0) = true := by simpa using h0
      clear hg R hm hA hA0 hk h60 h0 hc S hq w1
      go_enter Tryd.func3, Tryd.ntmps3
      go_wp2_with (first
        | (go_at_call 8; (with_reducible refine C1.out.mono ?_); rintro e v1 ⟨A1, c1, rfl, b1⟩; have H1 := Lib.hid b1; clear b1)
        | (go_at_call 7; (with_reducible refine (CH.out _ H1.out).mono ?_); rintro e v9 ⟨rfl, b9⟩; have B9 := Lib.hid (blw H1.out b9); clear b9))
      go_ret
      exact ⟨rfl, B9.out⟩
end Go.Proofs.YtjdjkdgdbdenpaaDoor
/- The law on jumps: the walk. -/
namespace Go.Proofs.YtjdjkdgdbdenpaaDoor
open Go Go.RowKit

/-! ### The code of lines, piece by piece -/
theorem rs_from {w : World} {A : Option Addr} {c : Nat} {xs : List Nat} (h : C4.RS w A c xs) (m : Nat) : C4.RS w (A.map fun x => x.add m) (c - m) (xs.drop m) :=
  ⟨by have := h.le; simp; omega, by have := h.mx; omega, fun x hx => h.by_ x (List.mem_of_mem_drop hx), fun j hj => by
    simp only [List.length_drop] at hj
    obtain ⟨ad, rfl, hc⟩ := h.rd (m + j) (by omega)
    refine ⟨_, rfl, ?_⟩
    rw [C4.add_add_, hc]
    unfold C4.bc
    simp only [List.getD_eq_getElem?_getD]
    rw [List.getElem?_drop]⟩
theorem insL_at (ls : List Ln) {i : Nat} (h : i < ls.length) : (insL ls).getD i C4.i0 = ((ls.getD i l0).fn, opd ls (lens ls) i) := by simp [insL, h]
theorem len_at {ls : List Ln} (F : Fit ls) {i : Nat} (h : i < ls.length) : (C4.enc (ls.getD i l0).fn (opd ls (lens ls) i)).length = (lens ls).getD i 0 := by
  have e := need_at ls (lens ls) h
  rw [(lens_least F).fix] at e
  rw [e]
  unfold nd1 C4.ln
  rw [if_pos (F.vl i h)]
theorem code_len {ls : List Ln} (F : Fit ls) {i : Nat} (h : i ≤ ls.length) : (C4.jl ((insL ls).take i)).length = adr (lens ls) i := by
  induction i with
  | zero => rfl
  | succ i ih =>
    have hl : i < (insL ls).length := by rw [insL_len]; omega
    rw [C4.jl_snoc hl, List.length_append, ih (by omega), insL_at ls (by omega), adr_succ]
    congr 1
    exact len_at F (by omega)
theorem code_all {ls : List Ln} (F : Fit ls) : (C4.jl (insL ls)).length = adr (lens ls) ls.length := by
  have := code_len F (Nat.le_refl ls.length)
  rwa [List.take_of_length_le (by rw [insL_len]; exact Nat.le_refl _)] at this
theorem code_drop {ls : List Ln} (F : Fit ls) {i : Nat} (h : i < ls.length) : ∃ r, (C4.jl (insL ls)).drop (adr (lens ls) i) = C4.enc (ls.getD i l0).fn (opd ls (lens ls) i) ++ r := by
  have hl : i < (insL ls).length := by rw [insL_len]; exact h
  have e : insL ls = (insL ls).take i ++ ((insL ls).getD i C4.i0 :: (insL ls).drop (i + 1)) := by
    have := List.take_append_drop i (insL ls)
    rw [List.drop_eq_getElem_cons hl] at this
    have e2 : (insL ls).getD i C4.i0 = (insL ls)[i] := by simp [hl]
    rw [e2]
    exact this.symm
  refine ⟨C4.jl ((insL ls).drop (i + 1)), ?_⟩
  have e3 : C4.jl (insL ls) = C4.jl ((insL ls).take i) ++ (C4.enc (ls.getD i l0).fn (opd ls (lens ls) i) ++ C4.jl ((insL ls).drop (i + 1))) := by
    conv => lhs; rw [e]
    rw [C4.jl_app]
    congr 1
    rw [insL_at ls h]
    rfl
  rw [e3, ← code_len F (Nat.le_of_lt h), List.drop_left]
theorem code_get {ls : List Ln} (F : Fit ls) {i : Nat} (h : i < ls.length) : C4.get ((C4.jl (insL ls)).drop (adr (lens ls) i)) = ⟨(ls.getD i l0).fn, opd ls (lens ls) i, (lens ls).getD i 0, 0⟩ := by
  obtain ⟨r, hr⟩ := code_drop F h
  rw [hr, ← len_at F h]
  exact C4.get_enc (F.vl i h) (opd_word F (b := 8) (by omega) (lens_low F).le8 h) r
theorem atL_at (ls : List Ln) {i : Nat} (h : i < ls.length) : (atL ls).getD i 0 = adr (lens ls) i := by simp [atL, h]
theorem opd_arg {ls : List Ln} {ns : List Nat} {i : Nat} (h : (ls.getD i l0).tgt.isEmpty = true) : opd ls ns i = (ls.getD i l0).arg := by unfold opd; rw [if_pos h]
theorem opd_jump {ls : List Ln} {ns : List Nat} {i k : Nat} (h : (ls.getD i l0).tgt.isEmpty = false) (hf : (ls.getD i l0).fr.isEmpty = true) (hk : fnd ls (ls.getD i l0).tgt = some k) : opd ls ns i = (adr ns k : Int) - ((adr ns i : Int) + (ns.getD i 0 : Int)) := by
  unfold opd toL fromL pos
  rw [if_neg (by rw [h]; decide), if_pos hf, hk, adr_succ]
  simp
theorem opd_diff {ls : List Ln} {ns : List Nat} {i k j : Nat} (h : (ls.getD i l0).tgt.isEmpty = false) (hf : (ls.getD i l0).fr.isEmpty = false) (hk : fnd ls (ls.getD i l0).tgt = some k) (hj : fnd ls (ls.getD i l0).fr = some j) : opd ls ns i = (adr ns k : Int) - (adr ns j : Int) := by
  unfold opd toL fromL pos
  rw [if_neg (by rw [h]; decide), if_neg (by rw [hf]; decide), hk, hj]
  rfl
theorem fr_of {ls : List Ln} (h : chk ls = 0) {i : Nat} (hi : i < ls.length) (ht : (ls.getD i l0).tgt.isEmpty = true) : (ls.getD i l0).fr.isEmpty = true := by
  have hv := all_get (chk_parts h).1 hi
  unfold vld at hv
  simp only [Bool.and_eq_true] at hv
  have h2 := hv.2
  rw [if_pos ht] at h2
  simp only [Bool.and_eq_true] at h2
  exact h2.1
theorem adr_bd {ls : List Ln} (F : Fit ls) (h : ls.length ≤ 60) (i : Nat) : adr (lens ls) i ≤ 480 := by
  by_cases hi : i ≤ ls.length
  · exact Nat.le_trans (adr_le (lens_low F).le8 i) (by omega)
  · have : adr (lens ls) i = adr (lens ls) ls.length := by
      unfold adr
      rw [List.take_of_length_le (by rw [(lens_low F).len]; omega), List.take_of_length_le (by rw [(lens_low F).len]; exact Nat.le_refl _)]
    rw [this]
    exact Nat.le_trans (adr_le (lens_low F).le8 _) (by omega)
set_option maxRecDepth 100000 in
set_option maxHeartbeats 16000000 in
theorem jumps_ok {A : Option Addr} {c m : Nat} {ls : List Ln} {w : World} (R : RL w A c ls) (hA : ∀ ad, A = some ad → 0 < ls.length → ad.block < w.heap.size) (hm : ls.length = m) (h60 : m ≤ 60) (hc : chk ls = 0) (hg : Good6 w) :
    Calls Tryd.prog 4 #[.slice A m c] w fun e w' => e = .returned (.bool true) ∧ Below w.heap.size w w' := by
  have HG := Lib.hid hg
  have HR := Lib.hid (And.intro R hm)
  have F := Lib.hid (fit_of hc R.ok (by omega))
  have HL := Lib.hid (lens_low F.out)
  have CH := Lib.hid (fun (W : World) (b : Below w.heap.size w W) => head_any W (HG.out.below b))
  obtain ⟨L, hL⟩ : ∃ L, adr (lens ls) m = L := ⟨_, rfl⟩
  have hLb : L ≤ 480 := by rw [← hL]; exact adr_bd F.out (by omega) m
  have hq : (C4.jl (insL ls)).length = L := by rw [code_all F.out, hm, hL]
  have HQ := Lib.hid hq
  have HLL := Lib.hid hL
  have C1 := Lib.hid ((asm_gives R hA hm (by omega) hg hc (show codeR ls = C4.jl (insL ls) from if_pos hc) hq (show (atR ls).length = m by unfold atR; rw [if_pos hc, atL_len, hm])).mono (R' := fun e W' => ∃ A c A' c', e = .returned (.tuple #[.slice A L c, .slice A' m c', .int .i64 0]) ∧ C4.RS W' A c (C4.jl (insL ls)) ∧ RN W' A' c' (atL ls) ∧ Below w.heap.size w W') (fun e W' h => by rwa [show atR ls = atL ls from if_pos hc] at h))
  have CA := Lib.hid (fun (n : Bs) (W : World) (b : Below w.heap.size w W) => RAt_any n (R.keep b) hm)
  have HF := Lib.hid (refs_of hc)
  have HFr := Lib.hid (fun (i : Nat) (hi : i < m) => fr_of hc (show i < ls.length by omega))
  have t60 : decide ((60 : Int) < (m : Int)) = false := by simp; omega
  clear R hA hm hc hg hL hq
  go_enter Tryd.func4, Tryd.ntmps4
  go_wp2_with (first
    | (go_at_call 11; (with_reducible refine C1.out.mono ?_); rintro e v1 ⟨A1, c1, D1, d1, rfl, r1, n1, b1⟩; have H1 := Lib.hid (And.intro b1 (And.intro r1 n1)); clear r1 n1 b1))
  go_loopw [6, 7] (fun x i wr => ∃ j S : Nat, j ≤ m ∧ S ≤ L ∧ i = .int .i64 j ∧ x = .int .i64 S ∧ Hid (S = adr (lens ls) j ∧ Below v1.heap.size v1 wr)) (fun _ i _ => m - (intOf i).toNat)
  case atStart => exact ⟨0, 0, Nat.zero_le _, Nat.zero_le _, rfl, rfl, Lib.hid ⟨rfl, b0 v1⟩⟩
  case round =>
    obtain ⟨j, S, hj, hSL, rfl, rfl, H⟩ := hrel
    by_cases hlt : (j : Int) < (m : Int)
    · have hjl : j < ls.length := by have := HR.out.2; omega
      have hSn : S + (lens ls).getD j 0 = adr (lens ls) (j + 1) := by rw [adr_succ, H.out.1]
      have hle : adr (lens ls) (j + 1) ≤ L := by
        have h := adr_mono (lens ls) (j + 1) (m - (j + 1))
        rw [show j + 1 + (m - (j + 1)) = m by omega, HLL.out] at h
        exact h
      have hn1 := HL.out.ge1 j hjl
      have hn8 := HL.out.le8 j
      have HN := Lib.hid hSn
      have B0 := Lib.hid (blw H1.out.1 H.out.2)
      have RC := C4.RS.kept0 H1.out.2.1 (g_of_below H.out.2)
      have hcap := RC.le
      rw [HQ.out] at hcap
      have RF := rs_from RC S
      have hget := code_get F.out hjl
      rw [← H.out.1] at hget
      have CG := Lib.hid (C4.Get_is (m := L - S) RF (by rw [List.length_drop, HQ.out]) hget)
      obtain ⟨ad, rfl, k0⟩ := (H1.out.2.2.keep H.out.2).rd j (by rw [atL_len]; exact hjl)
      rw [atL_at ls hjl, ← H.out.1] at k0
      have HAT := Lib.hid (fun (i : Nat) (hi : i < m) (W : World) (b : Below wr.heap.size wr W) => show W.cell? (ad.add i) = some (.int .i64 ((adr (lens ls) i : Nat) : Int)) by
        obtain ⟨ad', e, h⟩ := (H1.out.2.2.keep (blw H.out.2 b)).rd i (by rw [atL_len]; have := HR.out.2; omega)
        cases e
        rwa [atL_at ls (by have := HR.out.2; omega)] at h)
      obtain ⟨al, rfl, p0, p1, p2, p3, p4⟩ := (HR.out.1.keep B0.out).rd j hjl
      have HW := Lib.hid (fun (W : World) (b : Below wr.heap.size wr W) => show LnAt W (al.add (j * 5)) (ls.getD j l0) from LnAt.keep ⟨p0, p1, p2, p3, p4⟩ b)
      have r1 : ¬ c1 = S := by omega
      have r2 : (0 : Int) ≤ (S : Int) := by omega
      have r3 : (S : Int) ≤ (L : Int) := by omega
      have r4 : (S : Int) ≤ (c1 : Int) := by omega
      have hj0 : (0 : Int) ≤ (j : Int) := by omega
      have hb1 : S + (lens ls).getD j 0 ≤ L := by omega
      have HT1 := Lib.hid (HF.out j hjl)
      have HT2 := Lib.hid (HFr.out j (by omega))
      have HT3 := Lib.hid (fun (h : (ls.getD j l0).tgt.isEmpty = true) => opd_arg (ns := lens ls) h)
      have HT4 := Lib.hid (fun (k : Nat) (h1 : (ls.getD j l0).tgt.isEmpty = false) (h2 : (ls.getD j l0).fr.isEmpty = true) (h3 : fnd ls (ls.getD j l0).tgt = some k) => opd_jump (ns := lens ls) h1 h2 h3)
      have HT5 := Lib.hid (fun (k i : Nat) (h1 : (ls.getD j l0).tgt.isEmpty = false) (h2 : (ls.getD j l0).fr.isEmpty = false) (h3 : fnd ls (ls.getD j l0).tgt = some k) (h4 : fnd ls (ls.getD j l0).fr = some i) => opd_diff (ns := lens ls) h1 h2 h3 h4)
      have HOK := Lib.hid (HR.out.1.ok.get j)
      have HS := Lib.hid H.out.1
      have HBr := Lib.hid H.out.2
      rw [← HS.out] at HT4
      clear RC RF hget hSn hle H p0 p1 p2 p3 p4 hjl
      generalize hop : opd ls (lens ls) j = op at *
      generalize (lens ls).getD j 0 = n at *
      generalize ls.getD j l0 = x at *
      obtain ⟨lab, fn, arg, tgt, fr⟩ := x
      dsimp only at HT1 HT2 HT3 HT4 HT5 CG
      have f0 : ¬ (n : Int) < 1 := by omega
      have f1 : IntKind.i64.wrap ((L : Int) - (S : Int)) = (L : Int) - (S : Int) := IntWalk.i64_in _ (by omega)
      have f2 : ¬ (L : Int) - (S : Int) < (n : Int) := by omega
      have f3 : ¬ (L : Int) ≤ (S : Int) := by omega
      go_wp2_with (first
        | (go_at_call 12; (refine CG.out.mono ?_); rintro e v3 ⟨rfl, g3⟩; have B3 := Lib.hid (bal (g_below0 g3) (.cells #[.int .u8 (fn : Int), .int .i32 op] 35)); have q0 := (boxS_new v3 35 #[.int .u8 (fn : Int), .int .i32 op]).cell 0; have q1 := (boxS_new v3 35 #[.int .u8 (fn : Int), .int .i32 op]).cell 1; have l3 := HW.out _ B3.out; have l31 := l3.2.1; clear l3 g3))
      go_quiet (fail)
      have BW := Lib.hid (bdrew B3.out nq)
      have XW := Lib.hid ((boxS_new v3 35 #[.int .u8 (fn : Int), .int .i32 op]).below (bdrew (b0 _) nq))
      clear q0 q1 l31 B3 hop
      generalize (v3.alloc (.cells #[.int .u8 (fn : Int), .int .i32 op] 35)).drewN nq = W at *
      have x1 := XW.out.cell 1
      obtain ⟨w0, w1, w2, w3, w4⟩ := HW.out W BW.out
      dsimp only at w0 w1 w2 w3 w4
      have a1 := HOK.out.arg.1
      have a2 := HOK.out.arg.2
      dsimp only at a1 a2
      have e1 := strOf_empty tgt
      have e1' : (!(strOf tgt).toList.isEmpty) = !tgt.isEmpty := by rw [e1]
      have e2 := strOf_empty fr
      have e2' : (!(strOf fr).toList.isEmpty) = !fr.isEmpty := by rw [e2]
      have BA := Lib.hid (blw B0.out BW.out)
      have BE := Lib.hid (blw HBr.out BW.out)
      clear k0 f0 f1 f2 f3 r1 r2 r3 r4 CG
      cases ht : tgt.isEmpty with
      | true =>
        rw [ht] at e1 e1'
        obtain rfl := HT3.out ht
        clear ht e2 e2'
        go_wp2
        go_roundw
        case rel => exact ⟨j + 1, S + n, by omega, hb1, by go_num, by go_num, Lib.hid ⟨HN.out, BE.out⟩⟩
        case measure => simp [intOf]; omega
      | false =>
        rw [ht] at e1 e1'
        obtain ⟨k, hk⟩ := HT1.out.1 ht
        have hkm : k < m := by have := (fnd_some hk).1; have := HR.out.2; omega
        have CT := Lib.hid (CA.out tgt)
        rw [atI_hit hk] at CT
        have hk0 : (0 : Int) ≤ (k : Int) := by omega
        have hkm' : (k : Int) < (m : Int) := by omega
        have T0 := HAT.out k hkm W BW.out
        have hT := adr_bd F.out (by have := HR.out.2; omega) k
        cases hf : fr.isEmpty with
        | true =>
          rw [hf] at e2 e2'
          have hop := HT4.out k ht hf hk
          clear ht hf hk hkm HAT HT5
          generalize adr (lens ls) k = T at *
          subst hop
          go_wp2_with (first
            | (go_at_call 13; (with_reducible refine (CT.out _ BA.out).mono ?_); rintro e v5 ⟨rfl, rfl⟩))
          go_roundw
          case rel => exact ⟨j + 1, S + n, by omega, hb1, by go_num, by go_num, Lib.hid ⟨HN.out, BE.out⟩⟩
          case measure => simp [intOf]; omega
        | false =>
          rw [hf] at e2 e2'
          obtain ⟨i, hi⟩ := HT1.out.2 hf
          have him : i < m := by have := (fnd_some hi).1; have := HR.out.2; omega
          have CF := Lib.hid (CA.out fr)
          rw [atI_hit hi] at CF
          have hi0 : (0 : Int) ≤ (i : Int) := by omega
          have him' : (i : Int) < (m : Int) := by omega
          have U0 := HAT.out i him W BW.out
          have hU := adr_bd F.out (by have := HR.out.2; omega) i
          have hop := HT5.out k i ht hf hk hi
          clear ht hf hk hkm hi him HAT HT4
          generalize adr (lens ls) k = T at *
          generalize adr (lens ls) i = U at *
          subst hop
          have ff : IntKind.i64.wrap ((T : Int) - (U : Int)) = (T : Int) - (U : Int) := IntWalk.i64_in _ (by omega)
          have QT := Lib.hid (fun (q : Nat) => (CT.out (W.drewN q) (bdrew BA.out q)).mono (R' := fun e w' => e = .returned (.int .i64 (k : Int)) ∧ w' = W.drewN q) (fun _ _ h => ⟨h.1, h.2.symm⟩))
          have QF := Lib.hid (fun (q : Nat) => (CF.out (W.drewN q) (bdrew BA.out q)).mono (R' := fun e w' => e = .returned (.int .i64 (i : Int)) ∧ w' = W.drewN q) (fun _ _ h => ⟨h.1, h.2.symm⟩))
          go_wp2_with (first
            | (go_at_call 13; (with_reducible refine (CT.out _ BA.out).mono ?_); clear CT; rintro e v5 ⟨rfl, rfl⟩))
          go_quiet ((first | (go_at_call 13; (with_reducible exact Calls.quiet_of_same (QT.out _))) | (go_at_call 13; (with_reducible exact Calls.quiet_of_same (QF.out _)))))
          have BD := Lib.hid (bdrew BE.out nq)
          have x2 := (XW.out.below (bdrew (b0 W) nq)).cell 1
          generalize W.drewN nq = Z at *
          go_wp2
          go_roundw
          case rel => exact ⟨j + 1, S + n, by omega, hb1, by go_num, by go_num, Lib.hid ⟨HN.out, BD.out⟩⟩
          case measure => simp [intOf]; omega
    · obtain rfl : j = m := by omega
      have HE := Lib.hid (blw H1.out.1 H.out.2)
      have hSL' : S = L := by rw [H.out.1, HLL.out]
      have hSe : ((S : Int) == (L : Int)) = true := by rw [hSL']; simp
      clear H hSL'
      go_wp2_with (go_at_call 7; (with_reducible refine (CH.out _ HE.out).mono ?_); rintro e v9 ⟨rfl, b9⟩; have B9 := Lib.hid (blw HE.out b9); clear b9)
      go_ret
      exact ⟨rfl, B9.out⟩
set_option maxRecDepth 100000 in
set_option maxHeartbeats 16000000 in
theorem walkAsmJumps (a0 : Option Addr) (len0 cap0 : Nat) (w : World) (w0 : IsLs w a0 len0 cap0) (hg : Good6 w) :
    Calls Tryd.prog 4 #[.slice a0 len0 cap0] w fun e w' => e = .returned (.bool true) ∧ Below w.heap.size w w' := by
  obtain ⟨ls, hm, R, hA0⟩ := w0
  have hA : ∀ ad, a0 = some ad → 0 < ls.length → ad.block < w.heap.size := fun ad e h => hA0 (by omega) ad e
  have hmx : len0 ≤ maxLen := by rw [← hm]; exact Nat.le_trans R.le R.mx
  unfold maxLen at hmx
  by_cases h60 : (60 : Int) < (len0 : Int)
  · have HG := Lib.hid hg
    have CH := Lib.hid (fun (W : World) (b : Below w.heap.size w W) => head_any W (HG.out.below b))
    have t60 : decide ((60 : Int) < (len0 : Int)) = true := by simpa using h60
    clear hg R hm hA hA0
    go_enter Tryd.func4, Tryd.ntmps4
    go_wp2_with (go_at_call 7; (with_reducible refine (CH.out _ (b0 _)).mono ?_); rintro e v9 ⟨rfl, b9⟩; have B9 := Lib.hid b9; clear b9)
    go_ret
    exact ⟨rfl, B9.out⟩
  · by_cases hc : chk ls = 0
    · exact jumps_ok R hA hm (by omega) hc hg
    · have HG := Lib.hid hg
      have CH := Lib.hid (fun (W : World) (b : Below w.heap.size w W) => head_any W (HG.out.below b))
      have t60 : decide ((60 : Int) < (len0 : Int)) = false := by simpa using h60
      obtain ⟨k, hk⟩ : ∃ k, chk ls = k := ⟨_, rfl⟩
      have h0 : k ≠ 0 := by rw [← hk]; exact hc
      have C1 := Lib.hid (asm_gives (q := 0) (p := 0) R hA hm (by omega) hg hk (show codeR ls = [] from if_neg hc) rfl (show (atR ls).length = 0 by unfold atR; rw [if_neg hc]; rfl))
      have k1 : (k != 0) = true := by simpa using h0
      clear hg R hm hA hA0 hk h60 h0 hc
      go_enter Tryd.func4, Tryd.ntmps4
      go_wp2_with (first
        | (go_at_call 11; (with_reducible refine C1.out.mono ?_); rintro e v1 ⟨A1, c1, D1, d1, rfl, _, _, b1⟩; have H1 := Lib.hid b1; clear b1)
        | (go_at_call 7; (with_reducible refine (CH.out _ H1.out).mono ?_); rintro e v9 ⟨rfl, b9⟩; have B9 := Lib.hid (blw H1.out b9); clear b9))
      go_ret
      exact ⟨rfl, B9.out⟩
end Go.Proofs.YtjdjkdgdbdenpaaDoor
