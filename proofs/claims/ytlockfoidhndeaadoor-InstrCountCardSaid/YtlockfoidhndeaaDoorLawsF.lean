/- The law that counts the instructions returns true. -/
import Derived.Test.YtlockfoidhndeaaDoorCount
namespace Go.Proofs.YtlockfoidhndeaaDoor
open Go Go.RowKit Go.Maps

theorem mapLaw : Keyed Tryd.prog 9 := string_keyed Tryd.underlying9
/-- What lies in the map's block. -/
def MapAt (W : World) (B n : Nat) (L : List (Int × Int)) : Prop := ∃ D : DataW Unit, W.ownsMap Tryd.prog 9 (plainElem Tryd.prog 4) B n D ∧ MapRel D L
theorem MapAt.below {W W' : World} {B n : Nat} {L : List (Int × Int)} (h : MapAt W B n L) (b : Below W.heap.size W W') : MapAt W' B n L := by
  obtain ⟨D, h1, h2⟩ := h
  exact ⟨D, h1.kept (row := none) ⟨b.os, b.tape, b.output, b.size, fun k hk _ => b.block k hk⟩ (by simp), h2⟩
theorem own_below {W W' : World} {B n : Nat} {D : DataW Unit} (h : W.ownsMap Tryd.prog 9 (plainElem Tryd.prog 4) B n D) (b : Below W.heap.size W W') : W'.ownsMap Tryd.prog 9 (plainElem Tryd.prog 4) B n D :=
  h.kept (row := none) ⟨b.os, b.tape, b.output, b.size, fun k hk _ => b.block k hk⟩ (by simp)
/-- What the loops keep. -/
def St (w : World) (k j : Nat) (W : World) : Prop := Below w.heap.size w W ∧ ∃ n, n ≤ k * 256 + j ∧ MapAt W w.heap.size n (dF k j ++ dO k j)
theorem below_row' {w X Y : World} (h : Below w.heap.size w X) (hg : X.grownBy Y (some w.heap.size)) : Below w.heap.size w Y :=
  ⟨hg.os.trans h.os, hg.tape.trans h.tape, hg.output.trans h.output, Nat.le_trans h.size hg.size, fun k hk => (hg.block k (Nat.lt_of_lt_of_le hk h.size) (fun e => by cases e; omega)).trans (h.block k hk)⟩
theorem St.below {w W W' : World} {k j : Nat} (h : St w k j W) (b : Below W.heap.size W W') : St w k j W' := by
  obtain ⟨h1, n, hn, h2⟩ := h
  exact ⟨blw h1 b, n, hn, h2.below b⟩
theorem St.skip {w W : World} {k j : Nat} (h : St w k j W) (e1 : dF k (j + 1) = dF k j) (e2 : dO k (j + 1) = dO k j) : St w k (j + 1) W := by
  obtain ⟨h1, n, hn, h2⟩ := h
  exact ⟨h1, n, by omega, by rw [e1, e2]; exact h2⟩
theorem St.next {w W : World} {k : Nat} (h : St w k 256 W) : St w (k + 1) 0 W := by
  obtain ⟨h1, n, hn, h2⟩ := h
  exact ⟨h1, n, by omega, by rw [(d_next k).1, (d_next k).2]; exact h2⟩
theorem St.put {w W W' : World} {k j n : Nat} {D : DataW Unit} (h : St w k j W) (hn : n ≤ k * 256 + j) (hr : MapRel D (dF k j ++ dO k j)) (he : ex (k : Int) (j : Int) = true)
    (ho : W'.ownsMap Tryd.prog 9 (plainElem Tryd.prog 4) w.heap.size (n + 1) (D.put (.string (nm (k : Int) (j : Int))) (.lit (.bool true)))) (hg : W.grownBy W' (some w.heap.size)) : St w k (j + 1) W' :=
  ⟨below_row' h.1 hg, n + 1, by omega, _, ho, (d_step hr _ he).1⟩
set_option maxRecDepth 100000 in
set_option maxHeartbeats 2000000 in
theorem walkInstrCount (w : World) (hg : Good w) :
    Calls Tryd.prog 8 #[] w fun e w' => e = .returned (.bool true) ∧ Below w.heap.size w w' := by
  have hmm := @run_makeMap Tryd.prog
  have N := Lib.hid (fun (k j : Nat) (hk : k < 256) (hj : j < 256) => name_at hg (f := (k : Int)) (a := (j : Int)) (by omega) ⟨by omega, by omega⟩ rfl)
  have E := Lib.hid (fun (k j : Nat) (hk : k < 256) (hj : j < 256) => eff_at hg (f := (k : Int)) (a := (j : Int)) (by omega) ⟨by omega, by omega⟩ rfl rfl rfl)
  have A := Lib.hid (awake_at hg)
  clear hg
  go_enter Tryd.func8, Tryd.ntmps8
  go_wp2
  have S0 : St w 0 0 (w.alloc (.map #[] 0)) := ⟨bal (b0 w) _, 0, Nat.zero_le _, .map [], World.ownsMap_made _ _ _ _, by rw [d_start.1, d_start.2]; exact mapRel_empty⟩
  have H0 := Lib.hid S0
  clear S0 hmm
  go_loopw [2, 3, 13] (fun F O i wr => ∃ k : Nat, k ≤ 256 ∧ i = .int .i64 k ∧ F = .int .i64 ((dF k 0).length : Nat) ∧ O = .int .i64 ((dO k 0).length : Nat) ∧ Hid (St w k 0 wr)) (fun _ _ i _ => 256 - (intOf i).toNat)
  case atStart => exact ⟨0, Nat.zero_le _, rfl, by rw [d_start.1]; rfl, by rw [d_start.2]; rfl, H0.out⟩
  case round =>
    obtain ⟨k, hk, rfl, rfl, rfl, H⟩ := hrel
    by_cases hlt : k < 256
    · obtain ⟨wo, rfl⟩ : ∃ wo : World, wo = wr := ⟨_, rfl⟩
      have hkt : decide ((k : Int) < 256) = true := by simp; omega
      go_wp2
      go_loopw [2, 3, 16] (fun F O i wr => ∃ j : Nat, j ≤ 256 ∧ i = .int .i64 j ∧ F = .int .i64 ((dF k j).length : Nat) ∧ O = .int .i64 ((dO k j).length : Nat) ∧ Hid (St w k j wr)) (fun _ _ i _ => 256 - (intOf i).toNat)
      case atStart => exact ⟨0, Nat.zero_le _, rfl, rfl, rfl, H⟩
      case round =>
        obtain ⟨j, hj, rfl, rfl, rfl, G⟩ := hrel
        by_cases hjt : j < 256
        · have w1 : IntKind.u8.wrap (k : Int) = k := by simp [IntKind.wrap, IntKind.signed, IntKind.bits]; omega
          have w2 : wrap32 (j : Int) = j := by unfold wrap32; omega
          have NN := Lib.hid (N.out k j hlt hjt)
          have EE := Lib.hid (E.out k j hlt hjt)
          cases he : ex (k : Int) (j : Int)
          · obtain ⟨s1, s2⟩ := d_skip he
            rw [he] at NN
            have HS := Lib.hid (And.intro s1 s2)
            clear s1 s2 he
            go_wp2_with (go_at_call 12; refine (NN.out _ (bal G.out.1 _)).mono ?_; rintro e w3 ⟨rfl, b3⟩; have G3 := Lib.hid (blw (bal (b0 _) _) b3); clear b3)
            go_roundw
            case rel => exact ⟨j + 1, by omega, by go_num, by rw [HS.out.1], by rw [HS.out.2], (G.out.below G3.out).skip HS.out.1 HS.out.2⟩
            case measure => simp [intOf]; omega
          · obtain ⟨hfi, hc, hl, hu, hle, t0, t1, t2, t3, t4⟩ := ex_facts (f := (k : Int)) (by omega) he
            rw [he] at NN EE
            have HE := Lib.hid he
            have q1 : decide (tk (k : Int) (j : Int) < 0) = false := by simpa using t0
            have q2 : decide ((3 : Int) < tk (k : Int) (j : Int)) = false := by simpa using t1
            have q3 : decide (lv (k : Int) (j : Int) < 0) = false := by simpa using t2
            have q4 : decide ((3 : Int) < lv (k : Int) (j : Int)) = false := by simpa using t3
            have q5 : decide (tk (k : Int) (j : Int) + 1 < lv (k : Int) (j : Int)) = false := by simpa using t4
            have hkey := Go.WideMaps.keyOf_string_mk (P := Tryd.prog) (k := 9) Tryd.underlying9 (str_sz (l := nm (k : Int) (j : Int)) (by omega))
            rw [strOf_data] at hkey
            have HK := Lib.hid hkey
            obtain ⟨_, n, hn, D, hown, hrel⟩ := G.out
            have hsz : (dF k j).length + (dO k j).length ≤ 65536 := by
              have h1 := hown.size_le
              rw [hrel.2.1, List.length_append] at h1
              omega
            have HR := Lib.hid (And.intro hn hrel)
            have hl2 := (d_step hrel (.lit (.bool true) : DataW Unit) he).2
            have HO := Lib.hid hown
            obtain ⟨nn, hnn⟩ : ∃ nn, nn = nm (k : Int) (j : Int) := ⟨_, rfl⟩
            rw [← hnn] at NN HK
            have HN := Lib.hid hnn
            generalize (dF k j).length = lf at *
            generalize (dO k j).length = lo at *
            clear he hfi hc hl hu hle hkey hn hrel hown hnn
            generalize tk (k : Int) (j : Int) = tt at *
            generalize lv (k : Int) (j : Int) = ll at *
            obtain ⟨d1, d2, c1, c2, e1, e2⟩ : ∃ d1 d2 : Nat, (((k : Int) == 15) = decide (k = 15)) ∧ (((j : Int) == 0) = decide (j = 0)) ∧ (dF k (j + 1)).length = lf + d1 ∧ (dO k (j + 1)).length = lo + d2 ∧ d1 = (if k ≠ 15 ∧ j = 0 then 1 else 0) ∧ d2 = (if k = 15 then 1 else 0) := by
              refine ⟨_, _, ?_, ?_, hl2.1, hl2.2, rfl, rfl⟩
              · by_cases h : k = 15 <;> simp [h]; omega
              · by_cases h : j = 0 <;> simp [h]
            have HL := Lib.hid (And.intro e1 e2.1)
            obtain ⟨_, hd1, hd2⟩ := e2
            clear hl2 e1
            by_cases hk15 : k = 15
            · rw [if_neg (fun e => e.1 hk15)] at hd1
              rw [if_pos hk15] at hd2
              rw [decide_eq_true hk15] at c1
              subst hd1 hd2
              clear hk15 c2
              go_wp2_with (first
                | (go_at_call 12; refine (NN.out _ (bal G.out.1 _)).mono ?_; rintro e w3 ⟨rfl, b3⟩; obtain ⟨x1, x2, x3⟩ := box2 b3; have G3 := Lib.hid (blw (bal (b0 _) _) b3); clear b3)
                | (go_at_call 13; refine (EE.out _ (blw G.out.1 G3.out)).mono ?_; rintro e w4 ⟨rfl, b4⟩; have G4 := Lib.hid (blw G3.out b4); clear b4)
                | (at_mapUpdate; refine wpList_mapUpdate_own _ rfl _ _ _ 46 rfl 9 4 mapLaw Tryd.underlying46 (plainElem Tryd.prog 4) w.heap.size n D rfl (own_below HO.out G4.out) (by have := HR.out.1; unfold maxLen; omega) _ _ (.string nn) rfl rfl HK.out (.lit (.bool true)) [] (plainElem_bool Tryd.underlying4 true) ?_; intro w5 ho5 hg5; have T := Lib.hid ((G.out.below G4.out).put HR.out.1 HR.out.2 HE.out (by rw [← HN.out]; exact ho5) hg5); clear ho5 hg5))
              exact ⟨⟨j + 1, by omega, congrArg (Value.int IntKind.i64) (by omega), by rw [HL.out.1]; exact congrArg (Value.int IntKind.i64) (by omega), by rw [HL.out.2]; exact congrArg (Value.int IntKind.i64) (by omega), T⟩, by simp [intOf]; omega⟩
            · rw [if_neg hk15] at hd2
              rw [decide_eq_false hk15] at c1
              by_cases hj0 : j = 0
              · rw [if_pos ⟨hk15, hj0⟩] at hd1
                rw [decide_eq_true hj0] at c2
                subst hd1 hd2
                clear hk15 hj0
                go_wp2_with (first
                | (go_at_call 12; refine (NN.out _ (bal G.out.1 _)).mono ?_; rintro e w3 ⟨rfl, b3⟩; obtain ⟨x1, x2, x3⟩ := box2 b3; have G3 := Lib.hid (blw (bal (b0 _) _) b3); clear b3)
                | (go_at_call 13; refine (EE.out _ (blw G.out.1 G3.out)).mono ?_; rintro e w4 ⟨rfl, b4⟩; have G4 := Lib.hid (blw G3.out b4); clear b4)
                | (at_mapUpdate; refine wpList_mapUpdate_own _ rfl _ _ _ 46 rfl 9 4 mapLaw Tryd.underlying46 (plainElem Tryd.prog 4) w.heap.size n D rfl (own_below HO.out G4.out) (by have := HR.out.1; unfold maxLen; omega) _ _ (.string nn) rfl rfl HK.out (.lit (.bool true)) [] (plainElem_bool Tryd.underlying4 true) ?_; intro w5 ho5 hg5; have T := Lib.hid ((G.out.below G4.out).put HR.out.1 HR.out.2 HE.out (by rw [← HN.out]; exact ho5) hg5); clear ho5 hg5))
                exact ⟨⟨j + 1, by omega, congrArg (Value.int IntKind.i64) (by omega), by rw [HL.out.1]; exact congrArg (Value.int IntKind.i64) (by omega), by rw [HL.out.2]; exact congrArg (Value.int IntKind.i64) (by omega), T⟩, by simp [intOf]; omega⟩
              · rw [if_neg (fun e => hj0 e.2)] at hd1
                rw [decide_eq_false hj0] at c2
                subst hd1 hd2
                clear hk15 hj0
                go_wp2_with (first
                | (go_at_call 12; refine (NN.out _ (bal G.out.1 _)).mono ?_; rintro e w3 ⟨rfl, b3⟩; obtain ⟨x1, x2, x3⟩ := box2 b3; have G3 := Lib.hid (blw (bal (b0 _) _) b3); clear b3)
                | (go_at_call 13; refine (EE.out _ (blw G.out.1 G3.out)).mono ?_; rintro e w4 ⟨rfl, b4⟩; have G4 := Lib.hid (blw G3.out b4); clear b4)
                | (at_mapUpdate; refine wpList_mapUpdate_own _ rfl _ _ _ 46 rfl 9 4 mapLaw Tryd.underlying46 (plainElem Tryd.prog 4) w.heap.size n D rfl (own_below HO.out G4.out) (by have := HR.out.1; unfold maxLen; omega) _ _ (.string nn) rfl rfl HK.out (.lit (.bool true)) [] (plainElem_bool Tryd.underlying4 true) ?_; intro w5 ho5 hg5; have T := Lib.hid ((G.out.below G4.out).put HR.out.1 HR.out.2 HE.out (by rw [← HN.out]; exact ho5) hg5); clear ho5 hg5))
                exact ⟨⟨j + 1, by omega, congrArg (Value.int IntKind.i64) (by omega), by rw [HL.out.1]; exact congrArg (Value.int IntKind.i64) (by omega), by rw [HL.out.2]; exact congrArg (Value.int IntKind.i64) (by omega), T⟩, by simp [intOf]; omega⟩
        · have hjf : decide ((j : Int) < 256) = false := by simp; omega
          go_wp2
          obtain rfl : j = 256 := by omega
          exact ⟨⟨k + 1, by omega, congrArg (Value.int IntKind.i64) (by omega), by rw [(d_next k).1], by rw [(d_next k).2], Lib.hid G.out.next⟩, by simp [intOf]; omega⟩
    · obtain rfl : k = 256 := by omega
      obtain ⟨hb, n, hn, D, hown, hrel⟩ := H.out
      have hlen := hown.len Tryd.underlying46 3
      rw [hrel.2.1, d_all.1, d_all.2, List.length_append, upF_len, upO_len] at hlen
      rw [d_all.1, d_all.2, upF_len, upO_len]
      have HB := Lib.hid hb
      clear hb hn hown hrel
      go_wp2_with (go_at_call 17; refine (A.out _ HB.out).mono ?_; rintro e w3 ⟨rfl, b3⟩; have G3 := Lib.hid (blw HB.out b3); clear b3)
      go_ret
      exact ⟨rfl, G3.out⟩
end Go.Proofs.YtlockfoidhndeaaDoor
