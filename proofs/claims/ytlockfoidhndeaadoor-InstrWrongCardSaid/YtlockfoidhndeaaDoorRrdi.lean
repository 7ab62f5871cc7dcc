/- What the reference reads a text as. -/
import Derived.Test.YtlockfoidhndeaaDoorRtxt
namespace Go.Proofs.YtlockfoidhndeaaDoor
open Go Go.RowKit

theorem rnamed_at {l : List UInt8} {f a : Int} {o : Bool} (h1 : ndF l = f) (h2 : ndA l = a) (h3 : ndO l = o) (W : World) :
    Calls Tryd.prog 19 #[.string (strOf l)] W fun e w' => e = .returned (.tuple #[.agg #[.int .u8 f, .int .i32 a], .bool o]) ∧ Below W.heap.size W w' := by
  have h := RNamed_any (strOf l) W
  rw [strOf_data, h1, h2, h3] at h
  exact h
theorem rword_at {l : List UInt8} (hl : l.length ≤ maxLen) {v e : Int} (h1 : readC l = (v, e)) (W : World) :
    Calls Tryd.prog 37 #[.string (strOf l)] W fun x w' => x = .returned (.tuple #[.int .i32 v, .int .i64 e]) ∧ ∃ n, w' = W.drewN n := by
  have h := RRead_any (strOf l) W (by rw [strOf_size]; exact hl)
  rw [strOf_data, ← readC_eq, h1] at h
  exact h
set_option maxRecDepth 100000 in
set_option maxHeartbeats 4000000 in
theorem RRead_is (s : ByteArray) (hs : s.size ≤ maxLen) (w : World) :
    Calls Tryd.prog 21 #[.string s] w (RetI (rdI s.data.toList).1 (rdI s.data.toList).2.1 (rdI s.data.toList).2.2 w) := by
  unfold maxLen at hs
  obtain ⟨z1, z2, z3⟩ := hd_size s
  have hx := hd_ext s
  have hy := tl_ext s
  have hb := fun k hk h => byte_in s (k := k) hk h
  have hc := byte_sp s
  have htl : (tl s.data.toList).length ≤ maxLen := by
    have hlen : s.data.toList.length = s.size := by simp
    unfold tl maxLen
    rw [List.length_drop]
    have := (List.dropWhile_sublist (p := (· != (32 : UInt8))) (l := s.data.toList)).length_le
    omega
  have hidx := fun (k : Nat) (h : k < s.size) (W : World) => index_str s k h W
  generalize s.data.toList = l at *
  generalize hm : (hd l).length = m at *
  have HX := Lib.hid hx
  have HB := Lib.hid hb
  have HI := Lib.hid hidx
  clear hx hb hidx hm
  unfold RetI
  go_enter Tryd.func21, Tryd.ntmps21
  go_wp2
  go_loop [4] (fun i => ∃ k : Nat, k ≤ m ∧ i = .int .i64 k) (fun i => m - (intOf i).toNat)
  case atStart => exact ⟨0, Nat.zero_le _, rfl⟩
  case round =>
    obtain ⟨k, hk, rfl⟩ := hrel
    by_cases hlt : k < m
    · have k1 : k < s.size := by omega
      have k2 : decide ((k : Int) < (s.size : Int)) = true := by simp; omega
      have k3 := HI.out k k1
      have k4 : (((s[k].toNat : Nat) : Int) != 32) = true := by simpa using HB.out k hlt k1
      go_wp2
      go_round
      case rel => exact ⟨k + 1, by omega, by go_num⟩
      case measure => simp [intOf]; omega
    · obtain rfl : k = m := by omega
      have c1 : (0 : Int) ≤ (k : Int) := by omega
      have c2 : (k : Int) ≤ (s.size : Int) := by omega
      cases hsp : hasSp l
      · have k2 : decide ((k : Int) < (s.size : Int)) = false := by have := z2 hsp; simp; omega
        have k5 : ((k : Int) == (s.size : Int)) = true := by have := z2 hsp; simp; omega
        clear z1 z2 z3 hc hy
        cases hf : findI (hd l) with
        | none =>
          obtain ⟨n1, n2, n3⟩ := nd_none hf
          have CN := Lib.hid (fun W => (by rw [HX.out]; exact rnamed_at n1 n2 n3 W : Calls Tryd.prog 19 #[.string (s.extract 0 k)] W fun e w' => e = .returned (.tuple #[.agg #[.int .u8 0, .int .i32 0], .bool false]) ∧ Below W.heap.size W w'))
          have HR := Lib.hid (rd_none hf)
          clear hf n1 n2 n3 hsp htl
          go_wp2_with (go_at_call 19; refine (CN.out _).mono ?_; rintro e w2 ⟨rfl, b2⟩; have R2 := Lib.hid (BoxS.below (boxS_new w 23 #[.int .u8 0, .int .i32 0]) b2); obtain ⟨r1, r2, r3, r4, r5⟩ := boxf R2.out; have B2 := Lib.hid (blw (bal (b0 w) _) b2); clear b2)
          refine bodyPost_ret (v := .tuple #[.agg #[.int .u8 0, .int .i32 0], .int .i64 50]) (by simp [results, Tryd.results21, go_sem, r1, r2, r5]) rfl ⟨?_, ?_⟩
          · rw [HR.out]
          · exact bal (bset (bset B2.out (Nat.le_refl _) _) (Nat.le_refl _) _) _
        | some p =>
          obtain ⟨n1, n2, n3⟩ := nd_some hf
          have CN := Lib.hid (fun W => (by rw [HX.out]; exact rnamed_at n1 n2 n3 W : Calls Tryd.prog 19 #[.string (s.extract 0 k)] W fun e w' => e = .returned (.tuple #[.agg #[.int .u8 p.1, .int .i32 p.2], .bool true]) ∧ Below W.heap.size W w'))
          clear n1 n2 n3
          by_cases hp : p.1 = 15
          · have h15 : (p.1 == 15) = true := by simpa using hp
            have HR := Lib.hid (rd_op hf hp hsp)
            have HP := Lib.hid hp
            clear hf hp hsp htl
            go_wp2_with (go_at_call 19; refine (CN.out _).mono ?_; rintro e w2 ⟨rfl, b2⟩; have R2 := Lib.hid (BoxS.below (boxS_new w 23 #[.int .u8 0, .int .i32 0]) b2); obtain ⟨r1, r2, r3, r4, r5⟩ := boxf R2.out; have B2 := Lib.hid (blw (bal (b0 w) _) b2); clear b2)
            refine bodyPost_ret (v := .tuple #[.agg #[.int .u8 p.1, .int .i32 p.2], .int .i64 0]) (by simp [results, Tryd.results21, go_sem, r1, r2, r5]) rfl ⟨?_, ?_⟩
            · rw [HR.out, HP.out]
            · exact bal (bset (bset B2.out (Nat.le_refl _) _) (Nat.le_refl _) _) _
          · have h15 : (p.1 == 15) = false := by simpa using hp
            have HR := Lib.hid (rd_fn_no hf hp hsp)
            clear hf hp hsp htl
            go_wp2_with (go_at_call 19; refine (CN.out _).mono ?_; rintro e w2 ⟨rfl, b2⟩; have R2 := Lib.hid (BoxS.below (boxS_new w 23 #[.int .u8 0, .int .i32 0]) b2); obtain ⟨r1, r2, r3, r4, r5⟩ := boxf R2.out; have B2 := Lib.hid (blw (bal (b0 w) _) b2); clear b2)
            refine bodyPost_ret (v := .tuple #[.agg #[.int .u8 0, .int .i32 0], .int .i64 5]) (by simp [results, Tryd.results21, go_sem, r1, r2, r5]) rfl ⟨?_, ?_⟩
            · rw [HR.out]
            · exact bal (bset (bset B2.out (Nat.le_refl _) _) (Nat.le_refl _) _) _
      · have k1 : k < s.size := z1 hsp
        have k2 : decide ((k : Int) < (s.size : Int)) = true := by simp; omega
        have k3 := HI.out k k1
        have k4 : (((s[k].toNat : Nat) : Int) != 32) = false := by simpa using hc hsp k1
        have k5 : ((k : Int) == (s.size : Int)) = false := by simp; omega
        have c3 : (0 : Int) ≤ (k : Int) + 1 := by omega
        have c4 : (k : Int) + 1 ≤ (s.size : Int) := by omega
        have HY := Lib.hid (hy hsp)
        clear z1 z2 z3 hc hy
        cases hf : findI (hd l) with
        | none =>
          obtain ⟨n1, n2, n3⟩ := nd_none hf
          have CN := Lib.hid (fun W => (by rw [HX.out]; exact rnamed_at n1 n2 n3 W : Calls Tryd.prog 19 #[.string (s.extract 0 k)] W fun e w' => e = .returned (.tuple #[.agg #[.int .u8 0, .int .i32 0], .bool false]) ∧ Below W.heap.size W w'))
          have HR := Lib.hid (rd_none hf)
          clear hf n1 n2 n3 hsp htl
          go_wp2_with (go_at_call 19; refine (CN.out _).mono ?_; rintro e w2 ⟨rfl, b2⟩; have R2 := Lib.hid (BoxS.below (boxS_new w 23 #[.int .u8 0, .int .i32 0]) b2); obtain ⟨r1, r2, r3, r4, r5⟩ := boxf R2.out; have B2 := Lib.hid (blw (bal (b0 w) _) b2); clear b2)
          refine bodyPost_ret (v := .tuple #[.agg #[.int .u8 0, .int .i32 0], .int .i64 50]) (by simp [results, Tryd.results21, go_sem, r1, r2, r5]) rfl ⟨?_, ?_⟩
          · rw [HR.out]
          · exact bal (bset (bset B2.out (Nat.le_refl _) _) (Nat.le_refl _) _) _
        | some p =>
          obtain ⟨n1, n2, n3⟩ := nd_some hf
          have CN := Lib.hid (fun W => (by rw [HX.out]; exact rnamed_at n1 n2 n3 W : Calls Tryd.prog 19 #[.string (s.extract 0 k)] W fun e w' => e = .returned (.tuple #[.agg #[.int .u8 p.1, .int .i32 p.2], .bool true]) ∧ Below W.heap.size W w'))
          clear n1 n2 n3
          by_cases hp : p.1 = 15
          · have h15 : (p.1 == 15) = true := by simpa using hp
            have HR := Lib.hid (rd_op_sp hf hp hsp)
            clear hf hp hsp htl
            go_wp2_with (go_at_call 19; refine (CN.out _).mono ?_; rintro e w2 ⟨rfl, b2⟩; have R2 := Lib.hid (BoxS.below (boxS_new w 23 #[.int .u8 0, .int .i32 0]) b2); obtain ⟨r1, r2, r3, r4, r5⟩ := boxf R2.out; have B2 := Lib.hid (blw (bal (b0 w) _) b2); clear b2)
            refine bodyPost_ret (v := .tuple #[.agg #[.int .u8 0, .int .i32 0], .int .i64 5]) (by simp [results, Tryd.results21, go_sem, r1, r2, r5]) rfl ⟨?_, ?_⟩
            · rw [HR.out]
            · exact bal (bset (bset B2.out (Nat.le_refl _) _) (Nat.le_refl _) _) _
          · have h15 : (p.1 == 15) = false := by simpa using hp
            obtain ⟨v, er, hve⟩ : ∃ v er, readC (tl l) = (v, er) := ⟨_, _, rfl⟩
            have CW := Lib.hid (fun W => (by rw [HY.out]; exact rword_at htl hve W : Calls Tryd.prog 37 #[.string (s.extract (k + 1) s.size)] W fun x w' => x = .returned (.tuple #[.int .i32 v, .int .i64 er]) ∧ ∃ n, w' = W.drewN n))
            by_cases her : er = 0
            · subst her
              have HR := Lib.hid (rd_fn_ok hf hp hsp (by rw [hve]))
              rw [hve] at HR
              clear hf hp hsp htl hve
              go_wp2_with (first | (go_at_call 19; refine (CN.out _).mono ?_; rintro e w2 ⟨rfl, b2⟩; have R2 := Lib.hid (BoxS.below (boxS_new w 23 #[.int .u8 0, .int .i32 0]) b2); obtain ⟨r1, r2, r3, r4, r5⟩ := boxf R2.out; have B2 := Lib.hid (blw (bal (b0 w) _) b2); clear b2) | (go_at_call 37; refine (CW.out _).mono ?_; rintro e w4 ⟨rfl, nw, rfl⟩))
              refine bodyPost_ret (v := .tuple #[.agg #[.int .u8 p.1, .int .i32 v], .int .i64 0]) (by simp [results, Tryd.results21, go_sem, r1, r2, r5]) rfl ⟨?_, ?_⟩
              · rw [HR.out]
              · exact bset (bset (bdrew (bal B2.out _) _) (Nat.le_refl _) _) (Nat.le_refl _) _
            · have HR := Lib.hid (rd_fn_bad hf hp hsp (by rw [hve]; exact her))
              have her' : (er != 0) = true := by simpa using her
              clear hf hp hsp htl hve her
              go_wp2_with (first | (go_at_call 19; refine (CN.out _).mono ?_; rintro e w2 ⟨rfl, b2⟩; have R2 := Lib.hid (BoxS.below (boxS_new w 23 #[.int .u8 0, .int .i32 0]) b2); obtain ⟨r1, r2, r3, r4, r5⟩ := boxf R2.out; have B2 := Lib.hid (blw (bal (b0 w) _) b2); clear b2) | (go_at_call 37; refine (CW.out _).mono ?_; rintro e w4 ⟨rfl, nw, rfl⟩))
              refine bodyPost_ret (v := .tuple #[.agg #[.int .u8 0, .int .i32 0], .int .i64 5]) (by simp [results, Tryd.results21, go_sem, r1, r2, r5]) rfl ⟨?_, ?_⟩
              · rw [HR.out]
              · exact bset (bset (bdrew (bal B2.out _) _) (Nat.le_refl _) _) (Nat.le_refl _) _
end Go.Proofs.YtlockfoidhndeaaDoor
