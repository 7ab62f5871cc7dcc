/- The reference: the kind of a literal (by tools/gen14k.py). -/
import Derived.Test.YtimbiobonigdmaaGreatDoorZvl
import Derived.Test.YtimbiobonigdmaaGreatDoorM13
set_option linter.unusedVariables false
set_option linter.unusedSimpArgs false
namespace Go.Proofs.YtimbiobonigdmaaGreatDoor
open Go Go.RowKit L8 L10 L14

/-- What kind answers. -/
def KdR (w : World) (K : Nat) (e : Ending) (w' : World) : Prop := e = .returned (.int .u8 (K : Int)) ∧ Below w.heap.size w w'
theorem zk_1 (v : Int) (S : ByteArray) (A : Option Addr) (c : Nat) (E : Option Addr) (kk d : Nat) (w : World) : Calls Tryz.prog 42 #[.agg #[.int .u8 1, .int .u8 0, .int .u8 0, .int .i32 v, .string ⟨#[]⟩, .slice A 0 c], .slice E kk d] w (KdR w 1) := by
  have HB := Lib.hid (bal (b0 w) (.cells #[.int .u8 1, .int .u8 0, .int .u8 0, .int .i32 v, .string ⟨#[]⟩, .slice A 0 c] 27))
  unfold KdR
  go_enter Tryz.func42, Tryz.ntmps42
  go_wp2
  go_ret
  exact ⟨rfl, HB.out⟩
theorem zk_2 (v : Int) (S : ByteArray) (A : Option Addr) (c : Nat) (E : Option Addr) (kk d : Nat) (w : World) : Calls Tryz.prog 42 #[.agg #[.int .u8 2, .int .u8 0, .int .u8 0, .int .i32 v, .string ⟨#[]⟩, .slice A 0 c], .slice E kk d] w (KdR w 2) := by
  have HB := Lib.hid (bal (b0 w) (.cells #[.int .u8 2, .int .u8 0, .int .u8 0, .int .i32 v, .string ⟨#[]⟩, .slice A 0 c] 27))
  unfold KdR
  go_enter Tryz.func42, Tryz.ntmps42
  go_wp2
  go_ret
  exact ⟨rfl, HB.out⟩
theorem zk_3 (v : Int) (S : ByteArray) (A : Option Addr) (c : Nat) (E : Option Addr) (kk d : Nat) (w : World) : Calls Tryz.prog 42 #[.agg #[.int .u8 3, .int .u8 0, .int .u8 0, .int .i32 v, .string ⟨#[]⟩, .slice A 0 c], .slice E kk d] w (KdR w 3) := by
  have HB := Lib.hid (bal (b0 w) (.cells #[.int .u8 3, .int .u8 0, .int .u8 0, .int .i32 v, .string ⟨#[]⟩, .slice A 0 c] 27))
  unfold KdR
  go_enter Tryz.func42, Tryz.ntmps42
  go_wp2
  go_ret
  exact ⟨rfl, HB.out⟩
theorem zk_5 (v : Int) (S : ByteArray) (A : Option Addr) (c : Nat) (E : Option Addr) (kk d : Nat) (w : World) : Calls Tryz.prog 42 #[.agg #[.int .u8 5, .int .u8 0, .int .u8 0, .int .i32 0, .string S, .slice A 1 c], .slice E kk d] w (KdR w 1) := by
  have HB := Lib.hid (bal (b0 w) (.cells #[.int .u8 5, .int .u8 0, .int .u8 0, .int .i32 0, .string S, .slice A 1 c] 27))
  unfold KdR
  go_enter Tryz.func42, Tryz.ntmps42
  go_wp2
  go_ret
  exact ⟨rfl, HB.out⟩
theorem zk_9 (v : Int) (S : ByteArray) (A : Option Addr) (c : Nat) (E : Option Addr) (kk d : Nat) (w : World) : Calls Tryz.prog 42 #[.agg #[.int .u8 9, .int .u8 0, .int .u8 0, .int .i32 0, .string S, .slice A 0 c], .slice E kk d] w (KdR w 1) := by
  have HB := Lib.hid (bal (b0 w) (.cells #[.int .u8 9, .int .u8 0, .int .u8 0, .int .i32 0, .string S, .slice A 0 c] 27))
  unfold KdR
  go_enter Tryz.func42, Tryz.ntmps42
  go_wp2
  go_ret
  exact ⟨rfl, HB.out⟩
theorem zk_8a (v : Int) (S : ByteArray) (A : Option Addr) (c : Nat) (E : Option Addr) (kk d : Nat) (w : World) : Calls Tryz.prog 42 #[.agg #[.int .u8 8, .int .u8 0, .int .u8 1, .int .i32 0, .string ⟨#[]⟩, .slice A 1 c], .slice E kk d] w (KdR w 1) := by
  have HB := Lib.hid (bal (b0 w) (.cells #[.int .u8 8, .int .u8 0, .int .u8 1, .int .i32 0, .string ⟨#[]⟩, .slice A 1 c] 27))
  unfold KdR
  go_enter Tryz.func42, Tryz.ntmps42
  go_wp2
  go_ret
  exact ⟨rfl, HB.out⟩
theorem zk_8b (v : Int) (S : ByteArray) (A : Option Addr) (c : Nat) (E : Option Addr) (kk d : Nat) (w : World) : Calls Tryz.prog 42 #[.agg #[.int .u8 8, .int .u8 0, .int .u8 2, .int .i32 0, .string ⟨#[]⟩, .slice A 1 c], .slice E kk d] w (KdR w 2) := by
  have HB := Lib.hid (bal (b0 w) (.cells #[.int .u8 8, .int .u8 0, .int .u8 2, .int .i32 0, .string ⟨#[]⟩, .slice A 1 c] 27))
  unfold KdR
  go_enter Tryz.func42, Tryz.ntmps42
  go_wp2
  go_ret
  exact ⟨rfl, HB.out⟩
theorem zk_8c (v : Int) (S : ByteArray) (A : Option Addr) (c : Nat) (E : Option Addr) (kk d : Nat) (w : World) : Calls Tryz.prog 42 #[.agg #[.int .u8 8, .int .u8 0, .int .u8 3, .int .i32 0, .string ⟨#[]⟩, .slice A 1 c], .slice E kk d] w (KdR w 3) := by
  have HB := Lib.hid (bal (b0 w) (.cells #[.int .u8 8, .int .u8 0, .int .u8 3, .int .i32 0, .string ⟨#[]⟩, .slice A 1 c] 27))
  unfold KdR
  go_enter Tryz.func42, Tryz.ntmps42
  go_wp2
  go_ret
  exact ⟨rfl, HB.out⟩
set_option maxRecDepth 100000 in
theorem zk_6 (o : Nat) (A : Option Addr) (c : Nat) (E : Option Addr) (kk d : Nat) (w : World) : Calls Tryz.prog 42 #[.agg #[.int .u8 6, .int .u8 (o : Int), .int .u8 0, .int .i32 0, .string ⟨#[]⟩, .slice A 1 c], .slice E kk d] w (KdR w (if (14 ≤ o ∧ o ≤ 22) ∨ o = 26 then 3 else 1)) := by
  have HB := Lib.hid (bal (b0 w) (.cells #[.int .u8 6, .int .u8 (o : Int), .int .u8 0, .int .i32 0, .string ⟨#[]⟩, .slice A 1 c] 27))
  unfold KdR
  by_cases h : (14 ≤ o ∧ o ≤ 22) ∨ o = 26
  · rw [if_pos h]
    have hs : o = 14 ∨ o = 15 ∨ o = 16 ∨ o = 17 ∨ o = 18 ∨ o = 19 ∨ o = 20 ∨ o = 21 ∨ o = 22 ∨ o = 26 := by omega
    clear h
    rcases hs with rfl | rfl | rfl | rfl | rfl | rfl | rfl | rfl | rfl | rfl <;>
      (go_enter Tryz.func42, Tryz.ntmps42
       go_wp2
       go_ret
       exact ⟨rfl, HB.out⟩)
  · rw [if_neg h]
    have q14 : ((o : Int) == 14) = false := by simp; omega
    have q15 : ((o : Int) == 15) = false := by simp; omega
    have q16 : ((o : Int) == 16) = false := by simp; omega
    have q17 : ((o : Int) == 17) = false := by simp; omega
    have q18 : ((o : Int) == 18) = false := by simp; omega
    have q19 : ((o : Int) == 19) = false := by simp; omega
    have q20 : ((o : Int) == 20) = false := by simp; omega
    have q21 : ((o : Int) == 21) = false := by simp; omega
    have q22 : ((o : Int) == 22) = false := by simp; omega
    have q26 : ((o : Int) == 26) = false := by simp; omega
    clear h
    go_enter Tryz.func42, Tryz.ntmps42
    go_wp2
    go_ret
    exact ⟨rfl, HB.out⟩
set_option maxRecDepth 100000 in
theorem zk_7 (o : Nat) (A : Option Addr) (c : Nat) (E : Option Addr) (kk d : Nat) (w : World) : Calls Tryz.prog 42 #[.agg #[.int .u8 7, .int .u8 (o : Int), .int .u8 0, .int .i32 0, .string ⟨#[]⟩, .slice A 2 c], .slice E kk d] w (KdR w (if (14 ≤ o ∧ o ≤ 22) ∨ o = 26 then 3 else 1)) := by
  have HB := Lib.hid (bal (b0 w) (.cells #[.int .u8 7, .int .u8 (o : Int), .int .u8 0, .int .i32 0, .string ⟨#[]⟩, .slice A 2 c] 27))
  unfold KdR
  by_cases h : (14 ≤ o ∧ o ≤ 22) ∨ o = 26
  · rw [if_pos h]
    have hs : o = 14 ∨ o = 15 ∨ o = 16 ∨ o = 17 ∨ o = 18 ∨ o = 19 ∨ o = 20 ∨ o = 21 ∨ o = 22 ∨ o = 26 := by omega
    clear h
    rcases hs with rfl | rfl | rfl | rfl | rfl | rfl | rfl | rfl | rfl | rfl <;>
      (go_enter Tryz.func42, Tryz.ntmps42
       go_wp2
       go_ret
       exact ⟨rfl, HB.out⟩)
  · rw [if_neg h]
    have q14 : ((o : Int) == 14) = false := by simp; omega
    have q15 : ((o : Int) == 15) = false := by simp; omega
    have q16 : ((o : Int) == 16) = false := by simp; omega
    have q17 : ((o : Int) == 17) = false := by simp; omega
    have q18 : ((o : Int) == 18) = false := by simp; omega
    have q19 : ((o : Int) == 19) = false := by simp; omega
    have q20 : ((o : Int) == 20) = false := by simp; omega
    have q21 : ((o : Int) == 21) = false := by simp; omega
    have q22 : ((o : Int) == 22) = false := by simp; omega
    have q26 : ((o : Int) == 26) = false := by simp; omega
    clear h
    go_enter Tryz.func42, Tryz.ntmps42
    go_wp2
    go_ret
    exact ⟨rfl, HB.out⟩
set_option maxRecDepth 100000 in
set_option maxHeartbeats 4000000 in
theorem zk_4 (s : Bs) (A : Option Addr) (c : Nat) (E : Option Addr) (kk d : Nat) (l : List Sp) (hk : l.length = kk) (w : World) (S : SpR w E d l) (a : Nat) (hf : fndN l s kk = some a) : Calls Tryz.prog 42 #[.agg #[.int .u8 4, .int .u8 0, .int .u8 0, .int .i32 0, .string (strOf s), .slice A 0 c], .slice E kk d] w (KdR w (litT (l.getD a sp0).t)) := by
  have hb : Below w.heap.size w (w.alloc (.cells #[.int .u8 4, .int .u8 0, .int .u8 0, .int .i32 0, .string (strOf s), .slice A 0 c] 27)) := bal (b0 w) _
  have HB := Lib.hid hb
  have S := S.keep hb
  have C := Rfind_any s E kk d kk l hk (Nat.le_refl _) _ S
  have hkx : kk ≤ maxLen := by have := S.le; have := S.mx; omega
  unfold maxLen at hkx
  have ha := fnd_lt hf
  rw [hf] at C
  have C := Lib.hid (show Calls Tryz.prog 38 #[.string (strOf s), .slice E kk d, .int .i64 (kk : Int)] (w.alloc (.cells #[.int .u8 4, .int .u8 0, .int .u8 0, .int .i32 0, .string (strOf s), .slice A 0 c] 27)) fun e w' => e = .returned (.int .i64 (a : Int)) ∧ w' = (w.alloc (.cells #[.int .u8 4, .int .u8 0, .int .u8 0, .int .i32 0, .string (strOf s), .slice A 0 c] 27)) from C)
  obtain ⟨ae, rfl, ok, AN, cN, BN, dN, hs⟩ := S.rd a (by omega)
  have c1 := hs.c1
  have ha0 : (0 : Int) ≤ (a : Int) := by omega
  have hak : (a : Int) < (kk : Int) := by omega
  clear S hb hf hs ok
  generalize (l.getD a sp0).t = t at *
  generalize strOf s = SS1 at *
  unfold KdR litT
  by_cases h2 : t = 2
  · subst h2
    go_enter Tryz.func42, Tryz.ntmps42
    go_wp2_with (go_at_call 38; (with_reducible refine (C.out).mono ?_); rintro e w' ⟨rfl, rfl⟩)
    go_ret
    exact ⟨rfl, HB.out⟩
  · rw [if_neg h2]
    have q2 : ((t : Int) == 2) = false := by simp; omega
    by_cases h3 : t = 3
    · subst h3
      go_enter Tryz.func42, Tryz.ntmps42
      go_wp2_with (go_at_call 38; (with_reducible refine (C.out).mono ?_); rintro e w' ⟨rfl, rfl⟩)
      go_ret
      exact ⟨rfl, HB.out⟩
    · rw [if_neg h3]
      have q3 : ((t : Int) == 3) = false := by simp; omega
      clear h2 h3
      go_enter Tryz.func42, Tryz.ntmps42
      go_wp2_with (go_at_call 38; (with_reducible refine (C.out).mono ?_); rintro e w' ⟨rfl, rfl⟩)
      go_ret
      exact ⟨rfl, HB.out⟩
theorem Rkind_any {E : Option Addr} {kk d : Nat} {l : List Sp} (hk : l.length = kk) (e : Ex) (ha : allE e = true) (A : Option Addr) (n c : Nat) (w : World) (hn : e.l.length = n) (S : SpR w E d l) (hs : e.k = 4 → fndN l e.s kk ≠ none) : Calls Tryz.prog 42 #[exV e A n c, .slice E kk d] w (KdR w (litK e.k e.o e.t (tau (prefM l kk) e.s))) := by
  have hw := own_ways (all_own ha)
  rcases hw with ⟨v, rfl⟩ | ⟨v, h0, h1', rfl⟩ | ⟨v, h0, rfl⟩ | ⟨s, _, rfl⟩ | ⟨s, y, _, rfl⟩ | ⟨o, y, _, _, rfl⟩ | ⟨o, y, z, _, _, rfl⟩ | ⟨t, y, ht, rfl⟩ | ⟨s, _, rfl⟩
  · subst hn; exact zk_1 v ⟨#[]⟩ A c E kk d w
  · subst hn; exact zk_2 v ⟨#[]⟩ A c E kk d w
  · subst hn; exact zk_3 v ⟨#[]⟩ A c E kk d w
  · subst hn
    cases hf : fndN l s kk with
    | none => exact absurd hf (hs rfl)
    | some a =>
      have ht := tau_find (l := l) (n := kk) (by omega) hf
      have : litK 4 0 0 (tau (prefM l kk) s) = litT (l.getD a sp0).t := by rw [ht]; rfl
      show Calls _ _ _ _ (KdR w (litK 4 0 0 (tau (prefM l kk) s)))
      rw [this]
      exact zk_4 s A c E kk d l hk w S a hf
  · subst hn; exact zk_5 0 (strOf s) A c E kk d w
  · subst hn
    have : litK 6 o 0 (tau (prefM l kk) []) = if (14 ≤ o ∧ o ≤ 22) ∨ o = 26 then 3 else 1 := by unfold litK; simp
    show Calls _ _ _ _ (KdR w (litK 6 o 0 (tau (prefM l kk) [])))
    rw [this]
    exact zk_6 o A c E kk d w
  · subst hn
    have : litK 7 o 0 (tau (prefM l kk) []) = if (14 ≤ o ∧ o ≤ 22) ∨ o = 26 then 3 else 1 := by unfold litK; simp
    show Calls _ _ _ _ (KdR w (litK 7 o 0 (tau (prefM l kk) [])))
    rw [this]
    exact zk_7 o A c E kk d w
  · subst hn
    rcases (prim_iff t).1 ht with rfl | rfl | rfl
    · exact zk_8a 0 ⟨#[]⟩ A c E kk d w
    · exact zk_8b 0 ⟨#[]⟩ A c E kk d w
    · exact zk_8c 0 ⟨#[]⟩ A c E kk d w
  · subst hn; exact zk_9 0 (strOf s) A c E kk d w
end Go.Proofs.YtimbiobonigdmaaGreatDoor
