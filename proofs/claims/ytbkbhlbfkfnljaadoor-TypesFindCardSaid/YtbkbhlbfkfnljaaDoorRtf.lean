/- The reference: the type with which tokens begin. -/
import Derived.Test.YtbkbhlbfkfnljaaDoorRte
import Derived.Test.YtbkbhlbfkfnljaaDoorFro
import Derived.Deep.CutBlock
set_option linter.unusedVariables false
set_option linter.unusedSimpArgs false
namespace Go.Proofs.YtbkbhlbfkfnljaaDoor
open Go Go.RowKit L8 L9

theorem may_okx9 {t : Tk} (h : may t = true) (hn : OKn t) : OKx t := by
  have hk : ∀ s ∈ keys, s.length ≤ 20 := by decide
  have hs : ∀ s ∈ syms, s.length ≤ 20 := by decide
  obtain ⟨_, _, hp⟩ := may_parts h
  have e : t.tx.length ≤ 40 ∧ t.k < 256 := by
    rcases hp with ⟨h1, h2, _⟩ | ⟨h1, h2, _⟩ | ⟨h1, h2⟩ | ⟨h1, h2, _⟩ | ⟨h1, h2, _⟩
    · unfold isName at h2
      simp only [Bool.and_eq_true, decide_eq_true_eq] at h2
      omega
    · have := hk _ (isKey_mem h2); omega
    · rw [h2]; simp; omega
    · rw [h2]; simp; omega
    · have := hs _ (isSym_mem h2); omega
  exact ⟨by unfold maxLen; omega, e.2, hn.1, hn.2⟩
def FrS (w X : World) : Prop := Below w.heap.size w X ∧ BoxS X w.heap.size 24 #[.int .u8 0, .int .i64 0, .int .u8 0, .string ⟨#[]⟩]
theorem FrS.step {w X Y : World} (h : FrS w X) (b : Below X.heap.size X Y) : FrS w Y := ⟨blw h.1 b, h.2.below b⟩
theorem FrS.bel {w X : World} (h : FrS w X) : Below w.heap.size w X := h.1
/-- What is done: no type of an earlier kind; of this kind no earlier item; of this item no earlier place. -/
def Dk (xs : List Tk) (k : Nat) : Prop := ∀ k' it i, 1 ≤ k' → k' < k → it ≤ 3 → i ≤ xs.length → i < 7 → hit xs k' it i = false
def Di (xs : List Tk) (k it : Nat) : Prop := ∀ it' i, it' < it → i ≤ xs.length → i < 7 → hit xs k it' i = false
def Dj (xs : List Tk) (k it i : Nat) : Prop := ∀ i', i' < i → hit xs k it i' = false
theorem Dk.next {xs : List Tk} {k : Nat} (h : Dk xs k) (g : Di xs k 4) : Dk xs (k + 1) := fun k' it i h1 h2 h3 h4 h5 =>
  if e : k' < k then h k' it i h1 e h3 h4 h5 else by rw [show k' = k by omega]; exact g it i (by omega) h4 h5
theorem Di.next {xs : List Tk} {k it i : Nat} (h : Di xs k it) (g : Dj xs k it i) (hi : i = 7 ∨ i = xs.length + 1) : Di xs k (it + 1) := fun it' i' h1 h2 h3 =>
  if e : it' < it then h it' i' e h2 h3 else by rw [show it' = it by omega]; exact g i' (by omega)
theorem Dj.next {xs : List Tk} {k it i : Nat} (h : Dj xs k it i) (g : hit xs k it i = false) : Dj xs k it (i + 1) := fun i' h1 =>
  if e : i' < i then h i' e else by rw [show i' = i by omega]; exact g
def GivesFr (w : World) (r : Ty × Nat × Int) (e : Ending) (w' : World) : Prop := e = .returned (.tuple #[tyV r.1, .int .i64 (r.2.1 : Int), .int .i64 r.2.2]) ∧ Below w.heap.size w w'
theorem eq_91 (l : Bs) : ((strOf l).toList == [91]) = decide (l = [91]) := by rw [toList_strOf]; by_cases h : l = [91] <;> simp [h]
theorem okt_cand {xs : List Tk} (h : OKL xs) {k it i : Nat} (hk : k ≤ 5) (hi : it ≤ 3) : OKt (cand xs k it i) := by
  obtain ⟨h1, h2⟩ := dimOf_rng xs
  refine ⟨by show k < 256; omega, by show it < 256; omega, ?_, by show (-9223372036854775808 : Int) ≤ dimOf xs; omega, by show dimOf xs ≤ 9223372036854775807; omega⟩
  show (protOf xs i).length ≤ maxLen
  unfold protOf
  split
  · exact (h.get i).1
  · simp [maxLen]
theorem tok_a0 (t : Ty) : ∀ y ∈ tokT t, y.a = 0 := by
  intro y hy
  unfold tokT dimT coreT at hy
  rcases List.mem_append.1 hy with hy | hy
  · split at hy
    · simp only [List.mem_cons, List.not_mem_nil, or_false] at hy
      rcases hy with rfl | rfl | rfl <;> rfl
    · cases hy
  · split at hy
    · rw [List.mem_singleton.1 hy]; rfl
    · split at hy
      · simp only [List.mem_cons, List.not_mem_nil, or_false] at hy
        rcases hy with rfl | rfl | rfl
        · rfl
        · rfl
        · split <;> rfl
      · rw [List.mem_singleton.1 hy]; rfl
set_option maxRecDepth 100000 in
set_option maxHeartbeats 16000000 in
theorem RFront_any {A : Option Addr} {c m : Nat} {xs : List Tk} {w : World} (R : RR w A c xs) (hm : xs.length = m) : Calls Tryd.prog 22 #[.slice A m c] w (GivesFr w (frontR xs)) := by
  have HR := Lib.hid R
  have HM := Lib.hid hm
  have hmx : m ≤ maxLen := by have := R.le; have := R.mx; omega
  unfold maxLen at hmx
  have HV : Hid (FrS w (w.alloc (.cells #[.int .u8 0, .int .i64 0, .int .u8 0, .string ⟨#[]⟩] 24))) := Lib.hid ⟨bal (b0 w) _, boxS_new w _ _⟩
  have HNone := Lib.hid (fun (h : Dk xs 6) => frontR_none (l := xs) (fun k it i h1 h2 h3 h4 h5 => h k it i h1 (by omega) h3 h4 h5))
  obtain ⟨hD0, hD1⟩ := dimOf_rng xs
  clear R hm
  go_enter Tryd.func22, Tryd.ntmps22
  go_upto_region 2 with fail
  generalize w.alloc (.cells #[.int .u8 0, .int .i64 0, .int .u8 0, .string ⟨#[]⟩] 24) = V at *
  obtain ⟨B, hB⟩ : ∃ B, decide (1 < xs.length ∧ (xs.getD 0 r0).tx = [91] ∧ 1 ≤ (xs.getD 1 r0).n ∧ (xs.getD 1 r0).n ≤ 64) = B := ⟨_, rfl⟩
  have HDim1 := Lib.hid (show B = true → dimOf xs = (xs.getD 1 r0).n from fun e => by unfold dimOf; rw [if_pos (of_decide_eq_true (hB.trans e))])
  have HDim0 := Lib.hid (show B = false → dimOf xs = 0 from fun e => by unfold dimOf; rw [if_neg (of_decide_eq_false (hB.trans e))])
  have HBm := Lib.hid (show B = true → 1 < xs.length from fun e => (of_decide_eq_true (hB.trans e)).1)
  have HBx := Lib.hid hB
  clear hB
  go_cut [35] from 12 to 35 (fun b wx => b = .bool B ∧ wx = V)
  case first =>
    clear HDim0 HDim1 HBm
    by_cases h1 : (1 : Int) < (m : Int)
    · obtain ⟨ad, rfl, c0, c1, c2, c3⟩ := (HR.out.keep HV.out.bel).rd 0 (by have := HM.out; omega)
      obtain ⟨ad2, e2, d0, d1, d2, d3⟩ := (HR.out.keep HV.out.bel).rd 1 (by have := HM.out; omega)
      cases e2
      rw [Nat.zero_mul] at c0 c1 c2 c3
      have hz : ad.add 0 = ad := by unfold Addr.add; simp
      rw [hz] at c0 c1 c2 c3
      rw [Nat.one_mul, show ad.add 4 = ⟨ad.block, ad.off + 4, none⟩ from add_succ_ ad 3] at d0 d1 d2 d3
      dsimp only at d0 d1 d2 d3
      have HM1 := Lib.hid (show 1 < xs.length by have := HM.out; omega)
      have qs := eq_91 (xs.getD 0 r0).tx
      by_cases h2 : (xs.getD 0 r0).tx = [91]
      · rw [decide_eq_true h2] at qs
        by_cases h3 : 1 ≤ (xs.getD 1 r0).n
        · by_cases h4 : (xs.getD 1 r0).n ≤ 64
          · obtain rfl : true = B := (decide_eq_true (p := (1 < xs.length ∧ (xs.getD 0 r0).tx = [91] ∧ 1 ≤ (xs.getD 1 r0).n ∧ (xs.getD 1 r0).n ≤ 64)) ⟨HM1.out, h2, h3, h4⟩).symm.trans HBx.out
            clear HBx h2
            generalize xs.getD 0 r0 = x0 at *
            generalize xs.getD 1 r0 = x1 at *
            generalize strOf x0.tx = S0 at *
            go_wp2
            go_meet
            exact ⟨rfl, rfl⟩
          · obtain rfl : false = B := (decide_eq_false (p := (1 < xs.length ∧ (xs.getD 0 r0).tx = [91] ∧ 1 ≤ (xs.getD 1 r0).n ∧ (xs.getD 1 r0).n ≤ 64)) (fun g => h4 g.2.2.2)).symm.trans HBx.out
            clear HBx h2
            generalize xs.getD 0 r0 = x0 at *
            generalize xs.getD 1 r0 = x1 at *
            generalize strOf x0.tx = S0 at *
            go_wp2
            go_meet
            exact ⟨rfl, rfl⟩
        · obtain rfl : false = B := (decide_eq_false (p := (1 < xs.length ∧ (xs.getD 0 r0).tx = [91] ∧ 1 ≤ (xs.getD 1 r0).n ∧ (xs.getD 1 r0).n ≤ 64)) (fun g => h3 g.2.2.1)).symm.trans HBx.out
          clear HBx h2
          generalize xs.getD 0 r0 = x0 at *
          generalize xs.getD 1 r0 = x1 at *
          generalize strOf x0.tx = S0 at *
          go_wp2
          go_meet
          exact ⟨rfl, rfl⟩
      · rw [decide_eq_false h2] at qs
        obtain rfl : false = B := (decide_eq_false (p := (1 < xs.length ∧ (xs.getD 0 r0).tx = [91] ∧ 1 ≤ (xs.getD 1 r0).n ∧ (xs.getD 1 r0).n ≤ 64)) (fun g => h2 g.2.1)).symm.trans HBx.out
        clear HBx h2
        generalize xs.getD 0 r0 = x0 at *
        generalize xs.getD 1 r0 = x1 at *
        generalize strOf x0.tx = S0 at *
        go_wp2
        go_meet
        exact ⟨rfl, rfl⟩
    · obtain rfl : false = B := (decide_eq_false (p := (1 < xs.length ∧ (xs.getD 0 r0).tx = [91] ∧ 1 ≤ (xs.getD 1 r0).n ∧ (xs.getD 1 r0).n ≤ 64)) (fun g => h1 (by have := HM.out; omega))).symm.trans HBx.out
      clear HBx
      go_wp2
      go_meet
      exact ⟨rfl, rfl⟩
  case rest =>
    obtain ⟨rfl, hw⟩ := hcut
    obtain rfl := hw.symm
    clear HBx
    go_upto_if 35 with fail
    go_cut [5] from 5 to 40 (fun d wx => d = .int .i64 (dimOf xs) ∧ wx = V)
    case first =>
      cases B with
      | true =>
        have hm1 : (1 : Int) < (m : Int) := by have := HBm.out rfl; have := HM.out; omega
        have HE := Lib.hid (HDim1.out rfl)
        obtain ⟨ad2, rfl, d0, d1, d2, d3⟩ := (HR.out.keep HV.out.bel).rd 1 (by have := HM.out; omega)
        rw [Nat.one_mul, show ad2.add 4 = ⟨ad2.block, ad2.off + 4, none⟩ from add_succ_ ad2 3] at d0 d1 d2 d3
        dsimp only at d0 d1 d2 d3
        have hn0 : 0 ≤ (xs.getD 1 r0).n := by rw [← HE.out]; exact hD0
        have hn1 : (xs.getD 1 r0).n ≤ 64 := by rw [← HE.out]; exact hD1
        clear HDim0 HDim1 HBm HNone
        generalize xs.getD 1 r0 = x1 at *
        go_wp2
        go_meet
        exact ⟨by rw [HE.out], rfl⟩
      | false =>
        have HE := Lib.hid (HDim0.out rfl)
        clear HDim0 HDim1 HBm HNone
        go_wp2
        go_meet
        exact ⟨by rw [HE.out], rfl⟩
    case rest =>
      obtain ⟨rfl, hw⟩ := hcut
      obtain rfl := hw.symm
      clear HDim0 HDim1 HBm
      have HOk := Lib.hid (fun (k it i : Nat) (hk : k ≤ 5) (hi : it ≤ 3) => okt_cand HR.out.ok (i := i) hk hi)
      have CT : Hid (∀ (k it i : Nat) (hk : k ≤ 5) (hi : it ≤ 3) (T : ByteArray) (hT : strOf (protOf xs i) = T) (X : World), Calls Tryd.prog 19 #[.agg #[.int .u8 (k : Int), .int .i64 (dimOf xs), .int .u8 (it : Int), .string T]] X (GivesTk X (tokensT (cand xs k it i)))) := Lib.hid fun k it i hk hi T hT X => by
        have := RTok_any (cand xs k it i) (HOk.out k it i hk hi) X
        subst hT
        exact this
      have HHit := Lib.hid (fun (k it i : Nat) (h : hit xs k it i = true) => frontR_hit h)
      go_wp2
      go_loopw [6] (fun v wr => ∃ k : Nat, 1 ≤ k ∧ k ≤ 6 ∧ v = .int .u8 (k : Int) ∧ Hid (FrS w wr ∧ Dk xs k)) (fun v _ => 6 - (intOf v).toNat)
      case atStart => exact ⟨1, Nat.le_refl _, by omega, rfl, Lib.hid ⟨HV.out, fun k' it i h1 h2 => by omega⟩⟩
      case round =>
        obtain ⟨k, hk1, hk6, rfl, H⟩ := hrel
        have hk0 : (1 : Int) ≤ (k : Int) := by omega
        by_cases hlt : (k : Int) ≤ 5
        · go_wp2
          go_loopw [7] (fun v wr => ∃ it : Nat, it ≤ 4 ∧ v = .int .u8 (it : Int) ∧ Hid (FrS w wr ∧ Di xs k it)) (fun v _ => 4 - (intOf v).toNat)
          case atStart => exact ⟨0, by omega, rfl, Lib.hid ⟨H.out.1, fun it' i h1 => by omega⟩⟩
          case round =>
            obtain ⟨it, hi4, rfl, G⟩ := hrel
            have hi0 : (0 : Int) ≤ (it : Int) := by omega
            by_cases hlt2 : (it : Int) ≤ 3
            · go_wp2
              go_loopw [8] (fun v wr => ∃ i : Nat, i ≤ 7 ∧ i ≤ m + 1 ∧ v = .int .i64 (i : Int) ∧ Hid (FrS w wr ∧ Dj xs k it i)) (fun v _ => 7 - (intOf v).toNat)
              case atStart => exact ⟨0, by omega, by omega, rfl, Lib.hid ⟨G.out.1, fun i' h1 => by omega⟩⟩
              case round =>
                obtain ⟨i, hj7, hjm, rfl, J⟩ := hrel
                have hj0 : (0 : Int) ≤ (i : Int) := by omega
                by_cases hlt3 : (i : Int) ≤ (m : Int)
                · by_cases hlt4 : (i : Int) < 7
                  · have C := Lib.hid (CT.out k it i (by omega) (by omega))
                    have HH := Lib.hid (HHit.out k it i)
                    by_cases hin : (i : Int) < (m : Int)
                    · obtain ⟨ad, rfl, c0, c1, c2, c3⟩ := (HR.out.keep (blw J.out.1.bel (bal (b0 wr) (.cells #[.int .u8 (k : Int), .int .i64 (dimOf xs), .int .u8 (it : Int), .string ⟨#[]⟩] 24)))).rd i (by have := HM.out; omega)
                      have q1 : (((xs.getD i r0).k : Int) == 1) = decide ((xs.getD i r0).k = 1) := nat_eq (xs.getD i r0).k 1
                      by_cases hkd : (xs.getD i r0).k = 1
                      · rw [decide_eq_true hkd] at q1
                        have hT : strOf (protOf xs i) = strOf (xs.getD i r0).tx := by unfold protOf; rw [if_pos ⟨by have := HM.out; omega, hkd⟩]
                        clear hkd
                        generalize xs.getD i r0 = x at *
                        generalize strOf x.tx = T at *
                        have C2 := Lib.hid (C.out _ hT)
                        clear C
                        have HJ := Lib.hid (fun (X : World) (b : Below wr.heap.size wr X) => J.out.1.step b)
                        have HX := Lib.hid (boxS_new wr 24 #[.int .u8 (k : Int), .int .i64 (dimOf xs), .int .u8 (it : Int), .string T])
                        cases hmt : mayT (cand xs k it i) with
                        | false =>
                          have hr : tokensT (cand xs k it i) = ([], 2) := by unfold tokensT; rw [hmt]; rfl
                          have hh : hit xs k it i = false := by unfold hit; rw [hmt]; rfl
                          have HB := Lib.hid (J.out.2.next hh)
                          rw [hr] at C2
                          have C3 : Hid (∀ X : World, Calls Tryd.prog 19 #[.agg #[.int .u8 (k : Int), .int .i64 (dimOf xs), .int .u8 (it : Int), .string T]] X fun e w' => ∃ A2 d2, e = .returned (.tuple #[.slice A2 0 d2, .int .i64 2]) ∧ Below X.heap.size X w') := Lib.hid fun X => (C2.out X).mono fun e w' ⟨A2, d2, h, _, b⟩ => ⟨A2, d2, h, b⟩
                          clear J hr hh hmt C2 hT
                          go_wp2_with (go_at_call 19; (with_reducible refine (C3.out _).mono ?_); rintro e v1 ⟨A2, d2, rfl, b⟩; have H1 := Lib.hid (And.intro (HJ.out _ (blw (bal (b0 wr) _) b)) HB.out); clear b)
                          go_roundw
                          case rel => exact ⟨i + 1, by omega, by omega, by go_num, H1⟩
                          case measure => simp [intOf]; omega
                        | true =>
                          have hr : tokensT (cand xs k it i) = (tokT (cand xs k it i), 0) := by unfold tokensT; rw [hmt]; rfl
                          have hlen := tokT_len hmt
                          have hokl : OKL (tokT (cand xs k it i)) := fun x hx => may_okx9 (tok_may hmt x hx).1 (tok_may hmt x hx).2
                          have hz0 := tok_a0 (cand xs k it i)
                          rw [hr] at C2
                          have hhit : hit xs k it i = pre (tokT (cand xs k it i)) xs := by unfold hit; rw [hmt]; rfl
                          rw [hhit] at HH
                          have HNx := Lib.hid (fun (g : hit xs k it i = false) => J.out.2.next g)
                          rw [hhit] at HNx
                          have hcand : cand xs k it i = ⟨k, dimOf xs, it, protOf xs i⟩ := rfl
                          generalize cand xs k it i = ct at *
                          generalize tokT ct = tk at *
                          obtain ⟨n, hn⟩ : ∃ n, tk.length = n := ⟨_, rfl⟩
                          rw [hn] at hlen HH
                          have C3 : Hid (∀ X : World, Calls Tryd.prog 19 #[.agg #[.int .u8 (k : Int), .int .i64 (dimOf xs), .int .u8 (it : Int), .string T]] X fun e w' => ∃ A2 d2, e = .returned (.tuple #[.slice A2 n d2, .int .i64 0]) ∧ OwnR w' 57 X.heap.size A2 n d2 tk ∧ Below X.heap.size X w') := Lib.hid fun X => (C2.out X).mono fun e w' ⟨A2, d2, h, o, b⟩ => ⟨A2, d2, by rw [h]; dsimp only; rw [hn], by dsimp only at o; rw [hn] at o; exact o, b⟩
                          have CB : Hid (∀ (X : World) (B : Nat) (A2 : Option Addr) (d2 : Nat) (b : Below wr.heap.size wr X) (o : OwnR X 57 B A2 n d2 tk), Calls Tryd.prog 46 #[.slice (some ad) m c, .slice A2 n d2] X fun e w' => e = .returned (.bool (pre tk xs)) ∧ Below X.heap.size X w') := Lib.hid fun X B A2 d2 b o => RBegins_any (HR.out.keep (HJ.out X b).bel) (o.rr hokl) HM.out hn hz0
                          have n0 : (1 : Int) ≤ (n : Int) := by omega
                          have n1 : (n : Int) ≤ 6 := by omega
                          have HCt := Lib.hid (And.intro hcand hT)
                          clear hcand J hr hmt C2 hokl hz0 hhit hlen hn hT
                          cases hpre : pre tk xs with
                          | false =>
                            have HB := Lib.hid (HNx.out hpre)
                            rw [hpre] at CB
                            clear HH HNx hpre
                            go_wp2_with (first
                              | (go_at_call 19; (with_reducible refine (C3.out _).mono ?_); rintro e v1 ⟨A2, d2, rfl, o, b⟩; have H1 := Lib.hid (And.intro (blw (bal (b0 wr) _) b) (And.intro o b)); clear o b)
                              | (go_at_call 46; (with_reducible refine (CB.out _ _ _ _ H1.out.1 H1.out.2.1).mono ?_); rintro e v2 ⟨rfl, b⟩; have H2 := Lib.hid (And.intro (HJ.out _ (blw H1.out.1 b)) HB.out); clear b))
                            go_roundw
                            case rel => exact ⟨i + 1, by omega, by omega, by go_num, H2⟩
                            case measure => simp [intOf]; omega
                          | true =>
                            have HE := Lib.hid (HH.out hpre)
                            rw [hpre] at CB
                            clear HH HNx hpre
                            go_wp2_with (first
                              | (go_at_call 19; (with_reducible refine (C3.out _).mono ?_); rintro e v1 ⟨A2, d2, rfl, o, b⟩; have H1 := Lib.hid (And.intro (blw (bal (b0 wr) _) b) (And.intro o b)); clear o b)
                              | (go_at_call 46; (with_reducible refine (CB.out _ _ _ _ H1.out.1 H1.out.2.1).mono ?_); rintro e v2 ⟨rfl, b⟩; have H2 := Lib.hid (HJ.out _ (blw H1.out.1 b)); obtain ⟨⟨x0, x1, x2, x3⟩, xl⟩ := box4 ((HX.out.below H1.out.2.2).below b); obtain ⟨⟨z0, z1, z2, z3⟩, zl⟩ := box4 H2.out.2; obtain ⟨f0, f1, f2, f3⟩ := box4f H2.out.2; clear b))
                            have HF := Lib.hid (And.intro (box4_all (.int .u8 (k : Int)) (.int .i64 (dimOf xs)) (.int .u8 (it : Int)) (.string T) H2.out.2) (bset4 H2.out.1 (Nat.le_refl _) (.int .u8 (k : Int)) (.int .i64 (dimOf xs)) (.int .u8 (it : Int)) (.string T)))
                            unfold set4 at HF
                            clear z0 z1 z2 z3 f0 f1 f2 f3
                            generalize (((v2.setCell ⟨w.heap.size, 0, none⟩ (.int .u8 (k : Int))).setCell ⟨w.heap.size, 1, none⟩ (.int .i64 (dimOf xs))).setCell ⟨w.heap.size, 2, none⟩ (.int .u8 (it : Int))).setCell ⟨w.heap.size, 3, none⟩ (.string T) = W5 at *
                            obtain ⟨⟨y0, y1, y2, y3⟩, yl⟩ := box4 HF.out.1
                            refine bodyPost_ret (v := .tuple #[.agg #[.int .u8 (k : Int), .int .i64 (dimOf xs), .int .u8 (it : Int), .string T], .int .i64 (n : Int), .int .i64 0]) (by simp [results, Tryd.results22, go_sem, y0, y1, y2, y3]) rfl ⟨?_, HF.out.2⟩
                            rw [HE.out, HCt.out.1]
                            unfold tyV
                            rw [HCt.out.2]
                      · rw [decide_eq_false hkd] at q1
                        have hT : strOf (protOf xs i) = ⟨#[]⟩ := by unfold protOf; rw [if_neg (fun g => hkd g.2)]; rfl
                        clear hkd
                        generalize xs.getD i r0 = x at *
                        have C2 := Lib.hid (C.out _ hT)
                        clear C
                        have HJ := Lib.hid (fun (X : World) (b : Below wr.heap.size wr X) => J.out.1.step b)
                        have HX := Lib.hid (boxS_new wr 24 #[.int .u8 (k : Int), .int .i64 (dimOf xs), .int .u8 (it : Int), .string ⟨#[]⟩])
                        cases hmt : mayT (cand xs k it i) with
                        | false =>
                          have hr : tokensT (cand xs k it i) = ([], 2) := by unfold tokensT; rw [hmt]; rfl
                          have hh : hit xs k it i = false := by unfold hit; rw [hmt]; rfl
                          have HB := Lib.hid (J.out.2.next hh)
                          rw [hr] at C2
                          have C3 : Hid (∀ X : World, Calls Tryd.prog 19 #[.agg #[.int .u8 (k : Int), .int .i64 (dimOf xs), .int .u8 (it : Int), .string ⟨#[]⟩]] X fun e w' => ∃ A2 d2, e = .returned (.tuple #[.slice A2 0 d2, .int .i64 2]) ∧ Below X.heap.size X w') := Lib.hid fun X => (C2.out X).mono fun e w' ⟨A2, d2, h, _, b⟩ => ⟨A2, d2, h, b⟩
                          clear J hr hh hmt C2 hT
                          go_wp2_with (go_at_call 19; (with_reducible refine (C3.out _).mono ?_); rintro e v1 ⟨A2, d2, rfl, b⟩; have H1 := Lib.hid (And.intro (HJ.out _ (blw (bal (b0 wr) _) b)) HB.out); clear b)
                          go_roundw
                          case rel => exact ⟨i + 1, by omega, by omega, by go_num, H1⟩
                          case measure => simp [intOf]; omega
                        | true =>
                          have hr : tokensT (cand xs k it i) = (tokT (cand xs k it i), 0) := by unfold tokensT; rw [hmt]; rfl
                          have hlen := tokT_len hmt
                          have hokl : OKL (tokT (cand xs k it i)) := fun x hx => may_okx9 (tok_may hmt x hx).1 (tok_may hmt x hx).2
                          have hz0 := tok_a0 (cand xs k it i)
                          rw [hr] at C2
                          have hhit : hit xs k it i = pre (tokT (cand xs k it i)) xs := by unfold hit; rw [hmt]; rfl
                          rw [hhit] at HH
                          have HNx := Lib.hid (fun (g : hit xs k it i = false) => J.out.2.next g)
                          rw [hhit] at HNx
                          have hcand : cand xs k it i = ⟨k, dimOf xs, it, protOf xs i⟩ := rfl
                          generalize cand xs k it i = ct at *
                          generalize tokT ct = tk at *
                          obtain ⟨n, hn⟩ : ∃ n, tk.length = n := ⟨_, rfl⟩
                          rw [hn] at hlen HH
                          have C3 : Hid (∀ X : World, Calls Tryd.prog 19 #[.agg #[.int .u8 (k : Int), .int .i64 (dimOf xs), .int .u8 (it : Int), .string ⟨#[]⟩]] X fun e w' => ∃ A2 d2, e = .returned (.tuple #[.slice A2 n d2, .int .i64 0]) ∧ OwnR w' 57 X.heap.size A2 n d2 tk ∧ Below X.heap.size X w') := Lib.hid fun X => (C2.out X).mono fun e w' ⟨A2, d2, h, o, b⟩ => ⟨A2, d2, by rw [h]; dsimp only; rw [hn], by dsimp only at o; rw [hn] at o; exact o, b⟩
                          have CB : Hid (∀ (X : World) (B : Nat) (A2 : Option Addr) (d2 : Nat) (b : Below wr.heap.size wr X) (o : OwnR X 57 B A2 n d2 tk), Calls Tryd.prog 46 #[.slice (some ad) m c, .slice A2 n d2] X fun e w' => e = .returned (.bool (pre tk xs)) ∧ Below X.heap.size X w') := Lib.hid fun X B A2 d2 b o => RBegins_any (HR.out.keep (HJ.out X b).bel) (o.rr hokl) HM.out hn hz0
                          have n0 : (1 : Int) ≤ (n : Int) := by omega
                          have n1 : (n : Int) ≤ 6 := by omega
                          have HCt := Lib.hid (And.intro hcand hT)
                          clear hcand J hr hmt C2 hokl hz0 hhit hlen hn hT
                          cases hpre : pre tk xs with
                          | false =>
                            have HB := Lib.hid (HNx.out hpre)
                            rw [hpre] at CB
                            clear HH HNx hpre
                            go_wp2_with (first
                              | (go_at_call 19; (with_reducible refine (C3.out _).mono ?_); rintro e v1 ⟨A2, d2, rfl, o, b⟩; have H1 := Lib.hid (And.intro (blw (bal (b0 wr) _) b) (And.intro o b)); clear o b)
                              | (go_at_call 46; (with_reducible refine (CB.out _ _ _ _ H1.out.1 H1.out.2.1).mono ?_); rintro e v2 ⟨rfl, b⟩; have H2 := Lib.hid (And.intro (HJ.out _ (blw H1.out.1 b)) HB.out); clear b))
                            go_roundw
                            case rel => exact ⟨i + 1, by omega, by omega, by go_num, H2⟩
                            case measure => simp [intOf]; omega
                          | true =>
                            have HE := Lib.hid (HH.out hpre)
                            rw [hpre] at CB
                            clear HH HNx hpre
                            go_wp2_with (first
                              | (go_at_call 19; (with_reducible refine (C3.out _).mono ?_); rintro e v1 ⟨A2, d2, rfl, o, b⟩; have H1 := Lib.hid (And.intro (blw (bal (b0 wr) _) b) (And.intro o b)); clear o b)
                              | (go_at_call 46; (with_reducible refine (CB.out _ _ _ _ H1.out.1 H1.out.2.1).mono ?_); rintro e v2 ⟨rfl, b⟩; have H2 := Lib.hid (HJ.out _ (blw H1.out.1 b)); obtain ⟨⟨x0, x1, x2, x3⟩, xl⟩ := box4 ((HX.out.below H1.out.2.2).below b); obtain ⟨⟨z0, z1, z2, z3⟩, zl⟩ := box4 H2.out.2; obtain ⟨f0, f1, f2, f3⟩ := box4f H2.out.2; clear b))
                            have HF := Lib.hid (And.intro (box4_all (.int .u8 (k : Int)) (.int .i64 (dimOf xs)) (.int .u8 (it : Int)) (.string ⟨#[]⟩) H2.out.2) (bset4 H2.out.1 (Nat.le_refl _) (.int .u8 (k : Int)) (.int .i64 (dimOf xs)) (.int .u8 (it : Int)) (.string ⟨#[]⟩)))
                            unfold set4 at HF
                            clear z0 z1 z2 z3 f0 f1 f2 f3
                            generalize (((v2.setCell ⟨w.heap.size, 0, none⟩ (.int .u8 (k : Int))).setCell ⟨w.heap.size, 1, none⟩ (.int .i64 (dimOf xs))).setCell ⟨w.heap.size, 2, none⟩ (.int .u8 (it : Int))).setCell ⟨w.heap.size, 3, none⟩ (.string ⟨#[]⟩) = W5 at *
                            obtain ⟨⟨y0, y1, y2, y3⟩, yl⟩ := box4 HF.out.1
                            refine bodyPost_ret (v := .tuple #[.agg #[.int .u8 (k : Int), .int .i64 (dimOf xs), .int .u8 (it : Int), .string ⟨#[]⟩], .int .i64 (n : Int), .int .i64 0]) (by simp [results, Tryd.results22, go_sem, y0, y1, y2, y3]) rfl ⟨?_, HF.out.2⟩
                            rw [HE.out, HCt.out.1]
                            unfold tyV
                            rw [HCt.out.2]
                    · have hT : strOf (protOf xs i) = ⟨#[]⟩ := by unfold protOf; rw [if_neg (fun g => hin (by have := HM.out; have := g.1; omega))]; rfl
                      have C2 := Lib.hid (C.out _ hT)
                      clear C
                      have HJ := Lib.hid (fun (X : World) (b : Below wr.heap.size wr X) => J.out.1.step b)
                      have HX := Lib.hid (boxS_new wr 24 #[.int .u8 (k : Int), .int .i64 (dimOf xs), .int .u8 (it : Int), .string ⟨#[]⟩])
                      cases hmt : mayT (cand xs k it i) with
                      | false =>
                        have hr : tokensT (cand xs k it i) = ([], 2) := by unfold tokensT; rw [hmt]; rfl
                        have hh : hit xs k it i = false := by unfold hit; rw [hmt]; rfl
                        have HB := Lib.hid (J.out.2.next hh)
                        rw [hr] at C2
                        have C3 : Hid (∀ X : World, Calls Tryd.prog 19 #[.agg #[.int .u8 (k : Int), .int .i64 (dimOf xs), .int .u8 (it : Int), .string ⟨#[]⟩]] X fun e w' => ∃ A2 d2, e = .returned (.tuple #[.slice A2 0 d2, .int .i64 2]) ∧ Below X.heap.size X w') := Lib.hid fun X => (C2.out X).mono fun e w' ⟨A2, d2, h, _, b⟩ => ⟨A2, d2, h, b⟩
                        clear J hr hh hmt C2 hT
                        go_wp2_with (go_at_call 19; (with_reducible refine (C3.out _).mono ?_); rintro e v1 ⟨A2, d2, rfl, b⟩; have H1 := Lib.hid (And.intro (HJ.out _ (blw (bal (b0 wr) _) b)) HB.out); clear b)
                        go_roundw
                        case rel => exact ⟨i + 1, by omega, by omega, by go_num, H1⟩
                        case measure => simp [intOf]; omega
                      | true =>
                        have hr : tokensT (cand xs k it i) = (tokT (cand xs k it i), 0) := by unfold tokensT; rw [hmt]; rfl
                        have hlen := tokT_len hmt
                        have hokl : OKL (tokT (cand xs k it i)) := fun x hx => may_okx9 (tok_may hmt x hx).1 (tok_may hmt x hx).2
                        have hz0 := tok_a0 (cand xs k it i)
                        rw [hr] at C2
                        have hhit : hit xs k it i = pre (tokT (cand xs k it i)) xs := by unfold hit; rw [hmt]; rfl
                        rw [hhit] at HH
                        have HNx := Lib.hid (fun (g : hit xs k it i = false) => J.out.2.next g)
                        rw [hhit] at HNx
                        have hcand : cand xs k it i = ⟨k, dimOf xs, it, protOf xs i⟩ := rfl
                        generalize cand xs k it i = ct at *
                        generalize tokT ct = tk at *
                        obtain ⟨n, hn⟩ : ∃ n, tk.length = n := ⟨_, rfl⟩
                        rw [hn] at hlen HH
                        have C3 : Hid (∀ X : World, Calls Tryd.prog 19 #[.agg #[.int .u8 (k : Int), .int .i64 (dimOf xs), .int .u8 (it : Int), .string ⟨#[]⟩]] X fun e w' => ∃ A2 d2, e = .returned (.tuple #[.slice A2 n d2, .int .i64 0]) ∧ OwnR w' 57 X.heap.size A2 n d2 tk ∧ Below X.heap.size X w') := Lib.hid fun X => (C2.out X).mono fun e w' ⟨A2, d2, h, o, b⟩ => ⟨A2, d2, by rw [h]; dsimp only; rw [hn], by dsimp only at o; rw [hn] at o; exact o, b⟩
                        have CB : Hid (∀ (X : World) (B : Nat) (A2 : Option Addr) (d2 : Nat) (b : Below wr.heap.size wr X) (o : OwnR X 57 B A2 n d2 tk), Calls Tryd.prog 46 #[.slice A m c, .slice A2 n d2] X fun e w' => e = .returned (.bool (pre tk xs)) ∧ Below X.heap.size X w') := Lib.hid fun X B A2 d2 b o => RBegins_any (HR.out.keep (HJ.out X b).bel) (o.rr hokl) HM.out hn hz0
                        have n0 : (1 : Int) ≤ (n : Int) := by omega
                        have n1 : (n : Int) ≤ 6 := by omega
                        have HCt := Lib.hid (And.intro hcand hT)
                        clear hcand J hr hmt C2 hokl hz0 hhit hlen hn hT
                        cases hpre : pre tk xs with
                        | false =>
                          have HB := Lib.hid (HNx.out hpre)
                          rw [hpre] at CB
                          clear HH HNx hpre
                          go_wp2_with (first
                            | (go_at_call 19; (with_reducible refine (C3.out _).mono ?_); rintro e v1 ⟨A2, d2, rfl, o, b⟩; have H1 := Lib.hid (And.intro (blw (bal (b0 wr) _) b) (And.intro o b)); clear o b)
                            | (go_at_call 46; (with_reducible refine (CB.out _ _ _ _ H1.out.1 H1.out.2.1).mono ?_); rintro e v2 ⟨rfl, b⟩; have H2 := Lib.hid (And.intro (HJ.out _ (blw H1.out.1 b)) HB.out); clear b))
                          go_roundw
                          case rel => exact ⟨i + 1, by omega, by omega, by go_num, H2⟩
                          case measure => simp [intOf]; omega
                        | true =>
                          have HE := Lib.hid (HH.out hpre)
                          rw [hpre] at CB
                          clear HH HNx hpre
                          go_wp2_with (first
                            | (go_at_call 19; (with_reducible refine (C3.out _).mono ?_); rintro e v1 ⟨A2, d2, rfl, o, b⟩; have H1 := Lib.hid (And.intro (blw (bal (b0 wr) _) b) (And.intro o b)); clear o b)
                            | (go_at_call 46; (with_reducible refine (CB.out _ _ _ _ H1.out.1 H1.out.2.1).mono ?_); rintro e v2 ⟨rfl, b⟩; have H2 := Lib.hid (HJ.out _ (blw H1.out.1 b)); obtain ⟨⟨x0, x1, x2, x3⟩, xl⟩ := box4 ((HX.out.below H1.out.2.2).below b); obtain ⟨⟨z0, z1, z2, z3⟩, zl⟩ := box4 H2.out.2; obtain ⟨f0, f1, f2, f3⟩ := box4f H2.out.2; clear b))
                          have HF := Lib.hid (And.intro (box4_all (.int .u8 (k : Int)) (.int .i64 (dimOf xs)) (.int .u8 (it : Int)) (.string ⟨#[]⟩) H2.out.2) (bset4 H2.out.1 (Nat.le_refl _) (.int .u8 (k : Int)) (.int .i64 (dimOf xs)) (.int .u8 (it : Int)) (.string ⟨#[]⟩)))
                          unfold set4 at HF
                          clear z0 z1 z2 z3 f0 f1 f2 f3
                          generalize (((v2.setCell ⟨w.heap.size, 0, none⟩ (.int .u8 (k : Int))).setCell ⟨w.heap.size, 1, none⟩ (.int .i64 (dimOf xs))).setCell ⟨w.heap.size, 2, none⟩ (.int .u8 (it : Int))).setCell ⟨w.heap.size, 3, none⟩ (.string ⟨#[]⟩) = W5 at *
                          obtain ⟨⟨y0, y1, y2, y3⟩, yl⟩ := box4 HF.out.1
                          refine bodyPost_ret (v := .tuple #[.agg #[.int .u8 (k : Int), .int .i64 (dimOf xs), .int .u8 (it : Int), .string ⟨#[]⟩], .int .i64 (n : Int), .int .i64 0]) (by simp [results, Tryd.results22, go_sem, y0, y1, y2, y3]) rfl ⟨?_, HF.out.2⟩
                          rw [HE.out, HCt.out.1]
                          unfold tyV
                          rw [HCt.out.2]
                  · obtain rfl : i = 7 := by omega
                    have HB := Lib.hid (And.intro J.out.1 (G.out.2.next J.out.2 (.inl rfl)))
                    clear J
                    go_wp2
                    go_roundw
                    case rel => exact ⟨it + 1, by omega, by go_num, HB⟩
                    case measure => simp [intOf]; omega
                · have HB := Lib.hid (And.intro J.out.1 (G.out.2.next J.out.2 (.inr (by have := HM.out; omega))))
                  clear J
                  go_wp2
                  go_roundw
                  case rel => exact ⟨it + 1, by omega, by go_num, HB⟩
                  case measure => simp [intOf]; omega
            · obtain rfl : it = 4 := by omega
              have HB := Lib.hid (And.intro G.out.1 (H.out.2.next G.out.2))
              clear G
              go_wp2
              go_roundw
              case rel => exact ⟨k + 1, by omega, by omega, by go_num, HB⟩
              case measure => simp [intOf]; omega
        · obtain rfl : k = 6 := by omega
          have HE := Lib.hid (HNone.out H.out.2)
          have HZ := Lib.hid H.out.1
          obtain ⟨⟨z0, z1, z2, z3⟩, zl⟩ := box4 H.out.1.2
          obtain ⟨f0, f1, f2, f3⟩ := box4f H.out.1.2
          go_wp2
          have HF := Lib.hid (And.intro (box4_all (.int .u8 0) (.int .i64 0) (.int .u8 0) (.string ⟨#[]⟩) HZ.out.2) (bset4 HZ.out.1 (Nat.le_refl _) (.int .u8 0) (.int .i64 0) (.int .u8 0) (.string ⟨#[]⟩)))
          unfold set4 at HF
          clear z0 z1 z2 z3 f0 f1 f2 f3
          generalize (((wr.setCell ⟨w.heap.size, 0, none⟩ (.int .u8 0)).setCell ⟨w.heap.size, 1, none⟩ (.int .i64 0)).setCell ⟨w.heap.size, 2, none⟩ (.int .u8 0)).setCell ⟨w.heap.size, 3, none⟩ (.string ⟨#[]⟩) = W5 at *
          obtain ⟨⟨y0, y1, y2, y3⟩, yl⟩ := box4 HF.out.1
          refine bodyPost_ret (v := .tuple #[.agg #[.int .u8 0, .int .i64 0, .int .u8 0, .string ⟨#[]⟩], .int .i64 0, .int .i64 90]) (by simp [results, Tryd.results22, go_sem, y0, y1, y2, y3]) rfl ⟨?_, HF.out.2⟩
          rw [HE.out]
          rfl
end Go.Proofs.YtbkbhlbfkfnljaaDoor
