/- The reference's lines of a text, and the next line with content. -/
import Derived.Test.YtkhmpmjonkmbeaaDoorRfb
import Derived.Test.YtkhmpmjonkmbeaaDoorRpl
set_option linter.unusedVariables false
set_option linter.unusedSimpArgs false
namespace Go.Proofs.YtkhmpmjonkmbeaaDoor
open Go Go.RowKit L7

theorem no_take {s : Bs} {f k : Nat} (hk : k < s.length) (h : ∀ j, f ≤ j → j < k → s.getD j 0 ≠ 10) : No10 ((s.take k).drop f) := by
  intro c hc
  obtain ⟨i, hi, rfl⟩ := List.getElem_of_mem hc
  simp only [List.length_drop, List.length_take] at hi
  have := h (f + i) (by omega) (by omega)
  have e : s.getD (f + i) 0 = s[f + i] := by simp [show f + i < s.length by omega]
  rw [e] at this
  simpa using this
theorem no_drop {s : Bs} {f : Nat} (h : ∀ j, f ≤ j → j < s.length → s.getD j 0 ≠ 10) : No10 (s.drop f) := by
  intro c hc
  obtain ⟨i, hi, rfl⟩ := List.getElem_of_mem hc
  simp only [List.length_drop] at hi
  have := h (f + i) (by omega) (by omega)
  have e : s.getD (f + i) 0 = s[f + i] := by simp [show f + i < s.length by omega]
  rw [e] at this
  simpa using this
theorem lns_next {s : Bs} {f k : Nat} (hf : f ≤ k) (hk : k < s.length) (h : ∀ j, f ≤ j → j < k → s.getD j 0 ≠ 10) (he : s.getD k 0 = 10) : lnsOf (s.drop f) = (s.take k).drop f :: lnsOf (s.drop (k + 1)) := by
  have e : s.drop f = (s.take k).drop f ++ 10 :: s.drop (k + 1) := by
    have e1 : s = s.take k ++ s.drop k := (List.take_append_drop k s).symm
    have e2 : s.drop k = 10 :: s.drop (k + 1) := by
      rw [List.drop_eq_getElem_cons hk]
      have : s.getD k 0 = s[k] := by simp [hk]
      rw [← this, he]
    conv => lhs; rw [e1, e2]
    rw [List.drop_append_of_le_length (by simp; omega)]
  rw [e, lns_hit (no_take hk h)]
set_option maxRecDepth 100000 in
set_option maxHeartbeats 4000000 in
theorem RLines_any (s : Bs) (hs : s.length ≤ 100000) (w : World) : Calls Tryd.prog 31 #[.string (strOf s)] w fun e w' => ∃ A c, e = .returned (.slice A (lnsOf s).length c) ∧ OwnS w' w.heap.size A (lnsOf s).length c (lnsOf s) ∧ Below w.heap.size w w' := by
  have hsz := size_strOf s
  obtain ⟨n, hn⟩ : ∃ n, s.length = n := ⟨_, rfl⟩
  rw [hn] at hsz hs
  have HN := Lib.hid hn
  have HI := Lib.hid (fun (k : Nat) (hk : k < n) (W : World) => index_l s k (by omega) W)
  have HM := Lib.hid (fun (i k : Nat) (h : i ≤ k) (hk : k ≤ n) (W : World) => cut_mid s i k h (by omega) W)
  have HD := Lib.hid (fun (i : Nat) (h : i ≤ n) (W : World) => cut_from s i (by omega) W)
  have HL := Lib.hid (lns_len s).2
  clear hn
  go_enter Tryd.func31, Tryd.ntmps31
  go_wp2
  go_loopw [3, 4, 5] (fun v fr i wr => ∃ k f m c : Nat, ∃ A, k ≤ n ∧ f ≤ k ∧ m ≤ 200000 ∧ i = .int .i64 k ∧ fr = .int .i64 f ∧ v = .slice A m c ∧ Hid (Below w.heap.size w wr ∧ ∃ done : List Bs, OwnS wr w.heap.size A m c done ∧ lnsOf s = done ++ lnsOf (s.drop f) ∧ ∀ j, f ≤ j → j < k → s.getD j 0 ≠ 10)) (fun _ _ i _ => n - (intOf i).toNat)
  case atStart => exact ⟨0, 0, 0, 0, none, Nat.zero_le _, Nat.zero_le _, Nat.zero_le _, rfl, rfl, rfl, Lib.hid ⟨b0 w, [], ownS_nil w _, by simp, fun j _ hj => absurd hj (by omega)⟩⟩
  case round =>
    obtain ⟨k, f, m, c, A, hk, hf, hm2, rfl, rfl, rfl, H⟩ := hrel
    have hk0 : (0 : Int) ≤ (k : Int) := by omega
    have hm1 : m ≤ 100001 := by
      obtain ⟨_, done, ho, hl, _⟩ := H.out
      have h1 := ho.len
      have h2 := congrArg List.length hl
      rw [List.length_append] at h2
      have := HL.out
      have := HN.out
      omega
    by_cases hlt : (k : Int) < (n : Int)
    · have h1 := HI.out k (by omega)
      have q1 := b10 (s.getD k 0)
      by_cases a : s.getD k 0 = 10
      · rw [decide_eq_true a] at q1
        have hc := HM.out f k hf (by omega)
        obtain ⟨hb, done, ho, hl, hno⟩ := H.out
        have HX := Lib.hid (And.intro (lns_next hf (by rw [HN.out]; omega) hno a) hl)
        have HB := Lib.hid (And.intro hb ho)
        clear a H hb ho hl hno
        generalize ((s.getD k 0).toNat : Int) = x at *
        generalize hp : (s.take k).drop f = p at *
        have HP := Lib.hid hp
        clear hp
        go_wp2_with (at_builtin; (refine app_strs rfl (.tmp 16) (.tmp 21) rfl w.heap.size m c 1 1 (m + 1) A (some ⟨wr.heap.size, 0, none⟩) done [p] rfl rfl (own_keepB HB.out.2 (bal (b0 wr) _)) rfl (by omega) (ss_one (heap_alloc_new wr _)) rfl (by omega) (bal HB.out.1 _).size ?_; intro A2 c2 w2 o2 g2; have H2 := Lib.hid (And.intro (bgrow (bal HB.out.1 _) (own_keepB HB.out.2 (bal (b0 wr) _)) (Nat.le_refl _) g2) o2); clear o2 g2))
        go_roundw
        case rel =>
          refine ⟨k + 1, k + 1, m + 1, c2, A2, by omega, Nat.le_refl _, by omega, by go_num, by go_num, rfl, Lib.hid ⟨H2.out.1, done ++ [p], H2.out.2, ?_, fun j h1 h2 => absurd h2 (by omega)⟩⟩
          rw [HX.out.2, HX.out.1, List.append_assoc]
          rfl
        case measure => simp [intOf]; omega
      · rw [decide_eq_false a] at q1
        have HX : Hid (Below w.heap.size w wr ∧ ∃ done : List Bs, OwnS wr w.heap.size A m c done ∧ lnsOf s = done ++ lnsOf (s.drop f) ∧ ∀ j, f ≤ j → j < k + 1 → s.getD j 0 ≠ 10) := by
          obtain ⟨hb, done, ho, hl, hno⟩ := H.out
          exact Lib.hid ⟨hb, done, ho, hl, fun j h1 h2 => if h : j < k then hno j h1 h else by rw [show j = k by omega]; exact a⟩
        clear a H
        generalize ((s.getD k 0).toNat : Int) = x at *
        go_wp2
        go_roundw
        case rel => exact ⟨k + 1, f, m, c, A, by omega, by omega, by omega, by go_num, rfl, rfl, HX⟩
        case measure => simp [intOf]; omega
    · obtain rfl : k = n := by omega
      have hc := HD.out f hf
      obtain ⟨hb, done, ho, hl, hno⟩ := H.out
      have e : lnsOf s = done ++ [s.drop f] := by rw [hl, lns_single (no_drop (by rw [HN.out]; exact hno))]
      have hlen : (lnsOf s).length = m + 1 := by rw [e, List.length_append, ho.len]; rfl
      have HB := Lib.hid (And.intro hb ho)
      have HZ := Lib.hid (And.intro hlen e)
      clear H hb ho hl hno e hlen
      generalize s.drop f = p at *
      go_wp2_with (at_builtin; (refine app_strs rfl (.tmp 25) (.tmp 29) rfl w.heap.size m c 1 1 (m + 1) A (some ⟨wr.heap.size, 0, none⟩) done [p] rfl rfl (own_keepB HB.out.2 (bal (b0 wr) _)) rfl (by omega) (ss_one (heap_alloc_new wr _)) rfl (by omega) (bal HB.out.1 _).size ?_; intro A2 c2 w2 o2 g2; have H2 := Lib.hid (And.intro (bgrow (bal HB.out.1 _) (own_keepB HB.out.2 (bal (b0 wr) _)) (Nat.le_refl _) g2) o2); clear o2 g2))
      go_ret
      rw [HZ.out.1, HZ.out.2]
      exact ⟨A2, c2, rfl, H2.out.2, H2.out.1⟩
set_option maxRecDepth 100000 in
set_option maxHeartbeats 4000000 in
theorem Rnext_any {A : Option Addr} {c n i : Nat} {ls : List Bs} {w : World} (R : SS w A c ls) (hn : ls.length = n) (hi : i ≤ n) (hn1 : n ≤ 200000) (hl : ∀ k, (ls.getD k []).length ≤ 100000) :
    Calls Tryd.prog 33 #[.slice A n c, .int .i64 (i : Int)] w fun e w' => e = .returned (.int .i64 ((nx ls i : Nat) : Int)) ∧ Below w.heap.size w w' := by
  have HR := Lib.hid R
  have HN := Lib.hid hn
  have CC := Lib.hid (fun (k : Nat) (W : World) => RCut_any (ls.getD k []) (hl k) W)
  have HE := Lib.hid (fun (k : Nat) => size_strOf (cutL (ls.getD k [])).2)
  have HLc := Lib.hid (fun (k : Nat) => Nat.le_trans (cut_le (ls.getD k [])).2 (hl k))
  have HI := Lib.hid hi
  clear R hn hl hi
  go_enter Tryd.func33, Tryd.ntmps33
  go_wp2
  go_loopw [1] (fun x wr => ∃ k : Nat, k ≤ n ∧ x = .int .i64 k ∧ Hid (Below w.heap.size w wr ∧ nx ls i = nx ls k)) (fun x _ => n - (intOf x).toNat)
  case atStart => exact ⟨i, HI.out, rfl, Lib.hid ⟨b0 w, rfl⟩⟩
  case round =>
    obtain ⟨k, hk, rfl, H⟩ := hrel
    have hk0 : (0 : Int) ≤ (k : Int) := by omega
    by_cases hlt : (k : Int) < (n : Int)
    · obtain ⟨ad, rfl, c0⟩ := (HR.out.keep H.out.1).rd k (by have := HN.out; omega)
      have C := Lib.hid (CC.out k)
      have hz := HE.out k
      have hzl := HLc.out k
      have HS := Lib.hid (fun h => nx_step (ls := ls) (i := k) (by rw [HN.out]; omega) h)
      have HA := Lib.hid (fun h => nx_at (ls := ls) (i := k) (by rw [HN.out]; omega) h)
      generalize ls.getD k [] = l at *
      obtain ⟨a, ha⟩ : ∃ a, (cutL l).1 = a := ⟨_, rfl⟩
      rw [ha] at C
      clear ha
      generalize (cutL l).2 = t at *
      by_cases h0 : t.isEmpty = true
      · have ht : t = [] := by simpa using h0
        subst ht
        have hz' : (strOf []).size = 0 := hz
        have HX := Lib.hid (H.out.2.trans (HS.out h0))
        clear hz HS HA h0
        generalize strOf [] = T at *
        go_wp2_with (go_at_call 34; refine (C.out _).mono ?_; rintro e w1 ⟨rfl, b1⟩; have B1 := Lib.hid (blw H.out.1 b1); clear b1)
        go_roundw
        case rel => exact ⟨k + 1, by omega, by go_num, Lib.hid ⟨B1.out, HX.out⟩⟩
        case measure => simp [intOf]; omega
      · have h0' : t.isEmpty = false := by simpa using h0
        have ht : 0 < t.length := List.length_pos_iff.2 (fun e => by rw [e] at h0'; cases h0')
        have HX := Lib.hid (H.out.2.trans (HA.out h0'))
        clear HS HA h0 h0'
        generalize t.length = q at *
        generalize strOf t = T at *
        have hq : (0 : Int) < (q : Int) := by omega
        go_wp2_with (go_at_call 34; refine (C.out _).mono ?_; rintro e w1 ⟨rfl, b1⟩; have B1 := Lib.hid (blw H.out.1 b1); clear b1)
        go_ret
        rw [HX.out]
        exact ⟨rfl, B1.out⟩
    · obtain rfl : k = n := by omega
      have HX := Lib.hid (H.out.2.trans (nx_end (by rw [HN.out]; exact Nat.le_refl _)))
      have HB := Lib.hid H.out.1
      clear H
      go_wp2
      go_ret
      rw [HX.out]
      exact ⟨rfl, HB.out⟩
end Go.Proofs.YtkhmpmjonkmbeaaDoor
