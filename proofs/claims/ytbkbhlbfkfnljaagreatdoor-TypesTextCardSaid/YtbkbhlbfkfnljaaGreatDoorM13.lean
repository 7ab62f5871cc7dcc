/- The program: protocols that exist, a variant by its tag, tokens that are made. -/
import Derived.Deep.RegionLaw
import Derived.Test.YtbkbhlbfkfnljaaGreatDoorM12
import Derived.Test.YtbkbhlbfkfnljaaGreatDoorM11
set_option linter.unusedVariables false
set_option linter.unusedSimpArgs false
set_option linter.unusedVariables false
set_option linter.unusedSimpArgs false
namespace Go.Proofs.YtbkbhlbfkfnljaaGreatDoor
open Go Go.RowKit L8 L9

theorem eq_nil0 (n : Nat) : ((n : Int) == 0) = decide (n = 0) := nat_eq n 0
theorem neq_int (a b : Int) : (a != b) = !decide (a = b) := by by_cases h : a = b <;> simp [h]
set_option maxRecDepth 100000 in
set_option maxHeartbeats 16000000 in
theorem PMayP_any {c : Bool} {A : Option Addr} {n d : Nat} {vs : List Vr} {w : World} (R : VnR w A d vs) (hn : vs.length = n) (ht : T9 w) : Calls Tryz.prog 17 #[prV c A n d] w fun e w' => e = .returned (.bool (mayP c vs)) ∧ Below w.heap.size w w' := by
  have HN := Lib.hid hn
  have HT := Lib.hid (fun (X : World) (b : Below w.heap.size w X) => ht.below b)
  have hmx : n ≤ maxLen := by have := R.le; have := R.mx; omega
  unfold maxLen at hmx
  have HV := Lib.hid (PrS.new (c := c) (n := n) R)
  have CI : Hid (∀ (B : Option Addr) (e m : Nat) (ks : List Nat) (X : World), KR X B e ks → ks.length = m → T9 X → Calls Tryz.prog 36 #[.slice B m e] X fun en w' => en = .returned (.bool (itemsB ks 0)) ∧ X = w') := Lib.hid fun B e m ks X K hm t9 => PItems_any K hm t9
  have CN := Lib.hid (fun (j : Nat) (W : World) => Name_any (vs.getD j v0).tag (R.tag j) W)
  have CX : Hid (∀ X j, VnR X A d vs → Calls Tryz.prog 35 #[.slice A n d, .string (strOf (vs.getD j v0).tag)] X fun e w' => e = .returned (.int .i64 (ixI (idxT (vs.getD j v0).tag vs))) ∧ Below X.heap.size X w') := Lib.hid fun X j V => PIndex_any V hn _
  dsimp only [prV]
  cases c with
  | false =>
    have q1 : ((n : Int) == 1) = decide (n = 1) := nat_eq n 1
    clear R ht CN CX
    by_cases h1 : n = 1
    · subst h1
      obtain ⟨ad, rfl, B, e, m, hm, x0, x1, K⟩ := HV.out.at (k := 0) (by have := HN.out; omega)
      have hmm : m ≤ maxLen := by have := K.le; have := K.mx; omega
      unfold maxLen at hmm
      have he := eq_nil9 (vs.getD 0 v0).tag
      have C := Lib.hid (CI.out B e m _ _ K hm (HT.out _ HV.out.bel))
      have hz : ad.add 0 = ad := by unfold Addr.add; simp
      rw [Nat.zero_mul, hz] at x0 x1
      clear K CI
      by_cases htag : (vs.getD 0 v0).tag = []
      · by_cases hmp : 0 < (m : Int)
        · rw [mayP_one HN.out htag (by omega)]
          rw [decide_eq_true htag] at he
          clear htag hm
          generalize itemsB (vs.getD 0 v0).it 0 = b1 at *
          generalize strOf (vs.getD 0 v0).tag = S at *
          go_enter Tryz.func17, Tryz.ntmps17
          go_wp2_with (go_at_call 36; (with_reducible refine (C.out).mono ?_); rintro e w2 ⟨rfl, rfl⟩)
          go_ret
          exact ⟨rfl, HV.out.bel⟩
        · rw [mayP_one_no (.inr (.inr (by omega)))]
          rw [decide_eq_true htag] at he
          clear htag hm C
          generalize strOf (vs.getD 0 v0).tag = S at *
          go_enter Tryz.func17, Tryz.ntmps17
          go_wp2
          go_ret
          first | exact ⟨rfl, HV.out.bel⟩ | exact ⟨ret_b (by simp; omega), HV.out.bel⟩
      · rw [mayP_one_no (.inr (.inl htag))]
        rw [decide_eq_false htag] at he
        clear htag hm C
        generalize strOf (vs.getD 0 v0).tag = S at *
        go_enter Tryz.func17, Tryz.ntmps17
        go_wp2
        go_ret
        exact ⟨rfl, HV.out.bel⟩
    · rw [decide_eq_false h1] at q1
      rw [mayP_one_no (.inl (by rw [HN.out]; exact h1))]
      clear h1 CI
      go_enter Tryz.func17, Tryz.ntmps17
      go_wp2
      go_ret
      exact ⟨rfl, HV.out.bel⟩
  | true =>
    have q0 := eq_nil0 n
    by_cases h1 : n = 0
    · rw [mayP_len (.inl (by omega))]
      rw [decide_eq_true h1] at q0
      clear R ht CN CX CI h1 hn
      go_enter Tryz.func17, Tryz.ntmps17
      go_wp2
      go_ret
      exact ⟨rfl, HV.out.bel⟩
    rw [decide_eq_false h1] at q0
    by_cases h2 : 16 < (n : Int)
    · rw [mayP_len (.inr (by omega))]
      clear R ht CN CX CI hn
      go_enter Tryz.func17, Tryz.ntmps17
      go_wp2
      go_ret
      exact ⟨rfl, HV.out.bel⟩
    have HGood := Lib.hid (fun h => mayP_good (vs := vs) (by omega) (by omega) h)
    have HBad := Lib.hid (fun (i : Nat) (h : i < n) (g : ¬ okV vs i) => mayP_bad (vs := vs) (i := i) (by omega) g)
    have HOk := Lib.hid (fun (i : Nat) (h : i < n) => okV_idx (vs := vs) (k := i) (by omega))
    clear hn R ht h1
    go_enter Tryz.func17, Tryz.ntmps17
    go_wp2
    generalize w.alloc (.cells #[.bool true, .slice A n d] 52) = V at *
    go_loopw [50] (fun i wr => ∃ k : Nat, k ≤ n ∧ i = .int .i64 k ∧ Hid (PrS w wr true A n d vs ∧ ∀ j, j < k → okV vs j)) (fun i _ => n - (intOf i).toNat)
    case atStart => exact ⟨0, Nat.zero_le _, rfl, Lib.hid ⟨HV.out, fun j hj => absurd hj (by omega)⟩⟩
    case round =>
      obtain ⟨k, hk, rfl, H⟩ := hrel
      have hk0 : (0 : Int) ≤ (k : Int) := by omega
      by_cases hlt : (k : Int) < (n : Int)
      · obtain ⟨ad, rfl, B, e, m, hm, x0, x1, K⟩ := H.out.1.at (k := k) (by have := HN.out; omega)
        have hmm : m ≤ maxLen := by have := K.le; have := K.mx; omega
        unfold maxLen at hmm
        have hok := HOk.out k (by omega)
        have hbad := HBad.out k (by omega)
        have HJ := Lib.hid H.out.2
        have HP := Lib.hid (show PrS w (wr.alloc (.cells #[.string (strOf (vs.getD k v0).tag), .slice B m e] 49)) true (some ad) n d vs from H.out.1.step (bal (b0 _) _))
        have HX := Lib.hid (boxS_new wr 49 #[.string (strOf (vs.getD k v0).tag), .slice B m e])
        have HK := Lib.hid (And.intro K hm)
        have C1 := Lib.hid (CN.out k (wr.alloc (.cells #[.string (strOf (vs.getD k v0).tag), .slice B m e] 49)))
        have C2 := Lib.hid (CX.out (wr.alloc (.cells #[.string (strOf (vs.getD k v0).tag), .slice B m e] 49)) k HP.out.2.2)
        have C3 : Hid (∀ Y, Below (wr.alloc (.cells #[.string (strOf (vs.getD k v0).tag), .slice B m e] 49)).heap.size (wr.alloc (.cells #[.string (strOf (vs.getD k v0).tag), .slice B m e] 49)) Y → Calls Tryz.prog 36 #[.slice B m e] Y fun en w' => en = .returned (.bool (itemsB (vs.getD k v0).it 0)) ∧ Y = w') := Lib.hid fun Y b => CI.out B e m _ Y ((HK.out.1.keep (bal (b0 wr) _)).keep b) HK.out.2 (HT.out _ (HP.out.step b).bel)
        obtain ⟨p0, p1⟩ := HP.out.box
        have qi := neq_int (ixI (idxT (vs.getD k v0).tag vs)) (k : Int)
        clear K hm H CI
        generalize ixI (idxT (vs.getD k v0).tag vs) = ix at *
        generalize itemsB (vs.getD k v0).it 0 = bi at *
        generalize isName (vs.getD k v0).tag = bn at *
        generalize hS : strOf (vs.getD k v0).tag = S at *
        clear hS
        cases bn with
        | false =>
          have HE := Lib.hid (hbad (fun g => by cases (hok.1 g).1))
          clear hok hbad qi C2 C3
          go_wp2_with (go_at_call 15; (with_reducible refine (C1.out).mono ?_); rintro e w2 ⟨rfl, rfl⟩)
          go_ret
          rw [HE.out]
          exact ⟨rfl, HP.out.bel⟩
        | true =>
          by_cases hix : ix = (k : Int)
          · rw [decide_eq_true hix] at qi
            cases bi with
            | false =>
              have HE := Lib.hid (hbad (fun g => by cases (hok.1 g).2.2))
              clear hok hbad hix
              go_wp2_with (first
                | (go_at_call 15; (with_reducible refine (C1.out).mono ?_); rintro e w2 ⟨rfl, rfl⟩)
                | (go_at_call 35; (with_reducible refine (C2.out).mono ?_); rintro e w3 ⟨rfl, b⟩; have H2 := Lib.hid (And.intro (HP.out.step b) b); have x2 := ((HX.out.below b).cell 0).trans rfl; have x3 := ((HX.out.below b).cell 1).trans rfl; clear b)
                | (go_at_call 36; (with_reducible refine (C3.out _ H2.out.2).mono ?_); rintro e w4 ⟨rfl, rfl⟩))
              go_ret
              rw [HE.out]
              exact ⟨rfl, H2.out.1.bel⟩
            | true =>
              have HY := Lib.hid (show ∀ i, i < k + 1 → okV vs i from fun i hi => if h : i < k then HJ.out i h else by rw [show i = k by omega]; exact hok.2 ⟨rfl, hix, rfl⟩)
              clear hok hbad hix
              go_wp2_with (first
                | (go_at_call 15; (with_reducible refine (C1.out).mono ?_); rintro e w2 ⟨rfl, rfl⟩)
                | (go_at_call 35; (with_reducible refine (C2.out).mono ?_); rintro e w3 ⟨rfl, b⟩; have H2 := Lib.hid (And.intro (HP.out.step b) b); have x2 := ((HX.out.below b).cell 0).trans rfl; have x3 := ((HX.out.below b).cell 1).trans rfl; clear b)
                | (go_at_call 36; (with_reducible refine (C3.out _ H2.out.2).mono ?_); rintro e w4 ⟨rfl, rfl⟩))
              go_roundw
              case rel => exact ⟨k + 1, by omega, by go_num, Lib.hid ⟨H2.out.1, HY.out⟩⟩
              case measure => simp [intOf]; omega
          · rw [decide_eq_false hix] at qi
            have HE := Lib.hid (hbad (fun g => hix (hok.1 g).2.1))
            clear hok hbad hix C3
            go_wp2_with (first
              | (go_at_call 15; (with_reducible refine (C1.out).mono ?_); rintro e w2 ⟨rfl, rfl⟩)
              | (go_at_call 35; (with_reducible refine (C2.out).mono ?_); rintro e w3 ⟨rfl, b⟩; have H2 := Lib.hid (HP.out.step b); clear b))
            go_ret
            rw [HE.out]
            exact ⟨rfl, H2.out.bel⟩
      · obtain rfl : k = n := by omega
        have HE := Lib.hid (HGood.out (by rw [HN.out]; exact H.out.2))
        go_wp2
        go_ret
        rw [HE.out]
        exact ⟨rfl, H.out.1.bel⟩
/-! ### A variant by its tag -/
theorem PrS.var {w X : World} {c : Bool} {A : Option Addr} {n d : Nat} {vs : List Vr} (h : PrS w X c A n d vs) : VnR X A d vs := h.2.2
theorem items_len {l : List Nat} {n : Nat} (h : itemsB l n = true) : l.length ≤ 8 := by
  unfold itemsB at h
  simp only [Bool.and_eq_true, decide_eq_true_eq] at h
  exact h.2.2
theorem mayP_items {c : Bool} {vs : List Vr} (h : mayP c vs = true) {i : Nat} (hi : i < vs.length) : (vs.getD i v0).it.length ≤ 8 := by
  unfold mayP at h
  split at h
  · simp only [Bool.and_eq_true, decide_eq_true_eq] at h
    exact items_len (okV_iff.1 (h.2.2 i hi)).2.1
  · simp only [Bool.and_eq_true, decide_eq_true_eq] at h
    obtain rfl : i = 0 := by omega
    exact items_len h.2.2
/-- What the program's Find gives: a row of its own. -/
def GivesFo (w : World) (r : List Nat × Nat × Bool) (e : Ending) (w' : World) : Prop := ∃ B d, e = .returned (.tuple #[.slice B r.1.length d, .int .i64 (r.2.1 : Int), .bool r.2.2]) ∧ OwnK w' w.heap.size B r.1.length d r.1 ∧ OK8 r.1 ∧ Below w.heap.size w w'
theorem gives_none {w X : World} (b : Below w.heap.size w X) : GivesFo w ([], 0, false) (.returned (.tuple #[.slice none 0 0, .int .i64 0, .bool false])) X := ⟨none, 0, rfl, ownK_nil _ _, (fun k h => by cases h), b⟩
set_option maxRecDepth 100000 in
set_option maxHeartbeats 8000000 in
theorem PFind_any {c : Bool} {A : Option Addr} {n d : Nat} {vs : List Vr} {w : World} (R : VnR w A d vs) (hn : vs.length = n) (tag : Bs) (ht : T9 w) : Calls Tryz.prog 16 #[prV c A n d, .string (strOf tag)] w (GivesFo w (findR c vs tag)) := by
  have HN := Lib.hid hn
  have hmx : n ≤ maxLen := by have := R.le; have := R.mx; omega
  unfold maxLen at hmx
  have HV := Lib.hid (PrS.new (c := c) (n := n) R)
  have CM : Hid (Calls Tryz.prog 17 #[.agg #[.bool c, .slice A n d]] (w.alloc (.cells #[.bool c, .slice A n d] 52)) fun e w' => e = .returned (.bool (mayP c vs)) ∧ Below (w.alloc (.cells #[.bool c, .slice A n d] 52)).heap.size (w.alloc (.cells #[.bool c, .slice A n d] 52)) w') := Lib.hid (PMayP_any HV.out.2.2 hn (ht.below HV.out.bel))
  have CX : Hid (∀ X, VnR X A d vs → Calls Tryz.prog 35 #[.slice A n d, .string (strOf tag)] X fun e w' => e = .returned (.int .i64 (ixI (idxT tag vs))) ∧ Below X.heap.size X w') := Lib.hid fun X V => PIndex_any V hn _
  dsimp only [prV]
  cases hm : mayP c vs with
  | false =>
    rw [findR_not hm]
    rw [hm] at CM
    clear hm R hn ht CX
    generalize strOf tag = S at *
    go_enter Tryz.func16, Tryz.ntmps16
    go_wp2_with (go_at_call 17; (with_reducible refine (CM.out).mono ?_); rintro e w2 ⟨rfl, b⟩; have H2 := Lib.hid (HV.out.step b); clear b)
    go_ret3
    exact gives_none H2.out.bel
  | true =>
    rw [hm] at CM
    cases hix : idxT tag vs with
    | none =>
      have hf : findR c vs tag = ([], 0, false) := findR_none (fun j hj => idx_none.1 hix j hj)
      rw [hf]
      rw [hix] at CX
      have hi : ixI none = -1 := rfl
      rw [hi] at CX
      clear hm R hn ht hf hix hi
      generalize strOf tag = S at *
      go_enter Tryz.func16, Tryz.ntmps16
      go_wp2_with (first
        | (go_at_call 17; (with_reducible refine (CM.out).mono ?_); rintro e w2 ⟨rfl, b⟩; have H2 := Lib.hid (HV.out.step b); obtain ⟨p0, p1⟩ := H2.out.box; clear b)
        | (go_at_call 35; (with_reducible refine (CX.out _ H2.out.var).mono ?_); rintro e w3 ⟨rfl, b⟩; have H3 := Lib.hid (H2.out.step b); clear b))
      go_ret3
      exact gives_none H3.out.bel
    | some i =>
      obtain ⟨hi, htag, hne⟩ := idx_some.1 hix
      have h8 := mayP_items hm hi
      have hf : findR c vs tag = ((vs.getD i v0).it, i, true) := findR_at hm hi htag hne
      have hin : i < n := by omega
      have hi0 : (0 : Int) ≤ (i : Int) := by omega
      have hin2 : (i : Int) < (n : Int) := by omega
      have HI := Lib.hid hi
      rw [hf]
      rw [hix] at CX
      have hi1 : ixI (some i) = (i : Int) := rfl
      rw [hi1] at CX
      unfold GivesFo
      dsimp only
      clear hm R hn ht hf hix hi1 htag hne hi
      generalize strOf tag = S at *
      go_enter Tryz.func16, Tryz.ntmps16
      go_wp2_with (first
        | (go_at_call 17; (with_reducible refine (CM.out).mono ?_); rintro e w2 ⟨rfl, b⟩; have H2 := Lib.hid (HV.out.step b); obtain ⟨p0, p1⟩ := H2.out.box; clear b)
        | (go_at_call 35; (with_reducible refine (CX.out _ H2.out.var).mono ?_); rintro e w3 ⟨rfl, b⟩; have H3 := Lib.hid (H2.out.step b); obtain ⟨p2, p3⟩ := H3.out.box; obtain ⟨ad, rfl, B, e1, m, hmi, x0, x1, K⟩ := H3.out.at HI.out; have HK := Lib.hid (And.intro K (And.intro hmi (hmi ▸ h8))); clear b K hmi h8)
        | (at_builtin; (refine app_kinds rfl (.tmp 16) (.tmp 22) rfl w.heap.size 0 0 m e1 m none B [] (vs.getD i v0).it rfl rfl (ownK_nil _ _) HK.out.2.1 HK.out.1 (by omega) (by have := HK.out.2.2; omega) H3.out.bel.size ?_; intro A3 c3 w5 o3 g3; have B3 := Lib.hid (And.intro o3 (bgrow H3.out.bel (ownK_nil w3 w.heap.size) (Nat.le_refl _) g3)); clear o3 g3)))
      go_ret3
      refine ⟨A3, c3, ?_, ?_, HK.out.1.ok, B3.out.2⟩
      · rw [HK.out.2.1]; rfl
      · rw [HK.out.2.1]; exact B3.out.1
/-! ### Tokens that are made -/
set_option maxRecDepth 100000 in
theorem Pkey_any (s : ByteArray) (w : World) : Calls Tryz.prog 12 #[.string s] w fun e w' => e = .returned (.agg #[.int .u8 2, .int .i64 0, .string s, .int .i32 0]) ∧ Below w.heap.size w w' := by
  go_enter Tryz.func12, Tryz.ntmps12
  go_wp2
  first
  | (go_ret
     exact ⟨rfl, bal (b0 w) _⟩)
  | (refine bodyPost_ret (v := .agg #[.int .u8 2, .int .i64 0, .string s, .int .i32 0]) (by simp [results, Tryz.results12, go_sem]) rfl ⟨rfl, bal (b0 w) _⟩)
set_option maxRecDepth 100000 in
theorem Psymbol_any (s : ByteArray) (w : World) : Calls Tryz.prog 10 #[.string s] w fun e w' => e = .returned (.agg #[.int .u8 5, .int .i64 0, .string s, .int .i32 0]) ∧ Below w.heap.size w w' := by
  go_enter Tryz.func10, Tryz.ntmps10
  go_wp2
  first
  | (go_ret
     exact ⟨rfl, bal (b0 w) _⟩)
  | (refine bodyPost_ret (v := .agg #[.int .u8 5, .int .i64 0, .string s, .int .i32 0]) (by simp [results, Tryz.results10, go_sem]) rfl ⟨rfl, bal (b0 w) _⟩)
set_option maxRecDepth 100000 in
theorem Pnumber_any {n : Int} (h : 0 ≤ n ∧ n ≤ 64) (w : World) : Calls Tryz.prog 11 #[.int .i64 n] w fun e w' => e = .returned (.agg #[.int .u8 3, .int .i64 0, .string ⟨#[]⟩, .int .i32 n]) ∧ Below w.heap.size w w' := by
  have qw : IntKind.i32.wrap n = n := IntWalk.i32_in _ (by omega)
  go_enter Tryz.func11, Tryz.ntmps11
  go_wp2
  first
  | (go_ret
     exact ⟨rfl, bal (b0 w) _⟩)
  | (refine bodyPost_ret (v := .agg #[.int .u8 3, .int .i64 0, .string ⟨#[]⟩, .int .i32 n]) (by simp [results, Tryz.results11, go_sem]) rfl ⟨rfl, bal (b0 w) _⟩)
def msgK (t : Ty) : Nat := if t.p = [] then 2 else 1
def msgS (t : Ty) : Bs := if t.p = [] then kwd t.i else t.p
set_option maxRecDepth 100000 in
set_option maxHeartbeats 4000000 in
theorem Pmessage_any (t : Ty) (hi : t.i < 6) (w : World) (ht : T9 w) : Calls Tryz.prog 13 #[tyV t] w fun e w' => e = .returned (.agg #[.int .u8 (msgK t : Int), .int .i64 0, .string (strOf (msgS t)), .int .i32 0]) ∧ Below w.heap.size w w' := by
  have HX : Hid (BoxS ((w.alloc (.cells (tyC t) 24)).alloc (.cells #[.int .u8 0, .int .i64 0, .string ⟨#[]⟩, .int .i32 0] 39)) (w.heap.size + 1) 39 #[.int .u8 0, .int .i64 0, .string ⟨#[]⟩, .int .i32 0]) := Lib.hid (by
    have := boxS_new (w.alloc (.cells (tyC t) 24)) 39 #[.int .u8 0, .int .i64 0, .string ⟨#[]⟩, .int .i32 0]
    rw [World.size_alloc] at this
    exact this)
  have HV := Lib.hid (bal (bal (b0 w) (.cells (tyC t) 24)) (.cells #[.int .u8 0, .int .i64 0, .string ⟨#[]⟩, .int .i32 0] 39))
  have hne : ((strOf t.p).toList.isEmpty) = decide (t.p = []) := by rw [strOf_empty]; cases t.p <;> rfl
  have C := Lib.hid (fun (s : ByteArray) (W : World) => Pkey_any s W)
  have hi0 : (0 : Int) ≤ (t.i : Int) := by omega
  have hi6 : (t.i : Int) < 6 := by omega
  obtain ⟨c0, _⟩ := (ht.below HV.out).cells hi
  unfold msgK msgS
  clear ht
  by_cases hp : t.p = []
  · rw [if_pos hp, if_pos hp]
    rw [decide_eq_true hp] at hne
    clear hp
    dsimp only [tyV, tyC] at *
    generalize strOf (kwd t.i) = Z at *
    generalize strOf t.p = S at *
    go_enter Tryz.func13, Tryz.ntmps13
    go_wp2_with (go_at_call 12; (with_reducible refine (C.out _ _).mono ?_); rintro e w2 ⟨rfl, b⟩; have HB := Lib.hid (And.intro (blw HV.out b) (HX.out.below b)); clear b; obtain ⟨⟨x0, x1, x2, x3⟩, xl⟩ := box4 HB.out.2; obtain ⟨f0, f1, f2, f3⟩ := box4f HB.out.2)
    have HF := Lib.hid (And.intro (box4_all (.int .u8 2) (.int .i64 0) (.string Z) (.int .i32 0) HB.out.2) (bset4 HB.out.1 (show w.heap.size ≤ w.heap.size + 1 by omega) (.int .u8 2) (.int .i64 0) (.string Z) (.int .i32 0)))
    unfold set4 at HF
    clear x0 x1 x2 x3 f0 f1 f2 f3 HB
    generalize (((w2.setCell ⟨w.heap.size + 1, 0, none⟩ (.int .u8 2)).setCell ⟨w.heap.size + 1, 1, none⟩ (.int .i64 0)).setCell ⟨w.heap.size + 1, 2, none⟩ (.string Z)).setCell ⟨w.heap.size + 1, 3, none⟩ (.int .i32 0) = W5 at *
    obtain ⟨⟨y0, y1, y2, y3⟩, yl⟩ := box4 HF.out.1
    refine bodyPost_ret (v := .agg #[.int .u8 2, .int .i64 0, .string Z, .int .i32 0]) (by simp [results, Tryz.results13, go_sem, y0, y1, y2, y3]) rfl ⟨rfl, HF.out.2⟩
  · rw [if_neg hp, if_neg hp]
    rw [decide_eq_false hp] at hne
    clear hp
    dsimp only [tyV, tyC] at *
    generalize strOf t.p = S at *
    go_enter Tryz.func13, Tryz.ntmps13
    go_wp2
    first
    | (go_ret
       exact ⟨rfl, bal (bal (b0 w) _) _⟩)
    | (refine bodyPost_ret (v := .agg #[.int .u8 1, .int .i64 0, .string S, .int .i32 0]) (by simp [results, Tryz.results13, go_sem]) rfl ⟨rfl, bal (bal (b0 w) _) _⟩)
end Go.Proofs.YtbkbhlbfkfnljaaGreatDoor
/- The reference: the tokens of a type. -/
set_option linter.unusedVariables false
set_option linter.unusedSimpArgs false
namespace Go.Proofs.YtbkbhlbfkfnljaaGreatDoor
open Go Go.RowKit L8 L9

/-- An append of tokens in a region that draws its order. -/
theorem step_rws {X : World} {ops : Array Oper} {o : Oper} {a : Act} {K : Act → World → Prop} {Q : Exit → Act → World → Prop} {E : Prop} (hgd : o.guard = none) (s x : Operand)
    (ho : o.op = .call { callee := .builtin .append, args := #[s, x], argTypes := #[25, 25] }) (base n c m d l : Nat) (A A' : Option Addr) (xs ys : List Tk) (hs : a.eval s = .slice A n c) (hx : a.eval x = .slice A' m d)
    (hown : OwnR X 39 base A n c xs) (hy : ys.length = m) (hm : 0 < m) (R : RR X A' d ys) (hl : n + m = l) (h63 : l ≤ 1000000) (hbase : base ≤ X.heap.size)
    (h : ∀ A2 c2 w', OwnR w' 39 base A2 l c2 (xs ++ ys) → X.grownBy w' (Value.slice A n c).ownBlock → K (a.put o.dst (.slice A2 l c2)) w') :
    if Region.wanted o (yielded ops a.tmps) = true then Oper.wp Tryz.prog o a X K Q else E := by
  have hw : Region.wanted o (yielded ops a.tmps) = true := by simp [Region.wanted, hgd]
  rw [if_pos hw]
  subst hl
  obtain ⟨A2, c2, w', hr, h1, h2⟩ := run_rws (ty := o.type) hown hy hm R h63 hbase
  unfold Oper.wp execOp
  simp only [ho, resolve, invoke, builtin, Sem.run_bind, Sem.run_pure, Result.andThen_ok, List.map_toArray, List.map_cons, List.map_nil, hs, hx, hr]
  exact h A2 c2 w' h1 h2
/-- A world in which a type lies in a box, and a row of the call's own. -/
def TkS (w X : World) (t : Ty) (A : Option Addr) (n c : Nat) (l : List Tk) : Prop := Below w.heap.size w X ∧ BoxS X w.heap.size 24 (tyC t) ∧ OwnR X 39 (w.heap.size + 1) A n c l
theorem TkS.step {w X Y : World} {t : Ty} {A : Option Addr} {n c : Nat} {l : List Tk} (h : TkS w X t A n c l) (b : Below X.heap.size X Y) : TkS w Y t A n c l := ⟨blw h.1 b, h.2.1.below b, h.2.2.keep b⟩
theorem TkS.own {w X : World} {t : Ty} {A : Option Addr} {n c : Nat} {l : List Tk} (h : TkS w X t A n c l) : OwnR X 39 (w.heap.size + 1) A n c l := h.2.2
theorem TkS.bel {w X : World} {t : Ty} {A : Option Addr} {n c : Nat} {l : List Tk} (h : TkS w X t A n c l) : Below w.heap.size w X := h.1
theorem TkS.lt {w X : World} {t : Ty} {A : Option Addr} {n c : Nat} {l : List Tk} (h : TkS w X t A n c l) : w.heap.size + 1 ≤ X.heap.size := h.2.1.lt
theorem TkS.cells {w X : World} {t : Ty} {A : Option Addr} {n c : Nat} {l : List Tk} (h : TkS w X t A n c l) : X.cell? ⟨w.heap.size, 0, none⟩ = some (.int .u8 (t.k : Int)) ∧ X.cell? ⟨w.heap.size, 1, none⟩ = some (.int .i64 t.d) ∧ X.cell? ⟨w.heap.size, 2, none⟩ = some (.int .u8 (t.i : Int)) ∧ X.cell? ⟨w.heap.size, 3, none⟩ = some (.string (strOf t.p)) := (box4T h.2.1).1
theorem box_grow {w w' : World} {e : TypeId} {B n c b : Nat} {A : Option Addr} {rs : List Tk} {ty : TypeId} {cs : Array Value} (h : OwnR w e B A n c rs) (g : w.grownBy w' (Value.slice A n c).ownBlock) (hb : b < B) (R : BoxS w b ty cs) : BoxS w' b ty cs := by
  refine BoxS.kept R g ?_
  cases A with
  | none => simp [Value.ownBlock]
  | some ad =>
    have := (owned_ge h ad rfl).1
    simp [Value.ownBlock]
    omega
theorem TkS.app {w X Y : World} {t : Ty} {A A2 : Option Addr} {n c k c2 : Nat} {l m : List Tk} (h : TkS w X t A n c l) (o : OwnR Y 39 (w.heap.size + 1) A2 k c2 (l ++ m)) (g : X.grownBy Y (Value.slice A n c).ownBlock) : TkS w Y t A2 k c2 (l ++ m) :=
  ⟨bgrow h.1 h.2.2 (by omega) g, box_grow h.2.2 g (by omega) h.2.1, o⟩
/-- What Tokens gives. -/
def GivesTk (w : World) (r : List Tk × Int) (e : Ending) (w' : World) : Prop := ∃ A c, e = .returned (.tuple #[.slice A r.1.length c, .int .i64 r.2]) ∧ OwnR w' 39 w.heap.size A r.1.length c r.1 ∧ Below w.heap.size w w'
theorem TkS.gives {w X : World} {t : Ty} {A : Option Addr} {n c : Nat} {l : List Tk} (h : TkS w X t A n c l) (ht : mayT t = true) (hl : tokT t = l) (hn : l.length = n) : GivesTk w (tokensT t) (.returned (.tuple #[.slice A n c, .int .i64 0])) X := by
  unfold tokensT GivesTk
  rw [if_pos ht, hl]
  dsimp only
  rw [hn]
  exact ⟨A, c, rfl, h.2.2.base (by omega), h.1⟩
theorem okx_kw {s : Bs} (h : s.length ≤ maxLen) : OKx (kw s) := ⟨h, by show (2 : Nat) < 256; decide, by show (-2147483648 : Int) ≤ 0; decide, by show (0 : Int) ≤ 2147483647; decide⟩
theorem okx_nm {s : Bs} (h : s.length ≤ maxLen) : OKx (nm s) := ⟨h, by show (1 : Nat) < 256; decide, by show (-2147483648 : Int) ≤ 0; decide, by show (0 : Int) ≤ 2147483647; decide⟩
theorem okx_sy {s : Bs} (h : s.length ≤ maxLen) : OKx (sy s) := ⟨h, by show (5 : Nat) < 256; decide, by show (-2147483648 : Int) ≤ 0; decide, by show (0 : Int) ≤ 2147483647; decide⟩
theorem okx_nb {n : Int} (h : 0 ≤ n ∧ n ≤ 64) : OKx (nb n) := ⟨by unfold nb maxLen; simp, by show (3 : Nat) < 256; decide, by show (-2147483648 : Int) ≤ n; omega, by show n ≤ 2147483647; omega⟩
theorem wd_len (k : Nat) : (wd k).length ≤ maxLen := by unfold wd maxLen; split <;> (try split) <;> decide
theorem okl_dim {d : Int} (h : 0 ≤ d ∧ d ≤ 64) : OKL [sy [91], nb d, sy [93]] := by
  intro x hx
  simp only [List.mem_cons, List.not_mem_nil, or_false] at hx
  rcases hx with rfl | rfl | rfl
  · exact okx_sy (by unfold maxLen; decide)
  · exact okx_nb h
  · exact okx_sy (by unfold maxLen; decide)
theorem okl_two : OKL [kw wChan, kw wOf] := by
  intro x hx
  simp only [List.mem_cons, List.not_mem_nil, or_false] at hx
  rcases hx with rfl | rfl
  · exact okx_kw (by unfold maxLen; decide)
  · exact okx_kw (by unfold maxLen; decide)
theorem row_1 (x : Tk) (hx : OKx x) (W : World) : RR (W.alloc (.cells #[.int .u8 (x.k : Int), .int .i64 x.a, .string (strOf x.tx), .int .i32 x.n] 39)) (some ⟨W.heap.size, 0, none⟩) 1 [x] := rr_one hx (boxS_new W _ _)
theorem row_2 (W : World) : RR (W.alloc (.cells #[.int .u8 2, .int .i64 0, .string ⟨#[67, 72, 65, 78]⟩, .int .i32 0, .int .u8 2, .int .i64 0, .string ⟨#[79, 70]⟩, .int .i32 0] 39)) (some ⟨W.heap.size, 0, none⟩) 2 [kw wChan, kw wOf] :=
  rr_new (w := W.alloc (.cells (rwCs [kw wChan, kw wOf]).toArray 39)) (e := 39) okl_two (by unfold maxLen; decide) (boxS_new W _ _)
theorem row_3 {d : Int} (h : 0 ≤ d ∧ d ≤ 64) (W : World) : RR (W.alloc (.cells #[.int .u8 5, .int .i64 0, .string ⟨#[91]⟩, .int .i32 0, .int .u8 3, .int .i64 0, .string ⟨#[]⟩, .int .i32 d, .int .u8 5, .int .i64 0, .string ⟨#[93]⟩, .int .i32 0] 39)) (some ⟨W.heap.size, 0, none⟩) 3 [sy [91], nb d, sy [93]] :=
  rr_new (w := W.alloc (.cells (rwCs [sy [91], nb d, sy [93]]).toArray 39)) (e := 39) (okl_dim h) (by unfold maxLen; simp) (boxS_new W _ _)
theorem tok_5 {t : Ty} {l : List Tk} (hl : dimT t.d = l) (h : t.k = 5) : tokT t = l ++ [kw wTimer] := by unfold tokT coreT; rw [hl, if_pos h]
theorem tok_4 {t : Ty} {l : List Tk} (hl : dimT t.d = l) (h : t.k = 4) (hp : t.p = []) : tokT t = (l ++ [kw wChan, kw wOf]) ++ [kw (wd t.i)] := by unfold tokT coreT; rw [hl, if_neg (by omega), if_pos h, if_pos hp, List.append_assoc]; rfl
theorem tok_4n {t : Ty} {l : List Tk} (hl : dimT t.d = l) (h : t.k = 4) (hp : t.p ≠ []) : tokT t = (l ++ [kw wChan, kw wOf]) ++ [nm t.p] := by unfold tokT coreT; rw [hl, if_neg (by omega), if_pos h, if_neg hp, List.append_assoc]; rfl
theorem tok_o {t : Ty} {l : List Tk} (hl : dimT t.d = l) (h5 : t.k ≠ 5) (h4 : t.k ≠ 4) : tokT t = l ++ [kw (wd t.k)] := by unfold tokT coreT; rw [hl, if_neg h5, if_neg h4]
end Go.Proofs.YtbkbhlbfkfnljaaGreatDoor
