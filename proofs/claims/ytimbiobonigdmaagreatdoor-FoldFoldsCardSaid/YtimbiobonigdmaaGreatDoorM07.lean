/- The program: the names in a tree. -/
import Derived.Deep.LoopGhost
import Derived.Test.YtimbiobonigdmaaGreatDoorM06
set_option linter.unusedVariables false
set_option linter.unusedSimpArgs false
set_option linter.unusedVariables false
set_option linter.unusedSimpArgs false
namespace Go.Proofs.YtimbiobonigdmaaGreatDoor
open Go Go.RowKit L8 L10

theorem St.lt {w0 wr : World} {b : Nat} {N : Nat → Prop} {L : List (List Ex)} (h : St w0 wr b N L) : b < wr.heap.size := by
  obtain ⟨A, n, c, S, h1, h2, h3⟩ := h
  exact h1.box.lt
/-- Blocks of other types turn, the way stays. -/
theorem St.other {w0 wr Y : World} {b M : Nat} {N P : Nat → Prop} {L : List (List Ex)} (h : St w0 wr b N L) (f : Fr wr Y P) (hP : ∀ k, P k → M ≤ k ∧ ∃ t cs, BoxS wr k t cs ∧ t ≠ 25 ∧ t ≠ 131) (hN : ∀ k, N k → k < M) (hB : w0.heap.size ≤ M) : St w0 Y b N L := by
  obtain ⟨A, n, c, S, h1, h2, h3⟩ := h
  refine ⟨A, n, c, S, h1.fr f (fun p => ?_) (fun ad e p => ?_) (fun k _ hk p => ?_), h2, h3.trans (f.below h3.size fun k p => by have := (hP k p).1; omega)⟩
  · obtain ⟨_, t, cs, hb, _, ht⟩ := hP _ p
    exact box_ne hb h1.box ht rfl
  · obtain ⟨_, t, cs, hb, ht, _⟩ := hP _ p
    exact own_ne_boxT h1.own hb ht ad e rfl
  · have := hN k hk
    have := (hP k p).1
    omega
theorem ownS_block {w : World} {B n c k : Nat} {A : Option Addr} {ss : List Bs} (h : OwnS w B A n c ss) (e : (Value.slice A n c).ownBlock = some k) : B ≤ k ∧ ∃ t cs, BoxS w k t cs ∧ t ≠ 25 ∧ t ≠ 131 := by
  rcases h.2 with ⟨hv, _⟩ | ⟨g', cap, cur, hv, hB, hh, _⟩
  · injection hv with hv1; subst hv1; simp [Value.ownBlock] at e
  · injection hv with hv1
    subst hv1
    simp [Value.ownBlock] at e
    subst e
    exact ⟨hB, _, cur, hh, by decide, by decide⟩
theorem ownS_kp {w w' : World} {B n c : Nat} {A : Option Addr} {ss : List Bs} (h : OwnS w B A n c ss) (k : KpB w w') : OwnS w' B A n c ss := by
  refine ⟨h.1, ?_⟩
  rcases h.2 with h2 | ⟨g', cap, cur, hv, hB, hh, rest⟩
  · exact .inl h2
  · exact .inr ⟨g', cap, cur, hv, hB, k g' _ cur hh (by decide) (by decide), rest⟩
theorem ownS_fr {w w' : World} {P : Nat → Prop} {B n c : Nat} {A : Option Addr} {ss : List Bs} (h : OwnS w B A n c ss) (f : Fr w w' P) (hP : ∀ k, P k → ∃ t cs, BoxS w k t cs ∧ t ≠ 9) : OwnS w' B A n c ss := by
  refine ⟨h.1, ?_⟩
  rcases h.2 with h2 | ⟨g', cap, cur, hv, hB, hh, rest⟩
  · exact .inl h2
  · refine .inr ⟨g', cap, cur, hv, hB, f.obj hh (fun p => ?_), rest⟩
    obtain ⟨t, cs, hb, ht⟩ := hP _ p
    exact box_ne hb (show BoxS w g' 9 cur from hh) ht rfl
/-- The names so far, and those still to come. -/
structure NmW (w0 wr : World) (b : Nat) (N : Nat → Prop) (P : Nat) (cs : Array Value) (A : Option Addr) (q c : Nat) (acc : List Bs) (L : List (List Ex)) : Prop where
  st : St w0 wr b N L
  own : OwnS wr (b + 1) A q c acc
  box : BoxS wr P 27 cs
theorem NmW.lt {w0 wr : World} {b : Nat} {N : Nat → Prop} {P : Nat} {cs : Array Value} {A : Option Addr} {q c : Nat} {acc : List Bs} {L : List (List Ex)} (h : NmW w0 wr b N P cs A q c acc L) : b + 1 ≤ wr.heap.size := h.st.lt
theorem NmW.below {w0 wr wx : World} {b : Nat} {N : Nat → Prop} {P : Nat} {cs : Array Value} {A : Option Addr} {q c : Nat} {acc : List Bs} {L : List (List Ex)} (h : NmW w0 wr b N P cs A q c acc L) (k : Below wr.heap.size wr wx) : NmW w0 wx b N P cs A q c acc L := ⟨h.st.below k, h.own.keep k, h.box.below k⟩
/-- The copy of the round's tree. -/
theorem NmW.cop {w0 wr : World} {b : Nat} {N : Nat → Prop} {P : Nat} {cs cs' : Array Value} {A : Option Addr} {q c : Nat} {acc : List Bs} {L : List (List Ex)} (h : NmW w0 wr b N P cs A q c acc L) : NmW w0 (wr.alloc (.cells cs' 27)) b N wr.heap.size cs' A q c acc L := ⟨h.st.below (bal (b0 wr) _), h.own.keep (bal (b0 wr) _), boxS_new wr _ _⟩
theorem NmW.app {w0 wr X Y : World} {b : Nat} {N : Nat → Prop} {P : Nat} {cs : Array Value} {A A1 : Option Addr} {q c q1 c1 : Nat} {acc acc1 : List Bs} {L : List (List Ex)} (h : NmW w0 wr b N P cs A q c acc L) (bX : Below wr.heap.size wr X) (o : OwnS Y (b + 1) A1 q1 c1 acc1) (g : X.grownBy Y (Value.slice A q c).ownBlock) (hN : ∀ k, N k → k < b + 1) (hB : w0.heap.size ≤ b + 1) : NmW w0 Y b N P cs A1 q1 c1 acc1 L := by
  have hX := h.below bX
  have f : Fr X Y (fun k => (Value.slice A q c).ownBlock = some k) := Fr.ofG g fun k e => e
  refine ⟨hX.st.other f (fun k e => ownS_block hX.own e) hN hB, o, f.box hX.box fun e => ?_⟩
  rcases hX.own.2 with ⟨hv, _⟩ | ⟨g', cap, cur, hv, _, hh, _⟩
  · injection hv with hv1; subst hv1; simp [Value.ownBlock] at e
  · injection hv with hv1
    subst hv1
    simp [Value.ownBlock] at e
    subst e
    exact box_ne hX.box (show BoxS X g' 9 cur from hh) (by decide) rfl
/-- The round's tree is written over. -/
theorem NmW.set {w0 wr : World} {b : Nat} {N : Nat → Prop} {P : Nat} {a' b' c' d' e' f' : Value} {A : Option Addr} {q c : Nat} {acc : List Bs} {L : List (List Ex)} (h : NmW w0 wr b N P #[a', b', c', d', e', f'] A q c acc L) (hN : ∀ k, N k → k < b + 1) (hB : w0.heap.size ≤ b + 1) (hP : b + 1 ≤ P) (v0 v1 v2 v3 v4 v5 : Value) : NmW w0 (set6 wr P v0 v1 v2 v3 v4 v5) b N P #[v0, v1, v2, v3, v4, v5] A q c acc L := by
  have g := fr_set6 wr P v0 v1 v2 v3 v4 v5
  exact ⟨h.st.other g (fun k e => by have e : k = P := e; subst e; exact ⟨by omega, _, _, h.box, by decide, by decide⟩) hN hB, ownS_fr h.own g (fun k e => by have e : k = P := e; subst e; exact ⟨_, _, h.box, by decide⟩), box6_all _ _ _ _ _ _ h.box⟩
set_option maxRecDepth 100000 in
set_option maxHeartbeats 16000000 in
theorem PNamesX_any (e : Ex) (A : Option Addr) (n c : Nat) (w : World) (R : TrR w A c e.l) (hn : e.l.length = n) (ok : OKe e) (hs : szE e ≤ 999999) : Calls Tryz.prog 91 #[exV e A n c] w fun en w' => ∃ B d, en = .returned (.slice B (nmE e).length d) ∧ SS w' B d (nmE e) ∧ Below w.heap.size w w' := by
  have C0 := Lib.hid (walkOf_any e A n c (w.alloc (.cells (exC e A n c) 27)) (R.keep (bal (b0 w) _)) hn ok)
  have HB : Hid (∀ X, Below (w.alloc (.cells (exC e A n c) 27)).heap.size (w.alloc (.cells (exC e A n c) 27)) X → Below w.heap.size w X) := Lib.hid fun X b => blw (bal (b0 w) _) b
  have HI : Hid (∀ X, WkI (w.alloc (.cells (exC e A n c) 27)) X e → St (w.alloc (.cells (exC e A n c) 27)) X (w.heap.size + 1 + 1 + 1 + 1) (N0 (w.heap.size + 1)) ([] ++ [[e]])) := Lib.hid fun X h => by
    have := St.init h
    rwa [World.size_alloc] at this
  have HNl : Hid ((∀ k, N0 (w.heap.size + 1) k → k < w.heap.size + 1 + 1 + 1 + 1 + 1) ∧ (w.alloc (.cells (exC e A n c) 27)).heap.size ≤ w.heap.size + 1 + 1 + 1 + 1 + 1) := Lib.hid ⟨fun k h => by rcases h with h | h <;> omega, by rw [World.size_alloc]; omega⟩
  have HT := Lib.hid tot_next
  have HM := Lib.hid nm_next
  have h0 := Lib.hid (show totS ([] ++ [[e]]) = szE e by rw [List.nil_append, totS, totS, szL, szL]; rfl)
  have h1 := Lib.hid (show nmE e = ownNm e.k e.s ++ nmS (pushS (pushS [] []) e.l) by rw [← nm_next [] e []]; rw [List.nil_append, nmS, nmS, nmL, nmL]; simp)
  have HL := Lib.hid (nm_len e)
  have HP := Lib.hid (szE_pos e)
  clear R hn ok
  rw [World.size_alloc] at C0
  generalize N0 (w.heap.size + 1) = N at *
  generalize szE e = Z at *
  generalize nmE e = ALL at *
  dsimp only [exV, exC] at *
  generalize hS : strOf e.s = S at *
  have HS := Lib.hid hS
  clear hS
  go_enter Tryz.func91, Tryz.ntmps91
  go_wp2_with (first
    | (go_at_call 103; (with_reducible refine (C0.out).mono ?_); clear C0; rintro e1 X0 ⟨rfl, h⟩; have H0 := Lib.hid (HI.out _ h); clear h; have C1 := Lib.hid (H0.out.nextS (x := e) (r := []) (by have := h0.out; omega)))
    | (go_at_call 104; (with_reducible refine (C1.out).mono ?_); clear C1; rintro e1 X1 ⟨C, d, rfl, R, ok, h, kp⟩; have H1 := Lib.hid h; clear h kp R ok))
  clear HI
  have HV : Hid (NmW (w.alloc (.cells #[.int .u8 (e.k : Int), .int .u8 (e.o : Int), .int .u8 (e.t : Int), .int .i32 e.n, .string S, .slice A n c] 27)) (X1.alloc (.cells #[.int .u8 (e.k : Int), .int .u8 (e.o : Int), .int .u8 (e.t : Int), .int .i32 e.n, .string (strOf e.s), .slice C e.l.length d] 27)) (w.heap.size + 1 + 1 + 1 + 1) N X1.heap.size #[.int .u8 (e.k : Int), .int .u8 (e.o : Int), .int .u8 (e.t : Int), .int .i32 e.n, .string (strOf e.s), .slice C e.l.length d] none 0 0 [] (pushS (pushS [] []) e.l)) := Lib.hid ⟨H1.out.below (bal (b0 X1) _), ownS_nil _ _, boxS_new X1 _ _⟩
  have hg : totS (pushS (pushS [] []) e.l) + 1 = Z := by have := HT.out [] e []; have := h0.out; omega
  clear H1 h0
  go_loopg [3, 5, 6] (Z) (fun g z p o wr => ∃ (q cc P m d : Nat) (ok : Bool) (x : Ex) (AA C : Option Addr) (acc : List Bs) (L : List (List Ex)), z = .slice AA q cc ∧ p = .pointer (some ⟨P, 0, none⟩) ∧ o = .bool ok ∧ g = totS L + (if ok = true then 1 else 0) ∧ g ≤ Z ∧ q + g ≤ Z ∧ Hid (NmW (w.alloc (.cells #[.int .u8 (e.k : Int), .int .u8 (e.o : Int), .int .u8 (e.t : Int), .int .i32 e.n, .string S, .slice A n c] 27)) wr (w.heap.size + 1 + 1 + 1 + 1) N P #[.int .u8 (x.k : Int), .int .u8 (x.o : Int), .int .u8 (x.t : Int), .int .i32 x.n, .string (strOf x.s), .slice C m d] AA q cc acc L ∧ acc ++ (if ok = true then ownNm x.k x.s ++ nmS L else []) = ALL ∧ (ok = false → L = [])))
  case atStart => exact ⟨0, 0, _, _, _, true, e, none, _, [], _, rfl, rfl, rfl, by simp; omega, Nat.le_refl _, by omega, Lib.hid ⟨HV.out, h1.out.symm, (fun h => by cases h)⟩⟩
  case round =>
    obtain ⟨q, cc, P, m, d, ok, x, AA, C, acc, L, rfl, rfl, rfl, hgk, hgz, hqz, H⟩ := hrel
    have hq0 : (0 : Int) ≤ (q : Int) := by omega
    obtain ⟨x0, x1, x2, x3, x4, x5⟩ := box6 H.out.1.box
    cases ok with
    | false =>
      have HE := Lib.hid (show (∃ d, SS wr AA d ALL ∧ ALL.length = q ∧ cc = d) ∧ Below w.heap.size w wr from by
        have ha : acc = ALL := by have := H.out.2.1; simpa using this
        refine ⟨⟨cc, ?_, ?_, rfl⟩, HB.out _ H.out.1.st.bel⟩
        · rw [← ha]; exact H.out.1.own.ss
        · rw [← ha]; exact H.out.1.own.len)
      clear H
      go_wp2
      go_ret
      obtain ⟨⟨d', s1, s2, s3⟩, s4⟩ := HE.out
      rw [s2, s3]
      exact ⟨AA, d', rfl, s1, s4⟩
    | true =>
      have hgk1 : gk = totS L + 1 := hgk
      have q4 : ((x.k : Int) == 4) = decide (x.k = 4) := nat_eq10 _ 4
      have q5 : ((x.k : Int) == 5) = decide (x.k = 5) := nat_eq10 _ 5
      have q9 : ((x.k : Int) == 9) = decide (x.k = 9) := nat_eq10 _ 9
      have hown : ownNm x.k x.s = if (decide (x.k = 4) || (decide (x.k = 5) || decide (x.k = 9))) = true then [x.s] else [] := by
        unfold ownNm
        by_cases h4 : x.k = 4 <;> by_cases h5 : x.k = 5 <;> by_cases h9 : x.k = 9 <;> simp [h4, h5, h9]
      have HA : acc ++ (ownNm x.k x.s ++ nmS L) = ALL := H.out.2.1
      have H1 : Hid (SS (wr.alloc (.cells #[.string (strOf x.s)] 9)) (some ⟨wr.heap.size, 0, none⟩) 1 [x.s]) := Lib.hid (ss_one (boxS_new wr _ _))
      have HO : Hid (OwnS (wr.alloc (.cells #[.string (strOf x.s)] 9)) (w.heap.size + 1 + 1 + 1 + 1 + 1) AA q cc acc ∧ w.heap.size + 1 + 1 + 1 + 1 + 1 ≤ (wr.alloc (.cells #[.string (strOf x.s)] 9)).heap.size) := Lib.hid ⟨H.out.1.own.keep (bal (b0 wr) _), by rw [World.size_alloc]; have := H.out.1.lt; omega⟩
      have HAp : Hid (∀ (Y : World) (A1 : Option Addr) (c1 : Nat), OwnS Y (w.heap.size + 1 + 1 + 1 + 1 + 1) A1 (q + 1) c1 (acc ++ [x.s]) → (wr.alloc (.cells #[.string (strOf x.s)] 9)).grownBy Y (Value.slice AA q cc).ownBlock → NmW (w.alloc (.cells #[.int .u8 (e.k : Int), .int .u8 (e.o : Int), .int .u8 (e.t : Int), .int .i32 e.n, .string S, .slice A n c] 27)) Y (w.heap.size + 1 + 1 + 1 + 1) N P #[.int .u8 (x.k : Int), .int .u8 (x.o : Int), .int .u8 (x.t : Int), .int .i32 x.n, .string (strOf x.s), .slice C m d] A1 (q + 1) c1 (acc ++ [x.s]) L) := Lib.hid fun Y A1 c1 o g => H.out.1.app (bal (b0 wr) _) o g HNl.out.1 HNl.out.2
      have HH := Lib.hid H.out.1
      have HW := Lib.hid HH.out.st.ways
      have hq1 : q + 1 ≤ 1000000 := by omega
      rw [hown] at HA
      clear H hown hgk
      have HSet : Hid (∀ (X : World) (Q : Nat) (A1 : Option Addr) (q1 c1 : Nat) (acc1 : List Bs) (L1 : List (List Ex)), w.heap.size + 1 + 1 + 1 + 1 + 1 ≤ Q → NmW (w.alloc (.cells #[.int .u8 (e.k : Int), .int .u8 (e.o : Int), .int .u8 (e.t : Int), .int .i32 e.n, .string S, .slice A n c] 27)) X (w.heap.size + 1 + 1 + 1 + 1) N Q #[.int .u8 (x.k : Int), .int .u8 (x.o : Int), .int .u8 (x.t : Int), .int .i32 x.n, .string (strOf x.s), .slice C m d] A1 q1 c1 acc1 L1 → (X.cell? ⟨Q, 0, none⟩ = some (.int .u8 (x.k : Int)) ∧ X.cell? ⟨Q, 1, none⟩ = some (.int .u8 (x.o : Int)) ∧ X.cell? ⟨Q, 2, none⟩ = some (.int .u8 (x.t : Int)) ∧ X.cell? ⟨Q, 3, none⟩ = some (.int .i32 x.n) ∧ X.cell? ⟨Q, 4, none⟩ = some (.string (strOf x.s)) ∧ X.cell? ⟨Q, 5, none⟩ = some (.slice C m d)) ∧ (X.frozen? ⟨Q, 0, none⟩ = false ∧ X.frozen? ⟨Q, 1, none⟩ = false ∧ X.frozen? ⟨Q, 2, none⟩ = false ∧ X.frozen? ⟨Q, 3, none⟩ = false ∧ X.frozen? ⟨Q, 4, none⟩ = false ∧ X.frozen? ⟨Q, 5, none⟩ = false)
          ∧ Hid (∀ v0 v1 v2 v3 v4 v5, NmW (w.alloc (.cells #[.int .u8 (e.k : Int), .int .u8 (e.o : Int), .int .u8 (e.t : Int), .int .i32 e.n, .string S, .slice A n c] 27)) (set6 X Q v0 v1 v2 v3 v4 v5) (w.heap.size + 1 + 1 + 1 + 1) N Q #[v0, v1, v2, v3, v4, v5] A1 q1 c1 acc1 L1)) := Lib.hid fun X Q A1 q1 c1 acc1 L1 hQ h => ⟨box6 h.box, box6f h.box, Lib.hid fun v0 v1 v2 v3 v4 v5 => h.set HNl.out.1 HNl.out.2 hQ v0 v1 v2 v3 v4 v5⟩
      have HLt : Hid (∀ (X : World) (Q : Nat) (cs : Array Value) (A1 : Option Addr) (q1 c1 : Nat) (acc1 : List Bs) (L1 : List (List Ex)), NmW (w.alloc (.cells #[.int .u8 (e.k : Int), .int .u8 (e.o : Int), .int .u8 (e.t : Int), .int .i32 e.n, .string S, .slice A n c] 27)) X (w.heap.size + 1 + 1 + 1 + 1) N Q cs A1 q1 c1 acc1 L1 → w.heap.size + 1 + 1 + 1 + 1 + 1 ≤ X.heap.size) := Lib.hid fun X Q cs A1 q1 c1 acc1 L1 h => h.lt
      generalize decide (x.k = 4) = b4 at *
      generalize decide (x.k = 5) = b5 at *
      generalize decide (x.k = 9) = b9 at *
      have key4 : b4 = true ∨ (b4 = false ∧ b5 = true) ∨ (b4 = false ∧ b5 = false ∧ b9 = true) ∨ (b4 = false ∧ b5 = false ∧ b9 = false) := by cases b4 <;> cases b5 <;> cases b9 <;> simp
      rcases key4 with rfl | ⟨rfl, rfl⟩ | ⟨rfl, rfl, rfl⟩ | ⟨rfl, rfl, rfl⟩
      · simp only [Bool.true_or, Bool.false_or, Bool.or_true, Bool.or_false, if_true] at HA
        rcases HW.out with rfl | ⟨T, y, r, rfl⟩
        · have HQ := Lib.hid (show (acc ++ [x.s]) ++ (if false = true then ownNm x.k x.s ++ nmS [] else []) = ALL by first | (rw [← HA]; done) | (rw [← HA]; simp [nmS]))
          have HG := Lib.hid hgk1
          clear HA
          go_wp2_with (first
            | (at_builtin; (refine app_strs rfl (.tmp 26) (.tmp 29) rfl (w.heap.size + 1 + 1 + 1 + 1 + 1) q cc 1 1 (q + 1) AA (some ⟨wr.heap.size, 0, none⟩) acc [x.s] rfl rfl HO.out.1 rfl (by decide) H1.out rfl hq1 HO.out.2 ?_; intro A1 c1 w1 o1 g1; have H2 := Lib.hid (HAp.out w1 A1 c1 o1 g1); clear o1 g1 x0 x1 x2 x3 x4 x5; obtain ⟨x0, x1, x2, x3, x4, x5⟩ := box6 H2.out.box; have H3 := Lib.hid (NmW.cop (cs' := #[.int .u8 (x.k : Int), .int .u8 (x.o : Int), .int .u8 (x.t : Int), .int .i32 x.n, .string (strOf x.s), .slice C m d]) (H2.out)); have hlt := HLt.out _ _ _ _ _ _ _ _ (H2.out); have C2 := Lib.hid (H3.out.st.nextN)))
            | (go_at_call 104; (with_reducible refine (C2.out).mono ?_); clear C2; rintro e1 X2 ⟨rfl, h, kp⟩; have H4 := Lib.hid (NmW.mk h (ownS_kp H3.out.own kp) (kp _ _ _ H3.out.box (by decide) (by decide))); clear h kp; obtain ⟨⟨y0, y1, y2, y3, y4, y5⟩, ⟨f0, f1, f2, f3, f4, f5⟩, KF⟩ := HSet.out _ _ _ _ _ _ _ hlt H4.out))
          have KQ := Lib.hid (KF.out (.int .u8 0) (.int .u8 0) (.int .u8 0) (.int .i32 0) (.string ⟨#[]⟩) (.slice none 0 0))
          unfold set6 at KQ
          clear KF y0 y1 y2 y3 y4 y5 f0 f1 f2 f3 f4 f5
          generalize (((((X2.setCell ⟨w1.heap.size, 0, none⟩ (.int .u8 0)).setCell ⟨w1.heap.size, 1, none⟩ (.int .u8 0)).setCell ⟨w1.heap.size, 2, none⟩ (.int .u8 0)).setCell ⟨w1.heap.size, 3, none⟩ (.int .i32 0)).setCell ⟨w1.heap.size, 4, none⟩ (.string ⟨#[]⟩)).setCell ⟨w1.heap.size, 5, none⟩ (.slice none 0 0) = X5 at *
          go_roundg 0
          case rel => exact ⟨(q + 1), c1, w1.heap.size, 0, 0, false, L10.e0, A1, none, (acc ++ [x.s]), [], rfl, rfl, rfl, rfl, Nat.zero_le _, by have := HG.out; omega, Lib.hid ⟨KQ.out, by have := HQ.out; simpa using this, (fun _ => rfl)⟩⟩
          case measure => have := HG.out; omega
        · have HQ := Lib.hid (show (acc ++ [x.s]) ++ (ownNm y.k y.s ++ nmS (pushS (pushS T r) y.l)) = ALL by first | (rw [← HA, HM.out T y r]; done) | (rw [← HA, HM.out T y r]; simp))
          have HG := Lib.hid hgk1
          have HTT := Lib.hid (HT.out T y r)
          have hb1 : totS (T ++ [y :: r]) ≤ 1000000 := by omega
          clear HA
          go_wp2_with (first
            | (at_builtin; (refine app_strs rfl (.tmp 26) (.tmp 29) rfl (w.heap.size + 1 + 1 + 1 + 1 + 1) q cc 1 1 (q + 1) AA (some ⟨wr.heap.size, 0, none⟩) acc [x.s] rfl rfl HO.out.1 rfl (by decide) H1.out rfl hq1 HO.out.2 ?_; intro A1 c1 w1 o1 g1; have H2 := Lib.hid (HAp.out w1 A1 c1 o1 g1); clear o1 g1 x0 x1 x2 x3 x4 x5; obtain ⟨x0, x1, x2, x3, x4, x5⟩ := box6 H2.out.box; have H3 := Lib.hid (NmW.cop (cs' := #[.int .u8 (x.k : Int), .int .u8 (x.o : Int), .int .u8 (x.t : Int), .int .i32 x.n, .string (strOf x.s), .slice C m d]) (H2.out)); have hlt := HLt.out _ _ _ _ _ _ _ _ (H2.out); have C2 := Lib.hid (H3.out.st.nextS hb1)))
            | (go_at_call 104; (with_reducible refine (C2.out).mono ?_); clear C2; rintro e1 X2 ⟨C3, d3, rfl, R, ok, h, kp⟩; have H4 := Lib.hid (NmW.mk h (ownS_kp H3.out.own kp) (kp _ _ _ H3.out.box (by decide) (by decide))); clear h kp R ok; obtain ⟨⟨y0, y1, y2, y3, y4, y5⟩, ⟨f0, f1, f2, f3, f4, f5⟩, KF⟩ := HSet.out _ _ _ _ _ _ _ hlt H4.out))
          have KQ := Lib.hid (KF.out (.int .u8 (y.k : Int)) (.int .u8 (y.o : Int)) (.int .u8 (y.t : Int)) (.int .i32 y.n) (.string (strOf y.s)) (.slice C3 y.l.length d3))
          unfold set6 at KQ
          clear KF y0 y1 y2 y3 y4 y5 f0 f1 f2 f3 f4 f5
          generalize (((((X2.setCell ⟨w1.heap.size, 0, none⟩ (.int .u8 (y.k : Int))).setCell ⟨w1.heap.size, 1, none⟩ (.int .u8 (y.o : Int))).setCell ⟨w1.heap.size, 2, none⟩ (.int .u8 (y.t : Int))).setCell ⟨w1.heap.size, 3, none⟩ (.int .i32 y.n)).setCell ⟨w1.heap.size, 4, none⟩ (.string (strOf y.s))).setCell ⟨w1.heap.size, 5, none⟩ (.slice C3 y.l.length d3) = X5 at *
          go_roundg (totS (pushS (pushS T r) y.l) + 1)
          case rel => exact ⟨(q + 1), c1, w1.heap.size, y.l.length, d3, true, y, A1, C3, (acc ++ [x.s]), pushS (pushS T r) y.l, rfl, rfl, rfl, rfl, by have := HG.out; have := HTT.out; omega, by have := HG.out; have := HTT.out; omega, Lib.hid ⟨KQ.out, HQ.out, (fun h => by cases h)⟩⟩
          case measure => have := HG.out; have := HTT.out; omega
      · simp only [Bool.true_or, Bool.false_or, Bool.or_true, Bool.or_false, if_true] at HA
        rcases HW.out with rfl | ⟨T, y, r, rfl⟩
        · have HQ := Lib.hid (show (acc ++ [x.s]) ++ (if false = true then ownNm x.k x.s ++ nmS [] else []) = ALL by first | (rw [← HA]; done) | (rw [← HA]; simp [nmS]))
          have HG := Lib.hid hgk1
          clear HA
          go_wp2_with (first
            | (at_builtin; (refine app_strs rfl (.tmp 26) (.tmp 29) rfl (w.heap.size + 1 + 1 + 1 + 1 + 1) q cc 1 1 (q + 1) AA (some ⟨wr.heap.size, 0, none⟩) acc [x.s] rfl rfl HO.out.1 rfl (by decide) H1.out rfl hq1 HO.out.2 ?_; intro A1 c1 w1 o1 g1; have H2 := Lib.hid (HAp.out w1 A1 c1 o1 g1); clear o1 g1 x0 x1 x2 x3 x4 x5; obtain ⟨x0, x1, x2, x3, x4, x5⟩ := box6 H2.out.box; have H3 := Lib.hid (NmW.cop (cs' := #[.int .u8 (x.k : Int), .int .u8 (x.o : Int), .int .u8 (x.t : Int), .int .i32 x.n, .string (strOf x.s), .slice C m d]) (H2.out)); have hlt := HLt.out _ _ _ _ _ _ _ _ (H2.out); have C2 := Lib.hid (H3.out.st.nextN)))
            | (go_at_call 104; (with_reducible refine (C2.out).mono ?_); clear C2; rintro e1 X2 ⟨rfl, h, kp⟩; have H4 := Lib.hid (NmW.mk h (ownS_kp H3.out.own kp) (kp _ _ _ H3.out.box (by decide) (by decide))); clear h kp; obtain ⟨⟨y0, y1, y2, y3, y4, y5⟩, ⟨f0, f1, f2, f3, f4, f5⟩, KF⟩ := HSet.out _ _ _ _ _ _ _ hlt H4.out))
          have KQ := Lib.hid (KF.out (.int .u8 0) (.int .u8 0) (.int .u8 0) (.int .i32 0) (.string ⟨#[]⟩) (.slice none 0 0))
          unfold set6 at KQ
          clear KF y0 y1 y2 y3 y4 y5 f0 f1 f2 f3 f4 f5
          generalize (((((X2.setCell ⟨w1.heap.size, 0, none⟩ (.int .u8 0)).setCell ⟨w1.heap.size, 1, none⟩ (.int .u8 0)).setCell ⟨w1.heap.size, 2, none⟩ (.int .u8 0)).setCell ⟨w1.heap.size, 3, none⟩ (.int .i32 0)).setCell ⟨w1.heap.size, 4, none⟩ (.string ⟨#[]⟩)).setCell ⟨w1.heap.size, 5, none⟩ (.slice none 0 0) = X5 at *
          go_roundg 0
          case rel => exact ⟨(q + 1), c1, w1.heap.size, 0, 0, false, L10.e0, A1, none, (acc ++ [x.s]), [], rfl, rfl, rfl, rfl, Nat.zero_le _, by have := HG.out; omega, Lib.hid ⟨KQ.out, by have := HQ.out; simpa using this, (fun _ => rfl)⟩⟩
          case measure => have := HG.out; omega
        · have HQ := Lib.hid (show (acc ++ [x.s]) ++ (ownNm y.k y.s ++ nmS (pushS (pushS T r) y.l)) = ALL by first | (rw [← HA, HM.out T y r]; done) | (rw [← HA, HM.out T y r]; simp))
          have HG := Lib.hid hgk1
          have HTT := Lib.hid (HT.out T y r)
          have hb1 : totS (T ++ [y :: r]) ≤ 1000000 := by omega
          clear HA
          go_wp2_with (first
            | (at_builtin; (refine app_strs rfl (.tmp 26) (.tmp 29) rfl (w.heap.size + 1 + 1 + 1 + 1 + 1) q cc 1 1 (q + 1) AA (some ⟨wr.heap.size, 0, none⟩) acc [x.s] rfl rfl HO.out.1 rfl (by decide) H1.out rfl hq1 HO.out.2 ?_; intro A1 c1 w1 o1 g1; have H2 := Lib.hid (HAp.out w1 A1 c1 o1 g1); clear o1 g1 x0 x1 x2 x3 x4 x5; obtain ⟨x0, x1, x2, x3, x4, x5⟩ := box6 H2.out.box; have H3 := Lib.hid (NmW.cop (cs' := #[.int .u8 (x.k : Int), .int .u8 (x.o : Int), .int .u8 (x.t : Int), .int .i32 x.n, .string (strOf x.s), .slice C m d]) (H2.out)); have hlt := HLt.out _ _ _ _ _ _ _ _ (H2.out); have C2 := Lib.hid (H3.out.st.nextS hb1)))
            | (go_at_call 104; (with_reducible refine (C2.out).mono ?_); clear C2; rintro e1 X2 ⟨C3, d3, rfl, R, ok, h, kp⟩; have H4 := Lib.hid (NmW.mk h (ownS_kp H3.out.own kp) (kp _ _ _ H3.out.box (by decide) (by decide))); clear h kp R ok; obtain ⟨⟨y0, y1, y2, y3, y4, y5⟩, ⟨f0, f1, f2, f3, f4, f5⟩, KF⟩ := HSet.out _ _ _ _ _ _ _ hlt H4.out))
          have KQ := Lib.hid (KF.out (.int .u8 (y.k : Int)) (.int .u8 (y.o : Int)) (.int .u8 (y.t : Int)) (.int .i32 y.n) (.string (strOf y.s)) (.slice C3 y.l.length d3))
          unfold set6 at KQ
          clear KF y0 y1 y2 y3 y4 y5 f0 f1 f2 f3 f4 f5
          generalize (((((X2.setCell ⟨w1.heap.size, 0, none⟩ (.int .u8 (y.k : Int))).setCell ⟨w1.heap.size, 1, none⟩ (.int .u8 (y.o : Int))).setCell ⟨w1.heap.size, 2, none⟩ (.int .u8 (y.t : Int))).setCell ⟨w1.heap.size, 3, none⟩ (.int .i32 y.n)).setCell ⟨w1.heap.size, 4, none⟩ (.string (strOf y.s))).setCell ⟨w1.heap.size, 5, none⟩ (.slice C3 y.l.length d3) = X5 at *
          go_roundg (totS (pushS (pushS T r) y.l) + 1)
          case rel => exact ⟨(q + 1), c1, w1.heap.size, y.l.length, d3, true, y, A1, C3, (acc ++ [x.s]), pushS (pushS T r) y.l, rfl, rfl, rfl, rfl, by have := HG.out; have := HTT.out; omega, by have := HG.out; have := HTT.out; omega, Lib.hid ⟨KQ.out, HQ.out, (fun h => by cases h)⟩⟩
          case measure => have := HG.out; have := HTT.out; omega
      · simp only [Bool.true_or, Bool.false_or, Bool.or_true, Bool.or_false, if_true] at HA
        rcases HW.out with rfl | ⟨T, y, r, rfl⟩
        · have HQ := Lib.hid (show (acc ++ [x.s]) ++ (if false = true then ownNm x.k x.s ++ nmS [] else []) = ALL by first | (rw [← HA]; done) | (rw [← HA]; simp [nmS]))
          have HG := Lib.hid hgk1
          clear HA
          go_wp2_with (first
            | (at_builtin; (refine app_strs rfl (.tmp 26) (.tmp 29) rfl (w.heap.size + 1 + 1 + 1 + 1 + 1) q cc 1 1 (q + 1) AA (some ⟨wr.heap.size, 0, none⟩) acc [x.s] rfl rfl HO.out.1 rfl (by decide) H1.out rfl hq1 HO.out.2 ?_; intro A1 c1 w1 o1 g1; have H2 := Lib.hid (HAp.out w1 A1 c1 o1 g1); clear o1 g1 x0 x1 x2 x3 x4 x5; obtain ⟨x0, x1, x2, x3, x4, x5⟩ := box6 H2.out.box; have H3 := Lib.hid (NmW.cop (cs' := #[.int .u8 (x.k : Int), .int .u8 (x.o : Int), .int .u8 (x.t : Int), .int .i32 x.n, .string (strOf x.s), .slice C m d]) (H2.out)); have hlt := HLt.out _ _ _ _ _ _ _ _ (H2.out); have C2 := Lib.hid (H3.out.st.nextN)))
            | (go_at_call 104; (with_reducible refine (C2.out).mono ?_); clear C2; rintro e1 X2 ⟨rfl, h, kp⟩; have H4 := Lib.hid (NmW.mk h (ownS_kp H3.out.own kp) (kp _ _ _ H3.out.box (by decide) (by decide))); clear h kp; obtain ⟨⟨y0, y1, y2, y3, y4, y5⟩, ⟨f0, f1, f2, f3, f4, f5⟩, KF⟩ := HSet.out _ _ _ _ _ _ _ hlt H4.out))
          have KQ := Lib.hid (KF.out (.int .u8 0) (.int .u8 0) (.int .u8 0) (.int .i32 0) (.string ⟨#[]⟩) (.slice none 0 0))
          unfold set6 at KQ
          clear KF y0 y1 y2 y3 y4 y5 f0 f1 f2 f3 f4 f5
          generalize (((((X2.setCell ⟨w1.heap.size, 0, none⟩ (.int .u8 0)).setCell ⟨w1.heap.size, 1, none⟩ (.int .u8 0)).setCell ⟨w1.heap.size, 2, none⟩ (.int .u8 0)).setCell ⟨w1.heap.size, 3, none⟩ (.int .i32 0)).setCell ⟨w1.heap.size, 4, none⟩ (.string ⟨#[]⟩)).setCell ⟨w1.heap.size, 5, none⟩ (.slice none 0 0) = X5 at *
          go_roundg 0
          case rel => exact ⟨(q + 1), c1, w1.heap.size, 0, 0, false, L10.e0, A1, none, (acc ++ [x.s]), [], rfl, rfl, rfl, rfl, Nat.zero_le _, by have := HG.out; omega, Lib.hid ⟨KQ.out, by have := HQ.out; simpa using this, (fun _ => rfl)⟩⟩
          case measure => have := HG.out; omega
        · have HQ := Lib.hid (show (acc ++ [x.s]) ++ (ownNm y.k y.s ++ nmS (pushS (pushS T r) y.l)) = ALL by first | (rw [← HA, HM.out T y r]; done) | (rw [← HA, HM.out T y r]; simp))
          have HG := Lib.hid hgk1
          have HTT := Lib.hid (HT.out T y r)
          have hb1 : totS (T ++ [y :: r]) ≤ 1000000 := by omega
          clear HA
          go_wp2_with (first
            | (at_builtin; (refine app_strs rfl (.tmp 26) (.tmp 29) rfl (w.heap.size + 1 + 1 + 1 + 1 + 1) q cc 1 1 (q + 1) AA (some ⟨wr.heap.size, 0, none⟩) acc [x.s] rfl rfl HO.out.1 rfl (by decide) H1.out rfl hq1 HO.out.2 ?_; intro A1 c1 w1 o1 g1; have H2 := Lib.hid (HAp.out w1 A1 c1 o1 g1); clear o1 g1 x0 x1 x2 x3 x4 x5; obtain ⟨x0, x1, x2, x3, x4, x5⟩ := box6 H2.out.box; have H3 := Lib.hid (NmW.cop (cs' := #[.int .u8 (x.k : Int), .int .u8 (x.o : Int), .int .u8 (x.t : Int), .int .i32 x.n, .string (strOf x.s), .slice C m d]) (H2.out)); have hlt := HLt.out _ _ _ _ _ _ _ _ (H2.out); have C2 := Lib.hid (H3.out.st.nextS hb1)))
            | (go_at_call 104; (with_reducible refine (C2.out).mono ?_); clear C2; rintro e1 X2 ⟨C3, d3, rfl, R, ok, h, kp⟩; have H4 := Lib.hid (NmW.mk h (ownS_kp H3.out.own kp) (kp _ _ _ H3.out.box (by decide) (by decide))); clear h kp R ok; obtain ⟨⟨y0, y1, y2, y3, y4, y5⟩, ⟨f0, f1, f2, f3, f4, f5⟩, KF⟩ := HSet.out _ _ _ _ _ _ _ hlt H4.out))
          have KQ := Lib.hid (KF.out (.int .u8 (y.k : Int)) (.int .u8 (y.o : Int)) (.int .u8 (y.t : Int)) (.int .i32 y.n) (.string (strOf y.s)) (.slice C3 y.l.length d3))
          unfold set6 at KQ
          clear KF y0 y1 y2 y3 y4 y5 f0 f1 f2 f3 f4 f5
          generalize (((((X2.setCell ⟨w1.heap.size, 0, none⟩ (.int .u8 (y.k : Int))).setCell ⟨w1.heap.size, 1, none⟩ (.int .u8 (y.o : Int))).setCell ⟨w1.heap.size, 2, none⟩ (.int .u8 (y.t : Int))).setCell ⟨w1.heap.size, 3, none⟩ (.int .i32 y.n)).setCell ⟨w1.heap.size, 4, none⟩ (.string (strOf y.s))).setCell ⟨w1.heap.size, 5, none⟩ (.slice C3 y.l.length d3) = X5 at *
          go_roundg (totS (pushS (pushS T r) y.l) + 1)
          case rel => exact ⟨(q + 1), c1, w1.heap.size, y.l.length, d3, true, y, A1, C3, (acc ++ [x.s]), pushS (pushS T r) y.l, rfl, rfl, rfl, rfl, by have := HG.out; have := HTT.out; omega, by have := HG.out; have := HTT.out; omega, Lib.hid ⟨KQ.out, HQ.out, (fun h => by cases h)⟩⟩
          case measure => have := HG.out; have := HTT.out; omega
      · simp only [Bool.false_or, Bool.or_false, Bool.false_eq_true, if_false, List.nil_append] at HA
        rcases HW.out with rfl | ⟨T, y, r, rfl⟩
        · have HQ := Lib.hid (show acc ++ (if false = true then ownNm x.k x.s ++ nmS [] else []) = ALL by first | (rw [← HA]; done) | (rw [← HA]; simp [nmS]))
          have HG := Lib.hid hgk1
          have H3 := Lib.hid (NmW.cop (cs' := #[.int .u8 (x.k : Int), .int .u8 (x.o : Int), .int .u8 (x.t : Int), .int .i32 x.n, .string (strOf x.s), .slice C m d]) (HH.out))
          have hlt := HLt.out _ _ _ _ _ _ _ _ (HH.out)
          have C2 := Lib.hid (H3.out.st.nextN)
          clear HA
          go_wp2_with (go_at_call 104; (with_reducible refine (C2.out).mono ?_); clear C2; rintro e1 X2 ⟨rfl, h, kp⟩; have H4 := Lib.hid (NmW.mk h (ownS_kp H3.out.own kp) (kp _ _ _ H3.out.box (by decide) (by decide))); clear h kp; obtain ⟨⟨y0, y1, y2, y3, y4, y5⟩, ⟨f0, f1, f2, f3, f4, f5⟩, KF⟩ := HSet.out _ _ _ _ _ _ _ hlt H4.out)
          have KQ := Lib.hid (KF.out (.int .u8 0) (.int .u8 0) (.int .u8 0) (.int .i32 0) (.string ⟨#[]⟩) (.slice none 0 0))
          unfold set6 at KQ
          clear KF y0 y1 y2 y3 y4 y5 f0 f1 f2 f3 f4 f5
          generalize (((((X2.setCell ⟨wr.heap.size, 0, none⟩ (.int .u8 0)).setCell ⟨wr.heap.size, 1, none⟩ (.int .u8 0)).setCell ⟨wr.heap.size, 2, none⟩ (.int .u8 0)).setCell ⟨wr.heap.size, 3, none⟩ (.int .i32 0)).setCell ⟨wr.heap.size, 4, none⟩ (.string ⟨#[]⟩)).setCell ⟨wr.heap.size, 5, none⟩ (.slice none 0 0) = X5 at *
          go_roundg 0
          case rel => exact ⟨q, cc, wr.heap.size, 0, 0, false, L10.e0, AA, none, acc, [], rfl, rfl, rfl, rfl, Nat.zero_le _, by have := HG.out; omega, Lib.hid ⟨KQ.out, by have := HQ.out; simpa using this, (fun _ => rfl)⟩⟩
          case measure => have := HG.out; omega
        · have HQ := Lib.hid (show acc ++ (ownNm y.k y.s ++ nmS (pushS (pushS T r) y.l)) = ALL by first | (rw [← HA, HM.out T y r]; done) | (rw [← HA, HM.out T y r]; simp))
          have HG := Lib.hid hgk1
          have HTT := Lib.hid (HT.out T y r)
          have hb1 : totS (T ++ [y :: r]) ≤ 1000000 := by omega
          have H3 := Lib.hid (NmW.cop (cs' := #[.int .u8 (x.k : Int), .int .u8 (x.o : Int), .int .u8 (x.t : Int), .int .i32 x.n, .string (strOf x.s), .slice C m d]) (HH.out))
          have hlt := HLt.out _ _ _ _ _ _ _ _ (HH.out)
          have C2 := Lib.hid (H3.out.st.nextS hb1)
          clear HA
          go_wp2_with (go_at_call 104; (with_reducible refine (C2.out).mono ?_); clear C2; rintro e1 X2 ⟨C3, d3, rfl, R, ok, h, kp⟩; have H4 := Lib.hid (NmW.mk h (ownS_kp H3.out.own kp) (kp _ _ _ H3.out.box (by decide) (by decide))); clear h kp R ok; obtain ⟨⟨y0, y1, y2, y3, y4, y5⟩, ⟨f0, f1, f2, f3, f4, f5⟩, KF⟩ := HSet.out _ _ _ _ _ _ _ hlt H4.out)
          have KQ := Lib.hid (KF.out (.int .u8 (y.k : Int)) (.int .u8 (y.o : Int)) (.int .u8 (y.t : Int)) (.int .i32 y.n) (.string (strOf y.s)) (.slice C3 y.l.length d3))
          unfold set6 at KQ
          clear KF y0 y1 y2 y3 y4 y5 f0 f1 f2 f3 f4 f5
          generalize (((((X2.setCell ⟨wr.heap.size, 0, none⟩ (.int .u8 (y.k : Int))).setCell ⟨wr.heap.size, 1, none⟩ (.int .u8 (y.o : Int))).setCell ⟨wr.heap.size, 2, none⟩ (.int .u8 (y.t : Int))).setCell ⟨wr.heap.size, 3, none⟩ (.int .i32 y.n)).setCell ⟨wr.heap.size, 4, none⟩ (.string (strOf y.s))).setCell ⟨wr.heap.size, 5, none⟩ (.slice C3 y.l.length d3) = X5 at *
          go_roundg (totS (pushS (pushS T r) y.l) + 1)
          case rel => exact ⟨q, cc, wr.heap.size, y.l.length, d3, true, y, AA, C3, acc, pushS (pushS T r) y.l, rfl, rfl, rfl, rfl, by have := HG.out; have := HTT.out; omega, by have := HG.out; have := HTT.out; omega, Lib.hid ⟨KQ.out, HQ.out, (fun h => by cases h)⟩⟩
          case measure => have := HG.out; have := HTT.out; omega
end Go.Proofs.YtimbiobonigdmaaGreatDoor
