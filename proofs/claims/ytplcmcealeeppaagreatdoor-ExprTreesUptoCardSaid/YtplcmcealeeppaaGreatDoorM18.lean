/- The program: a way through a tree from its beginning; sizes. -/
import Derived.Deep.LoopGhost
import Derived.Deep.RegionLaw
import Derived.Test.YtplcmcealeeppaaGreatDoorM06
import Derived.Test.YtplcmcealeeppaaGreatDoorM01
import Derived.Test.YtplcmcealeeppaaGreatDoorM17
import Derived.Test.YtplcmcealeeppaaGreatDoorM14
set_option linter.unusedVariables false
set_option linter.unusedSimpArgs false
set_option linter.unusedVariables false
set_option linter.unusedSimpArgs false
namespace Go.Proofs.YtplcmcealeeppaaGreatDoor
open Go Go.RowKit L8 L10

def N1 (B n k : Nat) : Prop := k < B ∨ k = n + 1
abbrev N0 (B : Nat) : Nat → Prop := N1 B B
/-- What walkOf makes. -/
def WkG (B0 : Nat) (w w' : World) (e : Ex) : Prop := Wk w' B0 (w.heap.size + 1 + 1 + 1) (N1 B0 w.heap.size) (some ⟨w.heap.size + 1 + 1, 0, none⟩) 1 1 [⟨[e], some ⟨w.heap.size + 1, 0, none⟩, 1⟩] ∧ Below w.heap.size w w' ∧ w'.heap.size = w.heap.size + 4
def WkI (w w' : World) (e : Ex) : Prop := WkG w.heap.size w w' e
set_option maxRecDepth 100000 in
theorem walkOf_gen (B0 : Nat) (e : Ex) (A : Option Addr) (n c : Nat) (w : World) (hB0 : B0 ≤ w.heap.size) (R : TrN w (fun k => k < B0) A c e.l) (hn : e.l.length = n) (ok : OKe e) : Calls Tryz.prog 37 #[exV e A n c] w fun en w' => en = .returned (.pointer (some ⟨w.heap.size + 1 + 1 + 1, 0, none⟩)) ∧ WkG B0 w w' e := by
  have HI : Hid (WkG B0 w ((((w.alloc (.cells (exC e A n c) 27)).alloc (.cells (exC e A n c) 27)).alloc (.cells #[.slice (some ⟨w.heap.size + 1, 0, none⟩) 1 1] 25)).alloc (.cells #[.slice (some ⟨w.heap.size + 1 + 1, 0, none⟩) 1 1] 104)) e) := Lib.hid (by
    generalize h1 : w.alloc (.cells (exC e A n c) 27) = w1
    have s1 : w1.heap.size = w.heap.size + 1 := by rw [← h1, World.size_alloc]
    have b1 : Below w.heap.size w w1 := by rw [← h1]; exact bal (b0 w) _
    generalize h2 : w1.alloc (.cells (exC e A n c) 27) = w2
    have s2 : w2.heap.size = w.heap.size + 1 + 1 := by rw [← h2, World.size_alloc, s1]
    have b2 : Below w1.heap.size w1 w2 := by rw [← h2]; exact bal (b0 w1) _
    have x2 : BoxS w2 (w.heap.size + 1) 27 (exC e A n c) := by rw [← h2, ← s1]; exact boxS_new w1 _ _
    generalize h3 : w2.alloc (.cells #[.slice (some ⟨w.heap.size + 1, 0, none⟩) 1 1] 25) = w3
    have s3 : w3.heap.size = w.heap.size + 1 + 1 + 1 := by rw [← h3, World.size_alloc, s2]
    have b3 : Below w2.heap.size w2 w3 := by rw [← h3]; exact bal (b0 w2) _
    have x3 : BoxS w3 (w.heap.size + 1 + 1) 25 #[.slice (some ⟨w.heap.size + 1, 0, none⟩) 1 1] := by rw [← h3, ← s2]; exact boxS_new w2 _ _
    generalize h4 : w3.alloc (.cells #[.slice (some ⟨w.heap.size + 1 + 1, 0, none⟩) 1 1] 104) = w4
    have s4 : w4.heap.size = w.heap.size + 4 := by rw [← h4, World.size_alloc, s3]
    have b4 : Below w3.heap.size w3 w4 := by rw [← h4]; exact bal (b0 w3) _
    have x4 : BoxS w4 (w.heap.size + 1 + 1 + 1) 104 #[.slice (some ⟨w.heap.size + 1 + 1, 0, none⟩) 1 1] := by rw [← h4, ← s3]; exact boxS_new w3 _ _
    have b : Below w.heap.size w w4 := blw (blw (blw b1 b2) b3) b4
    have y2 : BoxS w4 (w.heap.size + 1) 27 (exC e A n c) := (x2.below b3).below b4
    have y3 := x3.below b4
    refine ⟨⟨x4, ⟨rfl, .inr ⟨w.heap.size + 1 + 1, 1, _, rfl, by omega, y3, Nat.le_refl _, by unfold maxLen; decide, rfl, rfl⟩⟩, fun ad e => ?_, fun h => by rcases h with h | h <;> omega, by omega, fun k h => by rcases h with h | h <;> omega, fun x hx => ?_, fun x hx => ?_⟩, b, s4⟩
    · injection e with e
      subst e
      exact ⟨by show w.heap.size + 1 + 1 ≠ _; omega, fun h => h.elim (fun h => by have h2 : w.heap.size + 1 + 1 < B0 := h; omega) (fun h => by have h2 : w.heap.size + 1 + 1 = w.heap.size + 1 := h; omega)⟩
    · rw [List.mem_singleton.1 hx]
      subst hn
      have Q : TrN w4 (N1 B0 w.heap.size) A c e.l := (R.mono fun k _ hk => .inl hk).keep b
      refine .mk (fun _ => A) (fun _ => c) (Nat.le_refl _) (by show (1 : Nat) ≤ maxLen; unfold maxLen; decide) (fun j hj => ?_) (fun j hj => ⟨_, rfl, .inr rfl, ?_⟩) (fun j hj => ?_)
      all_goals obtain rfl : j = 0 := by have : j < 1 := hj; omega
      · exact ok
      · refine ⟨(y2.cell 0).trans rfl, (y2.cell 1).trans rfl, (y2.cell 2).trans rfl, (y2.cell 3).trans rfl, (y2.cell 4).trans rfl, (y2.cell 5).trans rfl⟩
      · exact Q
    · rw [List.mem_singleton.1 hx]
      simp)
  clear R ok hn
  dsimp only [exV, exC] at *
  generalize strOf e.s = S at *
  go_enter Tryz.func37, Tryz.ntmps37
  go_wp2
  go_ret
  exact ⟨rfl, HI.out⟩
theorem walkOf_any (e : Ex) (A : Option Addr) (n c : Nat) (w : World) (R : TrR w A c e.l) (hn : e.l.length = n) (ok : OKe e) : Calls Tryz.prog 37 #[exV e A n c] w fun en w' => en = .returned (.pointer (some ⟨w.heap.size + 1 + 1 + 1, 0, none⟩)) ∧ WkI w w' e :=
  walkOf_gen w.heap.size e A n c w (Nat.le_refl _) (R.toN fun k hk => hk) hn ok
/-! ### On the way -/
/-- w0: the world in which the way began; B: its size. -/
def St (w0 wr : World) (b : Nat) (N : Nat → Prop) (L : List (List Ex)) : Prop := ∃ A n c S, Wk wr w0.heap.size b N A n c S ∧ ltL S = L ∧ Below w0.heap.size w0 wr
theorem St.bel {w0 wr : World} {b : Nat} {N : Nat → Prop} {L : List (List Ex)} (h : St w0 wr b N L) : Below w0.heap.size w0 wr := by
  obtain ⟨A, n, c, S, _, _, h⟩ := h
  exact h
theorem St.below {w0 wr wx : World} {b : Nat} {N : Nat → Prop} {L : List (List Ex)} (h : St w0 wr b N L) (k : Below wr.heap.size wr wx) : St w0 wx b N L := by
  obtain ⟨A, n, c, S, h1, h2, h3⟩ := h
  exact ⟨A, n, c, S, h1.keep k, h2, blw h3 k⟩
theorem St.ways {w0 wr : World} {b : Nat} {N : Nat → Prop} {L : List (List Ex)} (h : St w0 wr b N L) : L = [] ∨ ∃ T x r, L = T ++ [x :: r] := by
  obtain ⟨A, n, c, S, h1, rfl, _⟩ := h
  rcases List.eq_nil_or_concat S with rfl | ⟨T, x, rfl⟩
  · exact .inl rfl
  · right
    have hx := h1.nn x (by simp)
    obtain ⟨l, A', c'⟩ := x
    cases l with
    | nil => exact absurd rfl hx
    | cons y r => exact ⟨ltL T, y, r, by simp [ltL]⟩
theorem own_ne_boxT {W : World} {B n c k : Nat} {A : Option Addr} {S : List Lt} {t : TypeId} {cs : Array Value} (h : OwnW W B A n c S) (b : BoxS W k t cs) (ht : t ≠ 25) : ∀ ad, A = some ad → ad.block ≠ k := by
  intro ad e q
  rcases h.2 with ⟨hv, _⟩ | ⟨g', cap, cur, hv, _, hh, _⟩
  · injection hv with hv1; rw [e] at hv1; cases hv1
  · injection hv with hv1
    rw [e] at hv1
    injection hv1 with hv1
    have hg : g' = k := by rw [← q, hv1]
    rw [hg] at hh
    have hb2 : W.heap[k]? = _ := b
    rw [hh] at hb2
    injection hb2 with hb2
    injection hb2 with _ hb3
    exact ht hb3.symm
/-- Boxes of other types stay. -/
def KpB (w w' : World) : Prop := ∀ p t cs, BoxS w p t cs → t ≠ 25 → t ≠ 104 → BoxS w' p t cs
theorem kpb {w w' : World} {N : Nat → Prop} {B b n c : Nat} {A : Option Addr} {S : List Lt} {L : List (List Ex)} (h : Wk w B b N A n c S) (k : WkR w w' B b N A L) : KpB w w' := fun p t cs hp h1 h2 => k.box hp fun q => q.elim (fun e => box_ne hp h.box h2 e) fun ⟨ad, e, q⟩ => own_ne_boxT h.own hp h1 ad e q
theorem St.of {w0 wr w' : World} {N : Nat → Prop} {b n c : Nat} {A : Option Addr} {S : List Lt} {L : List (List Ex)} (h : Wk wr w0.heap.size b N A n c S) (hb : Below w0.heap.size w0 wr) (k : WkR wr w' w0.heap.size b N A L) : St w0 w' b N L := by
  obtain ⟨A1, n1, c1, S1, h1, h2, h3, h4⟩ := k
  exact ⟨A1, n1, c1, S1, h1, h2, hb.trans (h3.below hb.size h.pb)⟩
theorem St.nextN {w0 wr : World} {b : Nat} {N : Nat → Prop} (h : St w0 wr b N []) : Calls Tryz.prog 38 #[.pointer (some ⟨b, 0, none⟩)] wr fun en w' => en = .returned (.tuple #[.agg #[.int .u8 0, .int .u8 0, .int .u8 0, .int .i32 0, .string ⟨#[]⟩, .slice none 0 0], .bool false]) ∧ St w0 w' b N [] ∧ KpB wr w' := by
  obtain ⟨A, n, c, S, h1, h2, h3⟩ := h
  obtain rfl : S = [] := List.map_eq_nil_iff.1 h2
  exact (next_none h1).mono fun en w' ⟨e, k⟩ => ⟨e, St.of h1 h3 k, kpb h1 k⟩
theorem St.nextS {w0 wr : World} {b : Nat} {N : Nat → Prop} {T : List (List Ex)} {x : Ex} {r : List Ex} (h : St w0 wr b N (T ++ [x :: r])) (hs : totS (T ++ [x :: r]) ≤ 1000000) : Calls Tryz.prog 38 #[.pointer (some ⟨b, 0, none⟩)] wr fun en w' => ∃ C e, en = .returned (.tuple #[.agg #[.int .u8 (x.k : Int), .int .u8 (x.o : Int), .int .u8 (x.t : Int), .int .i32 x.n, .string (strOf x.s), .slice C x.l.length e], .bool true]) ∧ TrN w' N C e x.l ∧ OKe x ∧ St w0 w' b N (pushS (pushS T r) x.l) ∧ KpB wr w' := by
  obtain ⟨A, n, c, S, h1, h2, h3⟩ := h
  obtain ⟨T', X, rfl, rfl, hX⟩ := List.map_eq_append_iff.1 h2
  obtain ⟨y, rfl, hy⟩ : ∃ y, X = [y] ∧ y.l = x :: r := by
    cases X with
    | nil => cases hX
    | cons y Y =>
      injection hX with h4 h5
      rw [List.map_eq_nil_iff] at h5
      exact ⟨y, by rw [h5], h4⟩
  obtain ⟨l, D, d⟩ := y
  dsimp only at hy
  subst hy
  refine (next_some h1 (by rw [show ltL (T' ++ [⟨x :: r, D, d⟩]) = ltL T' ++ [x :: r] from by simp [ltL]]; exact hs)).mono fun en w' ⟨C, e, he, R, ok, k⟩ => ⟨C, e, he, R, ok, St.of h1 h3 k, kpb h1 k⟩
theorem St.init {w w' : World} {e : Ex} (h : WkI w w' e) : St w w' (w.heap.size + 1 + 1 + 1) (N0 w.heap.size) ([] ++ [[e]]) := ⟨some ⟨w.heap.size + 1 + 1, 0, none⟩, 1, 1, [⟨[e], some ⟨w.heap.size + 1, 0, none⟩, 1⟩], h.1, rfl, h.2.1⟩
/-! ### Size -/
/-- q trees passed, one more in hand (ok), a box of a tree at P. -/
def SzS (w0 wr : World) (b : Nat) (N : Nat → Prop) (Z q P : Nat) (ok : Bool) (cs : Array Value) : Prop := ∃ L, St w0 wr b N L ∧ q + totS L + (if ok = true then 1 else 0) = Z ∧ (ok = false → L = []) ∧ BoxS wr P 27 cs
theorem SzS.new {w0 X : World} {b Z : Nat} {N : Nat → Prop} {L : List (List Ex)} (e : Ex) (C : Option Addr) (d : Nat) (h : St w0 X b N L) (hL : totS L + 1 = Z) :
    SzS w0 (X.alloc (.cells #[.int .u8 (e.k : Int), .int .u8 (e.o : Int), .int .u8 (e.t : Int), .int .i32 e.n, .string (strOf e.s), .slice C e.l.length d] 27)) b N Z 0 X.heap.size true #[.int .u8 (e.k : Int), .int .u8 (e.o : Int), .int .u8 (e.t : Int), .int .i32 e.n, .string (strOf e.s), .slice C e.l.length d] :=
  ⟨L, h.below (bal (b0 X) _), by simp; omega, (fun h => by cases h), boxS_new X _ _⟩
set_option maxRecDepth 100000 in
set_option maxHeartbeats 4000000 in
theorem PSizeX_any (e : Ex) (A : Option Addr) (n c : Nat) (w : World) (R : TrR w A c e.l) (hn : e.l.length = n) (ok : OKe e) (hs : szE e ≤ 1000000) : Calls Tryz.prog 14 #[exV e A n c] w fun en w' => en = .returned (.int .i64 (szE e : Int)) ∧ Below w.heap.size w w' := by
  have C0 := Lib.hid (walkOf_any e A n c (w.alloc (.cells (exC e A n c) 27)) (R.keep (bal (b0 w) _)) hn ok)
  have HB : Hid (∀ X, Below (w.alloc (.cells (exC e A n c) 27)).heap.size (w.alloc (.cells (exC e A n c) 27)) X → Below w.heap.size w X) := Lib.hid fun X b => blw (bal (b0 w) _) b
  have HI : Hid (∀ X, WkI (w.alloc (.cells (exC e A n c) 27)) X e → St (w.alloc (.cells (exC e A n c) 27)) X (w.heap.size + 1 + 1 + 1 + 1) (N0 (w.heap.size + 1)) ([] ++ [[e]])) := Lib.hid fun X h => by
    have := St.init h
    rwa [World.size_alloc] at this
  have HT := Lib.hid tot_next
  have h0 := Lib.hid (show totS ([] ++ [[e]]) = szE e by rw [List.nil_append, totS, totS, szL, szL]; rfl)
  have HP := Lib.hid (szE_pos e)
  clear R hn ok
  rw [World.size_alloc] at C0
  generalize N0 (w.heap.size + 1) = N at *
  generalize szE e = Z at *
  have hZ : (Z : Int) ≤ 1000000 := by omega
  dsimp only [exV, exC] at *
  generalize strOf e.s = S at *
  go_enter Tryz.func14, Tryz.ntmps14
  go_wp2_with (first
    | (go_at_call 37; (with_reducible refine (C0.out).mono ?_); clear C0; rintro e1 X0 ⟨rfl, h⟩; have H0 := Lib.hid (HI.out _ h); clear h; have C1 := Lib.hid (H0.out.nextS (x := e) (r := []) (by have := h0.out; omega)))
    | (go_at_call 38; (with_reducible refine (C1.out).mono ?_); clear C1; rintro e1 X1 ⟨C, d, rfl, R, ok, h, kp⟩; have H1 := Lib.hid h; clear h kp R ok))
  clear HI
  have HV := Lib.hid (SzS.new (Z := Z) e C d H1.out (by have := HT.out [] e []; have := h0.out; omega))
  clear H1 h0
  go_loopw [3, 5, 6] (fun z p o wr => ∃ (q P : Nat) (ok : Bool) (a b c' d : Int) (s : ByteArray) (C' : Option Addr) (m e' : Nat), z = .int .i64 (q : Int) ∧ p = .pointer (some ⟨P, 0, none⟩) ∧ o = .bool ok ∧ Hid (SzS (w.alloc (.cells #[.int .u8 (e.k : Int), .int .u8 (e.o : Int), .int .u8 (e.t : Int), .int .i32 e.n, .string S, .slice A n c] 27)) wr (w.heap.size + 1 + 1 + 1 + 1) N Z q P ok #[.int .u8 a, .int .u8 b, .int .u8 c', .int .i32 d, .string s, .slice C' m e'])) (fun z _ _ _ => Z - (intOf z).toNat)
  case atStart => exact ⟨0, _, true, _, _, _, _, _, _, _, _, rfl, rfl, rfl, HV⟩
  case round =>
    obtain ⟨q, P, ok, a, b, c', d, s, C', m, e', rfl, rfl, rfl, H⟩ := hrel
    obtain ⟨L, hst, hq, hok, hbx⟩ := H.out
    have hq0 : (0 : Int) ≤ (q : Int) := by omega
    have hq1 : (q : Int) ≤ 1000000 := by omega
    cases ok with
    | false =>
      have hL : totS L = 0 := by rw [hok rfl, totS]
      have hZq : q = Z := by simpa [hL] using hq
      have HE := Lib.hid (HB.out _ hst.bel)
      clear H hst hq hok hbx
      go_wp2
      go_ret
      exact ⟨ret_i (by omega), HE.out⟩
    | true =>
      have hq2 : q + totS L + 1 = Z := hq
      have hlt : (q : Int) < 1000000 := by omega
      obtain ⟨x0, x1, x2, x3, x4, x5⟩ := box6 hbx
      have HX : Hid (St (w.alloc (.cells #[.int .u8 (e.k : Int), .int .u8 (e.o : Int), .int .u8 (e.t : Int), .int .i32 e.n, .string S, .slice A n c] 27)) (wr.alloc (.cells #[.int .u8 a, .int .u8 b, .int .u8 c', .int .i32 d, .string s, .slice C' m e'] 27)) (w.heap.size + 1 + 1 + 1 + 1) N L ∧ BoxS (wr.alloc (.cells #[.int .u8 a, .int .u8 b, .int .u8 c', .int .i32 d, .string s, .slice C' m e'] 27)) wr.heap.size 27 #[.int .u8 a, .int .u8 b, .int .u8 c', .int .i32 d, .string s, .slice C' m e']) := Lib.hid ⟨hst.below (bal (b0 wr) _), boxS_new wr _ _⟩
      rcases hst.ways with rfl | ⟨T, x, r, rfl⟩
      · have C2 := Lib.hid HX.out.1.nextN
        have HQ := Lib.hid hq2
        clear H hst hq hok hbx hq2
        go_wp2_with (go_at_call 38; (with_reducible refine (C2.out).mono ?_); clear C2; rintro e1 X2 ⟨rfl, h, kp⟩; have H2 := Lib.hid (And.intro h (kp _ _ _ HX.out.2 (by decide) (by decide))); clear h kp)
        go_roundw
        case rel => exact ⟨q + 1, wr.heap.size, false, a, b, c', d, s, C', m, e', by go_num, rfl, rfl, Lib.hid ⟨[], H2.out.1, by have := HQ.out; simp; omega, fun _ => rfl, H2.out.2⟩⟩
        case measure => have := HQ.out; simp [intOf]; omega
      · have HQ := Lib.hid (show (q + 1) + totS (pushS (pushS T r) x.l) + 1 = Z by have := HT.out T x r; omega)
        have C2 := Lib.hid (HX.out.1.nextS (by omega))
        clear H hst hq hok hbx hq2
        go_wp2_with (go_at_call 38; (with_reducible refine (C2.out).mono ?_); clear C2; rintro e1 X2 ⟨C3, d3, rfl, R, ok, h, kp⟩; have H2 := Lib.hid (And.intro h (kp _ _ _ HX.out.2 (by decide) (by decide))); clear h kp R ok)
        go_roundw
        case rel => exact ⟨q + 1, wr.heap.size, true, a, b, c', d, s, C', m, e', by go_num, rfl, rfl, Lib.hid ⟨_, H2.out.1, HQ.out, (fun h => by cases h), H2.out.2⟩⟩
        case measure => have := HQ.out; simp [intOf]; omega
end Go.Proofs.YtplcmcealeeppaaGreatDoor
/- The reference: the names in a tree. -/
set_option linter.unusedVariables false
set_option linter.unusedSimpArgs false
namespace Go.Proofs.YtplcmcealeeppaaGreatDoor
open Go Go.RowKit L8 L10

theorem nm_len : ∀ e : Ex, (nmE e).length ≤ szE e := by
  refine Ex.ind fun e ih => ?_
  have key : ∀ l : List Ex, (∀ x ∈ l, (nmE x).length ≤ szE x) → (nmL l).length ≤ szL l := by
    intro l
    induction l with
    | nil => intro _; rw [nmL, szL]; simp
    | cons x r ihr =>
      intro h
      rw [nmL, szL, List.length_append]
      have := h x (List.mem_cons_self ..)
      have := ihr fun y hy => h y (List.mem_cons_of_mem _ hy)
      omega
  rw [nmE_eq, szE_eq, List.length_append]
  have := key e.l ih
  have : (ownNm e.k e.s).length ≤ 1 := by unfold ownNm; split <;> simp
  omega
theorem nmL_len (l : List Ex) : (nmL l).length ≤ szL l := by
  induction l with
  | nil => rw [nmL, szL]; simp
  | cons x r ih => rw [nmL, szL, List.length_append]; have := nm_len x; omega
theorem ownS_grow {w X Y : World} {B n c b : Nat} {A : Option Addr} {ss : List Bs} (h : OwnS X B A n c ss) (g : X.grownBy Y (Value.slice A n c).ownBlock) (hB : w.heap.size ≤ B) (hw : Below w.heap.size w X) : Below w.heap.size w Y := bgrow hw h hB g
theorem ownS_base {w : World} {B B' n c : Nat} {A : Option Addr} {ss : List Bs} (h : OwnS w B A n c ss) (hb : B' ≤ B) : OwnS w B' A n c ss := by
  refine ⟨h.1, ?_⟩
  rcases h.2 with hn | ⟨g, cap, cur, hv, hB, rest⟩
  · exact .inl hn
  · exact .inr ⟨g, cap, cur, hv, by omega, rest⟩
set_option maxRecDepth 100000 in
theorem run_strs_none {w : World} {base n c d : Nat} {A A' : Option Addr} {xs : List Bs} {ty : TypeId} (hown : OwnS w base A n c xs) : (Builtin.append_ #[34, 34] ty #[.slice A n c, .slice A' 0 d]).run Tryz.prog w = .ok (.slice A n c) w := by
  obtain ⟨i0, hi0, hz0, hz1, hz2⟩ := info_parts str_info
  rcases hown.2 with ⟨hv, h0⟩ | ⟨g, cap, cur, hv, _, _, hnc, _⟩
  · injection hv with h1 h2 h3
    subst h1; subst h3
    simp [Builtin.append_, run_underlying Tryz.underlying34, sizeOf, typeInfo, hi0, Builtin.lenOf, Builtin.firstCells, h0]
    rcases A' with _ | ad
    · simp
    · have hld := run_loadCells_list (P := Tryz.prog) w ad [] (by intro j u hj; simp at hj)
      simp only [List.length_nil] at hld
      simp [hld]
  · injection hv with h1 h2 h3
    subst h1; subst h3
    simp [Builtin.append_, run_underlying Tryz.underlying34, sizeOf, typeInfo, hi0, Builtin.lenOf, Builtin.firstCells, hnc, storeCells]
    rcases A' with _ | ad
    · simp [storeCells]
    · have hld := run_loadCells_list (P := Tryz.prog) w ad [] (by intro j u hj; simp at hj)
      simp only [List.length_nil] at hld
      simp [hld, storeCells]
/-- Strings, or none, appended to a row of the call's own. -/
theorem app_strs0 {w : World} {ops : Array Oper} {rest : List Oper} {o : Oper} {a : Act} {Q : Exit → Act → World → Prop} (hgd : o.guard = none) (s x : Operand)
    (ho : o.op = .call { callee := .builtin .append, args := #[s, x], argTypes := #[34, 34] }) (base n c m d l : Nat) (A A' : Option Addr) (xs ys : List Bs) (hs : a.eval s = .slice A n c) (hx : a.eval x = .slice A' m d)
    (hown : OwnS w base A n c xs) (hy : ys.length = m) (R : SS w A' d ys) (hl : n + m = l) (h63 : l ≤ 1000000) (hbase : base ≤ w.heap.size)
    (h : ∀ A2 c2 w', OwnS w' base A2 l c2 (xs ++ ys) → w.grownBy w' (Value.slice A n c).ownBlock → wpList Tryz.prog ops Q rest (a.put o.dst (.slice A2 l c2)) w') : wpList Tryz.prog ops Q (o :: rest) a w := by
  rcases Nat.eq_zero_or_pos m with hm0 | hm0
  · subst hl
    subst hm0
    obtain rfl : ys = [] := List.eq_nil_of_length_eq_zero hy
    refine wpList_plain hgd fun K hK => ?_
    unfold Oper.wp execOp
    simp only [ho, resolve, invoke, builtin, Sem.run_bind, Sem.run_pure, Result.andThen_ok, List.map_toArray, List.map_cons, List.map_nil, hs, hx, run_strs_none hown]
    exact hK _ _ (h A c w (by rw [List.append_nil]; exact hown) (World.grownBy.refl w _))
  · exact app_strs hgd s x ho base n c m d l A A' xs ys hs hx hown hy hm0 R hl h63 hbase h
/-- What is known in the loop: the tree's box, the row of names. -/
def NmS (w X : World) (e : Ex) (A : Option Addr) (n c : Nat) (B : Option Addr) (q d : Nat) (ss : List Bs) : Prop := XS w X e A n c ∧ OwnS X (w.heap.size + 1) B q d ss
theorem NmS.step {w X Y : World} {e : Ex} {A B : Option Addr} {n c q d : Nat} {ss : List Bs} (h : NmS w X e A n c B q d ss) (b : Below X.heap.size X Y) : NmS w Y e A n c B q d ss := ⟨h.1.step b, h.2.keep b⟩
theorem NmS.xs {w X : World} {e : Ex} {A B : Option Addr} {n c q d : Nat} {ss : List Bs} (h : NmS w X e A n c B q d ss) : XS w X e A n c := h.1
theorem NmS.own {w X : World} {e : Ex} {A B : Option Addr} {n c q d : Nat} {ss : List Bs} (h : NmS w X e A n c B q d ss) : OwnS X (w.heap.size + 1) B q d ss := h.2
theorem NmS.lt {w X : World} {e : Ex} {A B : Option Addr} {n c q d : Nat} {ss : List Bs} (h : NmS w X e A n c B q d ss) : w.heap.size + 1 ≤ X.heap.size := h.1.2.1.lt
theorem NmS.app {w X Y : World} {e : Ex} {A B B2 : Option Addr} {n c q d q2 d2 : Nat} {ss tt : List Bs} (h : NmS w X e A n c B q d ss) (hR : TrR w A c e.l) (o : OwnS Y (w.heap.size + 1) B2 q2 d2 (ss ++ tt)) (g : X.grownBy Y (Value.slice B q d).ownBlock) : NmS w Y e A n c B2 q2 d2 (ss ++ tt) := by
  have hb : Below (w.heap.size + 1) X Y := ⟨g.os, g.tape, g.output, g.size, fun k hk => g.block k (Nat.lt_of_lt_of_le hk h.lt) (fun e2 => by have := (h.2.lt k e2.symm).1; omega)⟩
  have hb2 : Below w.heap.size w Y := bgrow h.1.1 h.2 (by omega) g
  exact ⟨⟨hb2, (hb.block w.heap.size (by omega)).trans h.1.2.1, hR.keep hb2⟩, o⟩
set_option maxRecDepth 100000 in
set_option maxHeartbeats 4000000 in
theorem RNames_any : ∀ e : Ex, ∀ (A : Option Addr) (n c : Nat) (w : World), TrR w A c e.l → e.l.length = n → szE e ≤ 1000000 → e.s.length ≤ maxLen → Calls Tryz.prog 18 #[exV e A n c] w fun en w' => ∃ B d, en = .returned (.slice B (nmE e).length d) ∧ OwnS w' w.heap.size B (nmE e).length d (nmE e) ∧ Below w.heap.size w w' := by
  refine Ex.ind fun e ih A n c w R hn hs hsl => ?_
  have HN := Lib.hid hn
  have HR := Lib.hid R
  have hmx : n ≤ maxLen := by have := R.le; have := R.mx; omega
  unfold maxLen at hmx
  have HV : Hid (NmS w (w.alloc (.cells (exC e A n c) 27)) e A n c none 0 0 []) := Lib.hid ⟨XS.new (n := n) R, World.ownsRow_nil _ _ _ 1⟩
  have hs2 : szL e.l ≤ 999999 := by rw [szE_eq] at hs; omega
  have IH : Hid (∀ j, j < n → ∀ (B : Option Addr) (m d : Nat) (X : World), TrR X B d (e.l.getD j e0).l → (e.l.getD j e0).l.length = m → OKe (e.l.getD j e0) → Calls Tryz.prog 18 #[exV (e.l.getD j e0) B m d] X fun en w' => ∃ B d, en = .returned (.slice B (nmE (e.l.getD j e0)).length d) ∧ SS w' B d (nmE (e.l.getD j e0)) ∧ Below X.heap.size X w') := Lib.hid fun j hj B m d X R h ok => by
    have := ih _ (getD_memE (by omega)) B m d X R h (by have := sz_part (l := e.l) (j := j) (by omega); omega) ok.2.2.2.2.2
    exact this.mono fun en w' ⟨B, d, h1, h2, h3⟩ => ⟨B, d, h1, h2.ss, h3⟩
  have HS := Lib.hid (fun (j : Nat) (h : j < n) => nmL_take (l := e.l) (i := j) (by omega))
  have HLn : Hid (∀ j, j ≤ n → (ownNm e.k e.s ++ nmL (e.l.take j)).length ≤ 1000000) := Lib.hid fun j hj => by
    rw [List.length_append]
    have h1 : (ownNm e.k e.s).length ≤ 1 := by unfold ownNm; split <;> simp
    have h2 := nmL_len (e.l.take j)
    have h3 := szL_app (e.l.take j) (e.l.drop j)
    rw [List.take_append_drop] at h3
    omega
  have HE := Lib.hid (show nmE e = ownNm e.k e.s ++ nmL (e.l.take n) by rw [nmE_eq, ← hn, List.take_length])
  have q4 : ((e.k : Int) == 4) = decide (e.k = 4) := nat_eq10 _ 4
  have q5 : ((e.k : Int) == 5) = decide (e.k = 5) := nat_eq10 _ 5
  have q9 : ((e.k : Int) == 9) = decide (e.k = 9) := nat_eq10 _ 9
  have hown : ownNm e.k e.s = if (decide (e.k = 4) || (decide (e.k = 5) || decide (e.k = 9))) = true then [e.s] else [] := by
    unfold ownNm
    by_cases h4 : e.k = 4 <;> by_cases h5 : e.k = 5 <;> by_cases h9 : e.k = 9 <;> simp [h4, h5, h9]
  have H1 : Hid (SS ((w.alloc (.cells (exC e A n c) 27)).alloc (.cells #[.string (strOf e.s)] 9)) (some ⟨w.heap.size + 1, 0, none⟩) 1 [e.s]) := Lib.hid (by
    refine ⟨by simp, by unfold maxLen; decide, fun j hj => ⟨_, rfl, ?_⟩⟩
    obtain rfl : j = 0 := by have : j < 1 := hj; omega
    have := boxS_new (w.alloc (.cells (exC e A n c) 27)) 9 #[.string (strOf e.s)]
    rw [World.size_alloc] at this
    exact (this.cell 0).trans rfl)
  have HE2 : Hid (nmE e = ownNm e.k e.s ++ nmL (e.l.take n)) := HE
  clear R hn ih hs hs2 hsl
  rw [HE2.out]
  clear HE HE2
  generalize ownNm e.k e.s = own0 at *
  generalize decide (e.k = 4) = b4 at *
  generalize decide (e.k = 5) = b5 at *
  generalize decide (e.k = 9) = b9 at *
  dsimp only [exV, exC] at *
  generalize hS : strOf e.s = S at *
  clear hS
  cases b4 with
  | true =>
    simp only [Bool.true_or, if_true] at hown
    subst hown
    go_enter Tryz.func18, Tryz.ntmps18
    go_wp2_with (at_builtin; (refine app_strs rfl (.tmp 18) (.tmp 21) rfl (w.heap.size + 1) 0 0 1 1 1 none (some ⟨w.heap.size + 1, 0, none⟩) [] [e.s] rfl rfl (HV.out.step (bal (b0 _) (.cells #[.string S] 9))).own rfl (by decide) H1.out rfl (by decide) (HV.out.step (bal (b0 _) (.cells #[.string S] 9))).lt ?_; intro A1 c1 w1 o1 g1; have HV1 := Lib.hid ((HV.out.step (bal (b0 _) (.cells #[.string S] 9))).app HR.out o1 g1); clear o1 g1))
    go_loopw [3, 4] (fun v i wr => ∃ (j q d : Nat) (B : Option Addr), j ≤ n ∧ v = .slice B q d ∧ i = .int .i64 j ∧ ([e.s] ++ nmL (e.l.take j)).length = q ∧ Hid (NmS w wr e A n c B q d ([e.s] ++ nmL (e.l.take j)))) (fun _ i _ => n - (intOf i).toNat)
    case atStart => exact ⟨0, 1, c1, A1, Nat.zero_le _, rfl, rfl, by simp [nmL], Lib.hid (by rw [show e.l.take 0 = [] from List.take_zero .., nmL, List.append_nil]; exact HV1.out)⟩
    case round =>
      obtain ⟨j, q, d, B, hj, rfl, rfl, hq, H⟩ := hrel
      have hj0 : (0 : Int) ≤ (j : Int) := by omega
      obtain ⟨p0, p1, p2, p3, p4, p5⟩ := H.out.xs.box
      clear p0 p1 p2 p3 p4
      by_cases hlt : (j : Int) < (n : Int)
      · obtain ⟨ad, rfl, B1, m, d1, hm, hok, Rc, x0, x1, x2, x3, x4, x5⟩ := H.out.xs.tr.at (j := j) (by have := HN.out; omega)
        have C := Lib.hid (IH.out j (by omega) B1 m d1 _ Rc hm hok)
        have HSj := Lib.hid (HS.out j (by omega))
        have hl2 := HLn.out (j + 1) (by omega)
        rw [HSj.out, ← List.append_assoc, List.length_append, hq] at hl2
        obtain ⟨M, hM⟩ : ∃ M, (nmE (e.l.getD j e0)).length = M := ⟨_, rfl⟩
        rw [hM] at C hl2
        have HM := Lib.hid hM
        have HQ := Lib.hid hq
        have HL2 := Lib.hid hl2
        clear Rc hm hok hM hq hl2
        generalize e.l.getD j e0 = y at *
        generalize strOf y.s = SY at *
        go_wp2_with (first
          | (go_at_call 18; (with_reducible refine (C.out).mono ?_); rintro e1 w2 ⟨B2, d2, rfl, s2, b⟩; have H2 := Lib.hid (And.intro (H.out.step b) s2); clear b s2)
          | (at_builtin; (refine app_strs0 rfl (.tmp 30) (.tmp 36) rfl (w.heap.size + 1) q d M d2 (q + M) B B2 ([e.s] ++ nmL (e.l.take j)) (nmE y) rfl rfl H2.out.1.own HM.out H2.out.2 rfl HL2.out H2.out.1.lt ?_; intro B3 d3 w3 o3 g3; have H3 := Lib.hid (H2.out.1.app HR.out o3 g3); clear o3 g3)))
        go_roundw
        case rel => exact ⟨j + 1, q + M, d3, B3, by omega, rfl, by go_num, by rw [HSj.out, ← List.append_assoc, List.length_append, HQ.out, HM.out], Lib.hid (by rw [HSj.out, ← List.append_assoc]; exact H3.out)⟩
        case measure => simp [intOf]; omega
      · obtain rfl : j = n := by omega
        have HQ := Lib.hid hq
        clear hq
        go_wp2
        go_ret
        first
          | rw [show (nmL (e.l.take j)).length + 1 = q from HQ.out]
          | rw [show (nmL (e.l.take j)).length = q from HQ.out]
        exact ⟨B, d, rfl, ownS_base H.out.own (by omega), H.out.xs.bel⟩
  | false =>
    cases b5 with
    | true =>
      simp only [Bool.true_or, Bool.false_or, if_true] at hown
      subst hown
      go_enter Tryz.func18, Tryz.ntmps18
      go_wp2_with (at_builtin; (refine app_strs rfl (.tmp 18) (.tmp 21) rfl (w.heap.size + 1) 0 0 1 1 1 none (some ⟨w.heap.size + 1, 0, none⟩) [] [e.s] rfl rfl (HV.out.step (bal (b0 _) (.cells #[.string S] 9))).own rfl (by decide) H1.out rfl (by decide) (HV.out.step (bal (b0 _) (.cells #[.string S] 9))).lt ?_; intro A1 c1 w1 o1 g1; have HV1 := Lib.hid ((HV.out.step (bal (b0 _) (.cells #[.string S] 9))).app HR.out o1 g1); clear o1 g1))
      go_loopw [3, 4] (fun v i wr => ∃ (j q d : Nat) (B : Option Addr), j ≤ n ∧ v = .slice B q d ∧ i = .int .i64 j ∧ ([e.s] ++ nmL (e.l.take j)).length = q ∧ Hid (NmS w wr e A n c B q d ([e.s] ++ nmL (e.l.take j)))) (fun _ i _ => n - (intOf i).toNat)
      case atStart => exact ⟨0, 1, c1, A1, Nat.zero_le _, rfl, rfl, by simp [nmL], Lib.hid (by rw [show e.l.take 0 = [] from List.take_zero .., nmL, List.append_nil]; exact HV1.out)⟩
      case round =>
        obtain ⟨j, q, d, B, hj, rfl, rfl, hq, H⟩ := hrel
        have hj0 : (0 : Int) ≤ (j : Int) := by omega
        obtain ⟨p0, p1, p2, p3, p4, p5⟩ := H.out.xs.box
        clear p0 p1 p2 p3 p4
        by_cases hlt : (j : Int) < (n : Int)
        · obtain ⟨ad, rfl, B1, m, d1, hm, hok, Rc, x0, x1, x2, x3, x4, x5⟩ := H.out.xs.tr.at (j := j) (by have := HN.out; omega)
          have C := Lib.hid (IH.out j (by omega) B1 m d1 _ Rc hm hok)
          have HSj := Lib.hid (HS.out j (by omega))
          have hl2 := HLn.out (j + 1) (by omega)
          rw [HSj.out, ← List.append_assoc, List.length_append, hq] at hl2
          obtain ⟨M, hM⟩ : ∃ M, (nmE (e.l.getD j e0)).length = M := ⟨_, rfl⟩
          rw [hM] at C hl2
          have HM := Lib.hid hM
          have HQ := Lib.hid hq
          have HL2 := Lib.hid hl2
          clear Rc hm hok hM hq hl2
          generalize e.l.getD j e0 = y at *
          generalize strOf y.s = SY at *
          go_wp2_with (first
            | (go_at_call 18; (with_reducible refine (C.out).mono ?_); rintro e1 w2 ⟨B2, d2, rfl, s2, b⟩; have H2 := Lib.hid (And.intro (H.out.step b) s2); clear b s2)
            | (at_builtin; (refine app_strs0 rfl (.tmp 30) (.tmp 36) rfl (w.heap.size + 1) q d M d2 (q + M) B B2 ([e.s] ++ nmL (e.l.take j)) (nmE y) rfl rfl H2.out.1.own HM.out H2.out.2 rfl HL2.out H2.out.1.lt ?_; intro B3 d3 w3 o3 g3; have H3 := Lib.hid (H2.out.1.app HR.out o3 g3); clear o3 g3)))
          go_roundw
          case rel => exact ⟨j + 1, q + M, d3, B3, by omega, rfl, by go_num, by rw [HSj.out, ← List.append_assoc, List.length_append, HQ.out, HM.out], Lib.hid (by rw [HSj.out, ← List.append_assoc]; exact H3.out)⟩
          case measure => simp [intOf]; omega
        · obtain rfl : j = n := by omega
          have HQ := Lib.hid hq
          clear hq
          go_wp2
          go_ret
          first
            | rw [show (nmL (e.l.take j)).length + 1 = q from HQ.out]
            | rw [show (nmL (e.l.take j)).length = q from HQ.out]
          exact ⟨B, d, rfl, ownS_base H.out.own (by omega), H.out.xs.bel⟩
    | false =>
      cases b9 with
      | true =>
        simp only [Bool.or_self, Bool.false_or, if_true] at hown
        subst hown
        go_enter Tryz.func18, Tryz.ntmps18
        go_wp2_with (at_builtin; (refine app_strs rfl (.tmp 18) (.tmp 21) rfl (w.heap.size + 1) 0 0 1 1 1 none (some ⟨w.heap.size + 1, 0, none⟩) [] [e.s] rfl rfl (HV.out.step (bal (b0 _) (.cells #[.string S] 9))).own rfl (by decide) H1.out rfl (by decide) (HV.out.step (bal (b0 _) (.cells #[.string S] 9))).lt ?_; intro A1 c1 w1 o1 g1; have HV1 := Lib.hid ((HV.out.step (bal (b0 _) (.cells #[.string S] 9))).app HR.out o1 g1); clear o1 g1))
        go_loopw [3, 4] (fun v i wr => ∃ (j q d : Nat) (B : Option Addr), j ≤ n ∧ v = .slice B q d ∧ i = .int .i64 j ∧ ([e.s] ++ nmL (e.l.take j)).length = q ∧ Hid (NmS w wr e A n c B q d ([e.s] ++ nmL (e.l.take j)))) (fun _ i _ => n - (intOf i).toNat)
        case atStart => exact ⟨0, 1, c1, A1, Nat.zero_le _, rfl, rfl, by simp [nmL], Lib.hid (by rw [show e.l.take 0 = [] from List.take_zero .., nmL, List.append_nil]; exact HV1.out)⟩
        case round =>
          obtain ⟨j, q, d, B, hj, rfl, rfl, hq, H⟩ := hrel
          have hj0 : (0 : Int) ≤ (j : Int) := by omega
          obtain ⟨p0, p1, p2, p3, p4, p5⟩ := H.out.xs.box
          clear p0 p1 p2 p3 p4
          by_cases hlt : (j : Int) < (n : Int)
          · obtain ⟨ad, rfl, B1, m, d1, hm, hok, Rc, x0, x1, x2, x3, x4, x5⟩ := H.out.xs.tr.at (j := j) (by have := HN.out; omega)
            have C := Lib.hid (IH.out j (by omega) B1 m d1 _ Rc hm hok)
            have HSj := Lib.hid (HS.out j (by omega))
            have hl2 := HLn.out (j + 1) (by omega)
            rw [HSj.out, ← List.append_assoc, List.length_append, hq] at hl2
            obtain ⟨M, hM⟩ : ∃ M, (nmE (e.l.getD j e0)).length = M := ⟨_, rfl⟩
            rw [hM] at C hl2
            have HM := Lib.hid hM
            have HQ := Lib.hid hq
            have HL2 := Lib.hid hl2
            clear Rc hm hok hM hq hl2
            generalize e.l.getD j e0 = y at *
            generalize strOf y.s = SY at *
            go_wp2_with (first
              | (go_at_call 18; (with_reducible refine (C.out).mono ?_); rintro e1 w2 ⟨B2, d2, rfl, s2, b⟩; have H2 := Lib.hid (And.intro (H.out.step b) s2); clear b s2)
              | (at_builtin; (refine app_strs0 rfl (.tmp 30) (.tmp 36) rfl (w.heap.size + 1) q d M d2 (q + M) B B2 ([e.s] ++ nmL (e.l.take j)) (nmE y) rfl rfl H2.out.1.own HM.out H2.out.2 rfl HL2.out H2.out.1.lt ?_; intro B3 d3 w3 o3 g3; have H3 := Lib.hid (H2.out.1.app HR.out o3 g3); clear o3 g3)))
            go_roundw
            case rel => exact ⟨j + 1, q + M, d3, B3, by omega, rfl, by go_num, by rw [HSj.out, ← List.append_assoc, List.length_append, HQ.out, HM.out], Lib.hid (by rw [HSj.out, ← List.append_assoc]; exact H3.out)⟩
            case measure => simp [intOf]; omega
          · obtain rfl : j = n := by omega
            have HQ := Lib.hid hq
            clear hq
            go_wp2
            go_ret
            first
              | rw [show (nmL (e.l.take j)).length + 1 = q from HQ.out]
              | rw [show (nmL (e.l.take j)).length = q from HQ.out]
            exact ⟨B, d, rfl, ownS_base H.out.own (by omega), H.out.xs.bel⟩
      | false =>
        simp only [Bool.or_self, Bool.false_eq_true, if_false] at hown
        subst hown
        go_enter Tryz.func18, Tryz.ntmps18
        go_wp2
        go_loopw [3, 4] (fun v i wr => ∃ (j q d : Nat) (B : Option Addr), j ≤ n ∧ v = .slice B q d ∧ i = .int .i64 j ∧ (([] : List Bs) ++ nmL (e.l.take j)).length = q ∧ Hid (NmS w wr e A n c B q d (([] : List Bs) ++ nmL (e.l.take j)))) (fun _ i _ => n - (intOf i).toNat)
        case atStart => exact ⟨0, 0, 0, none, Nat.zero_le _, rfl, rfl, by simp [nmL], Lib.hid (by rw [show e.l.take 0 = [] from List.take_zero .., nmL, List.append_nil]; exact HV.out)⟩
        case round =>
          obtain ⟨j, q, d, B, hj, rfl, rfl, hq, H⟩ := hrel
          have hj0 : (0 : Int) ≤ (j : Int) := by omega
          obtain ⟨p0, p1, p2, p3, p4, p5⟩ := H.out.xs.box
          clear p0 p1 p2 p3 p4
          by_cases hlt : (j : Int) < (n : Int)
          · obtain ⟨ad, rfl, B1, m, d1, hm, hok, Rc, x0, x1, x2, x3, x4, x5⟩ := H.out.xs.tr.at (j := j) (by have := HN.out; omega)
            have C := Lib.hid (IH.out j (by omega) B1 m d1 _ Rc hm hok)
            have HSj := Lib.hid (HS.out j (by omega))
            have hl2 := HLn.out (j + 1) (by omega)
            rw [HSj.out, ← List.append_assoc, List.length_append, hq] at hl2
            obtain ⟨M, hM⟩ : ∃ M, (nmE (e.l.getD j e0)).length = M := ⟨_, rfl⟩
            rw [hM] at C hl2
            have HM := Lib.hid hM
            have HQ := Lib.hid hq
            have HL2 := Lib.hid hl2
            clear Rc hm hok hM hq hl2
            generalize e.l.getD j e0 = y at *
            generalize strOf y.s = SY at *
            go_wp2_with (first
              | (go_at_call 18; (with_reducible refine (C.out).mono ?_); rintro e1 w2 ⟨B2, d2, rfl, s2, b⟩; have H2 := Lib.hid (And.intro (H.out.step b) s2); clear b s2)
              | (at_builtin; (refine app_strs0 rfl (.tmp 30) (.tmp 36) rfl (w.heap.size + 1) q d M d2 (q + M) B B2 (([] : List Bs) ++ nmL (e.l.take j)) (nmE y) rfl rfl H2.out.1.own HM.out H2.out.2 rfl HL2.out H2.out.1.lt ?_; intro B3 d3 w3 o3 g3; have H3 := Lib.hid (H2.out.1.app HR.out o3 g3); clear o3 g3)))
            go_roundw
            case rel => exact ⟨j + 1, q + M, d3, B3, by omega, rfl, by go_num, by rw [HSj.out, ← List.append_assoc, List.length_append, HQ.out, HM.out], Lib.hid (by rw [HSj.out, ← List.append_assoc]; exact H3.out)⟩
            case measure => simp [intOf]; omega
          · obtain rfl : j = n := by omega
            have HQ := Lib.hid hq
            clear hq
            go_wp2
            go_ret
            first
              | rw [show (nmL (e.l.take j)).length + 1 = q from HQ.out]
              | rw [show (nmL (e.l.take j)).length = q from HQ.out]
            exact ⟨B, d, rfl, ownS_base H.out.own (by omega), H.out.xs.bel⟩
end Go.Proofs.YtplcmcealeeppaaGreatDoor
/- The program: the names in a tree. -/
set_option linter.unusedVariables false
set_option linter.unusedSimpArgs false
namespace Go.Proofs.YtplcmcealeeppaaGreatDoor
open Go Go.RowKit L8 L10

theorem St.lt {w0 wr : World} {b : Nat} {N : Nat → Prop} {L : List (List Ex)} (h : St w0 wr b N L) : b < wr.heap.size := by
  obtain ⟨A, n, c, S, h1, h2, h3⟩ := h
  exact h1.box.lt
/-- Blocks of other types turn, the way stays. -/
theorem St.other {w0 wr Y : World} {b M : Nat} {N P : Nat → Prop} {L : List (List Ex)} (h : St w0 wr b N L) (f : Fr wr Y P) (hP : ∀ k, P k → M ≤ k ∧ ∃ t cs, BoxS wr k t cs ∧ t ≠ 25 ∧ t ≠ 104) (hN : ∀ k, N k → k < M) (hB : w0.heap.size ≤ M) : St w0 Y b N L := by
  obtain ⟨A, n, c, S, h1, h2, h3⟩ := h
  refine ⟨A, n, c, S, h1.fr f (fun p => ?_) (fun ad e p => ?_) (fun k _ hk p => ?_), h2, h3.trans (f.below h3.size fun k p => by have := (hP k p).1; omega)⟩
  · obtain ⟨_, t, cs, hb, _, ht⟩ := hP _ p
    exact box_ne hb h1.box ht rfl
  · obtain ⟨_, t, cs, hb, ht, _⟩ := hP _ p
    exact own_ne_boxT h1.own hb ht ad e rfl
  · have := hN k hk
    have := (hP k p).1
    omega
theorem ownS_block {w : World} {B n c k : Nat} {A : Option Addr} {ss : List Bs} (h : OwnS w B A n c ss) (e : (Value.slice A n c).ownBlock = some k) : B ≤ k ∧ ∃ t cs, BoxS w k t cs ∧ t ≠ 25 ∧ t ≠ 104 := by
  rcases h.2 with ⟨hv, _⟩ | ⟨g', cap, cur, hv, hB, hh, _⟩
  · injection hv with hv1; subst hv1; simp [Value.ownBlock] at e
  · injection hv with hv1
    subst hv1
    simp [Value.ownBlock] at e
    subst e
    exact ⟨hB, _, cur, hh, by decide, by decide⟩
theorem ownS_kp {w w' : World} {B n c : Nat} {A : Option Addr} {ss : List Bs} (h : OwnS w B A n c ss) (k : KpB w w') : OwnS w' B A n c ss := by
  refine ⟨h.1, ?_⟩
  rcases h.2 with h2 | ⟨g', cap, cur, hv, hB, hh, rest⟩
  · exact .inl h2
  · exact .inr ⟨g', cap, cur, hv, hB, k g' _ cur hh (by decide) (by decide), rest⟩
theorem ownS_fr {w w' : World} {P : Nat → Prop} {B n c : Nat} {A : Option Addr} {ss : List Bs} (h : OwnS w B A n c ss) (f : Fr w w' P) (hP : ∀ k, P k → ∃ t cs, BoxS w k t cs ∧ t ≠ 9) : OwnS w' B A n c ss := by
  refine ⟨h.1, ?_⟩
  rcases h.2 with h2 | ⟨g', cap, cur, hv, hB, hh, rest⟩
  · exact .inl h2
  · refine .inr ⟨g', cap, cur, hv, hB, f.obj hh (fun p => ?_), rest⟩
    obtain ⟨t, cs, hb, ht⟩ := hP _ p
    exact box_ne hb (show BoxS w g' 9 cur from hh) ht rfl
/-- The names so far, and those still to come. -/
structure NmW (w0 wr : World) (b : Nat) (N : Nat → Prop) (P : Nat) (cs : Array Value) (A : Option Addr) (q c : Nat) (acc : List Bs) (L : List (List Ex)) : Prop where
  st : St w0 wr b N L
  own : OwnS wr (b + 1) A q c acc
  box : BoxS wr P 27 cs
theorem NmW.lt {w0 wr : World} {b : Nat} {N : Nat → Prop} {P : Nat} {cs : Array Value} {A : Option Addr} {q c : Nat} {acc : List Bs} {L : List (List Ex)} (h : NmW w0 wr b N P cs A q c acc L) : b + 1 ≤ wr.heap.size := h.st.lt
theorem NmW.below {w0 wr wx : World} {b : Nat} {N : Nat → Prop} {P : Nat} {cs : Array Value} {A : Option Addr} {q c : Nat} {acc : List Bs} {L : List (List Ex)} (h : NmW w0 wr b N P cs A q c acc L) (k : Below wr.heap.size wr wx) : NmW w0 wx b N P cs A q c acc L := ⟨h.st.below k, h.own.keep k, h.box.below k⟩
/-- The copy of the round's tree. -/
theorem NmW.cop {w0 wr : World} {b : Nat} {N : Nat → Prop} {P : Nat} {cs cs' : Array Value} {A : Option Addr} {q c : Nat} {acc : List Bs} {L : List (List Ex)} (h : NmW w0 wr b N P cs A q c acc L) : NmW w0 (wr.alloc (.cells cs' 27)) b N wr.heap.size cs' A q c acc L := ⟨h.st.below (bal (b0 wr) _), h.own.keep (bal (b0 wr) _), boxS_new wr _ _⟩
theorem NmW.app {w0 wr X Y : World} {b : Nat} {N : Nat → Prop} {P : Nat} {cs : Array Value} {A A1 : Option Addr} {q c q1 c1 : Nat} {acc acc1 : List Bs} {L : List (List Ex)} (h : NmW w0 wr b N P cs A q c acc L) (bX : Below wr.heap.size wr X) (o : OwnS Y (b + 1) A1 q1 c1 acc1) (g : X.grownBy Y (Value.slice A q c).ownBlock) (hN : ∀ k, N k → k < b + 1) (hB : w0.heap.size ≤ b + 1) : NmW w0 Y b N P cs A1 q1 c1 acc1 L := by
  have hX := h.below bX
  have f : Fr X Y (fun k => (Value.slice A q c).ownBlock = some k) := Fr.ofG g fun k e => e
  refine ⟨hX.st.other f (fun k e => ownS_block hX.own e) hN hB, o, f.box hX.box fun e => ?_⟩
  rcases hX.own.2 with ⟨hv, _⟩ | ⟨g', cap, cur, hv, _, hh, _⟩
  · injection hv with hv1; subst hv1; simp [Value.ownBlock] at e
  · injection hv with hv1
    subst hv1
    simp [Value.ownBlock] at e
    subst e
    exact box_ne hX.box (show BoxS X g' 9 cur from hh) (by decide) rfl
/-- The round's tree is written over. -/
theorem NmW.set {w0 wr : World} {b : Nat} {N : Nat → Prop} {P : Nat} {a' b' c' d' e' f' : Value} {A : Option Addr} {q c : Nat} {acc : List Bs} {L : List (List Ex)} (h : NmW w0 wr b N P #[a', b', c', d', e', f'] A q c acc L) (hN : ∀ k, N k → k < b + 1) (hB : w0.heap.size ≤ b + 1) (hP : b + 1 ≤ P) (v0 v1 v2 v3 v4 v5 : Value) : NmW w0 (set6 wr P v0 v1 v2 v3 v4 v5) b N P #[v0, v1, v2, v3, v4, v5] A q c acc L := by
  have g := fr_set6 wr P v0 v1 v2 v3 v4 v5
  exact ⟨h.st.other g (fun k e => by have e : k = P := e; subst e; exact ⟨by omega, _, _, h.box, by decide, by decide⟩) hN hB, ownS_fr h.own g (fun k e => by have e : k = P := e; subst e; exact ⟨_, _, h.box, by decide⟩), box6_all _ _ _ _ _ _ h.box⟩
set_option maxRecDepth 100000 in
set_option maxHeartbeats 16000000 in
theorem PNamesX_any (e : Ex) (A : Option Addr) (n c : Nat) (w : World) (R : TrR w A c e.l) (hn : e.l.length = n) (ok : OKe e) (hs : szE e ≤ 999999) : Calls Tryz.prog 17 #[exV e A n c] w fun en w' => ∃ B d, en = .returned (.slice B (nmE e).length d) ∧ SS w' B d (nmE e) ∧ Below w.heap.size w w' := by
  have C0 := Lib.hid (walkOf_any e A n c (w.alloc (.cells (exC e A n c) 27)) (R.keep (bal (b0 w) _)) hn ok)
  have HB : Hid (∀ X, Below (w.alloc (.cells (exC e A n c) 27)).heap.size (w.alloc (.cells (exC e A n c) 27)) X → Below w.heap.size w X) := Lib.hid fun X b => blw (bal (b0 w) _) b
  have HI : Hid (∀ X, WkI (w.alloc (.cells (exC e A n c) 27)) X e → St (w.alloc (.cells (exC e A n c) 27)) X (w.heap.size + 1 + 1 + 1 + 1) (N0 (w.heap.size + 1)) ([] ++ [[e]])) := Lib.hid fun X h => by
    have := St.init h
    rwa [World.size_alloc] at this
  have HNl : Hid ((∀ k, N0 (w.heap.size + 1) k → k < w.heap.size + 1 + 1 + 1 + 1 + 1) ∧ (w.alloc (.cells (exC e A n c) 27)).heap.size ≤ w.heap.size + 1 + 1 + 1 + 1 + 1) := Lib.hid ⟨fun k h => by rcases h with h | h <;> omega, by rw [World.size_alloc]; omega⟩
  have HT := Lib.hid tot_next
  have HM := Lib.hid nm_next
  have h0 := Lib.hid (show totS ([] ++ [[e]]) = szE e by rw [List.nil_append, totS, totS, szL, szL]; rfl)
  have h1 := Lib.hid (show nmE e = ownNm e.k e.s ++ nmS (pushS (pushS [] []) e.l) by rw [← nm_next [] e []]; rw [List.nil_append, nmS, nmS, nmL, nmL]; simp)
  have HL := Lib.hid (nm_len e)
  have HP := Lib.hid (szE_pos e)
  clear R hn ok
  rw [World.size_alloc] at C0
  generalize N0 (w.heap.size + 1) = N at *
  generalize szE e = Z at *
  generalize nmE e = ALL at *
  dsimp only [exV, exC] at *
  generalize hS : strOf e.s = S at *
  have HS := Lib.hid hS
  clear hS
  go_enter Tryz.func17, Tryz.ntmps17
  go_wp2_with (first
    | (go_at_call 37; (with_reducible refine (C0.out).mono ?_); clear C0; rintro e1 X0 ⟨rfl, h⟩; have H0 := Lib.hid (HI.out _ h); clear h; have C1 := Lib.hid (H0.out.nextS (x := e) (r := []) (by have := h0.out; omega)))
    | (go_at_call 38; (with_reducible refine (C1.out).mono ?_); clear C1; rintro e1 X1 ⟨C, d, rfl, R, ok, h, kp⟩; have H1 := Lib.hid h; clear h kp R ok))
  clear HI
  have HV : Hid (NmW (w.alloc (.cells #[.int .u8 (e.k : Int), .int .u8 (e.o : Int), .int .u8 (e.t : Int), .int .i32 e.n, .string S, .slice A n c] 27)) (X1.alloc (.cells #[.int .u8 (e.k : Int), .int .u8 (e.o : Int), .int .u8 (e.t : Int), .int .i32 e.n, .string (strOf e.s), .slice C e.l.length d] 27)) (w.heap.size + 1 + 1 + 1 + 1) N X1.heap.size #[.int .u8 (e.k : Int), .int .u8 (e.o : Int), .int .u8 (e.t : Int), .int .i32 e.n, .string (strOf e.s), .slice C e.l.length d] none 0 0 [] (pushS (pushS [] []) e.l)) := Lib.hid ⟨H1.out.below (bal (b0 X1) _), ownS_nil _ _, boxS_new X1 _ _⟩
  have hg : totS (pushS (pushS [] []) e.l) + 1 = Z := by have := HT.out [] e []; have := h0.out; omega
  clear H1 h0
  go_loopg [3, 5, 6] (Z) (fun g z p o wr => ∃ (q cc P m d : Nat) (ok : Bool) (x : Ex) (AA C : Option Addr) (acc : List Bs) (L : List (List Ex)), z = .slice AA q cc ∧ p = .pointer (some ⟨P, 0, none⟩) ∧ o = .bool ok ∧ g = totS L + (if ok = true then 1 else 0) ∧ g ≤ Z ∧ q + g ≤ Z ∧ Hid (NmW (w.alloc (.cells #[.int .u8 (e.k : Int), .int .u8 (e.o : Int), .int .u8 (e.t : Int), .int .i32 e.n, .string S, .slice A n c] 27)) wr (w.heap.size + 1 + 1 + 1 + 1) N P #[.int .u8 (x.k : Int), .int .u8 (x.o : Int), .int .u8 (x.t : Int), .int .i32 x.n, .string (strOf x.s), .slice C m d] AA q cc acc L ∧ acc ++ (if ok = true then ownNm x.k x.s ++ nmS L else []) = ALL ∧ (ok = false → L = [])))
  case atStart => exact ⟨0, 0, _, _, _, true, e, none, _, [], _, rfl, rfl, rfl, by simp; omega, Nat.le_refl _, by omega, Lib.hid ⟨HV.out, h1.out.symm, (fun h => by cases h)⟩⟩
  case round =>
    obtain ⟨q, cc, P, m, d, ok, x, AA, C, acc, L, rfl, rfl, rfl, hgk, hgz, hqz, H⟩ := hrel
    have hq0 : (0 : Int) ≤ (q : Int) := by omega
    obtain ⟨x0, x1, x2, x3, x4, x5⟩ := box6 H.out.1.box
    cases ok with
    | false =>
      have HE := Lib.hid (show (∃ d, SS wr AA d ALL ∧ ALL.length = q ∧ cc = d) ∧ Below w.heap.size w wr from by
        have ha : acc = ALL := by have := H.out.2.1; simpa using this
        refine ⟨⟨cc, ?_, ?_, rfl⟩, HB.out _ H.out.1.st.bel⟩
        · rw [← ha]; exact H.out.1.own.ss
        · rw [← ha]; exact H.out.1.own.len)
      clear H
      go_wp2
      go_ret
      obtain ⟨⟨d', s1, s2, s3⟩, s4⟩ := HE.out
      rw [s2, s3]
      exact ⟨AA, d', rfl, s1, s4⟩
    | true =>
      have hgk1 : gk = totS L + 1 := hgk
      have q4 : ((x.k : Int) == 4) = decide (x.k = 4) := nat_eq10 _ 4
      have q5 : ((x.k : Int) == 5) = decide (x.k = 5) := nat_eq10 _ 5
      have q9 : ((x.k : Int) == 9) = decide (x.k = 9) := nat_eq10 _ 9
      have hown : ownNm x.k x.s = if (decide (x.k = 4) || (decide (x.k = 5) || decide (x.k = 9))) = true then [x.s] else [] := by
        unfold ownNm
        by_cases h4 : x.k = 4 <;> by_cases h5 : x.k = 5 <;> by_cases h9 : x.k = 9 <;> simp [h4, h5, h9]
      have HA : acc ++ (ownNm x.k x.s ++ nmS L) = ALL := H.out.2.1
      have H1 : Hid (SS (wr.alloc (.cells #[.string (strOf x.s)] 9)) (some ⟨wr.heap.size, 0, none⟩) 1 [x.s]) := Lib.hid (ss_one (boxS_new wr _ _))
      have HO : Hid (OwnS (wr.alloc (.cells #[.string (strOf x.s)] 9)) (w.heap.size + 1 + 1 + 1 + 1 + 1) AA q cc acc ∧ w.heap.size + 1 + 1 + 1 + 1 + 1 ≤ (wr.alloc (.cells #[.string (strOf x.s)] 9)).heap.size) := Lib.hid ⟨H.out.1.own.keep (bal (b0 wr) _), by rw [World.size_alloc]; have := H.out.1.lt; omega⟩
      have HAp : Hid (∀ (Y : World) (A1 : Option Addr) (c1 : Nat), OwnS Y (w.heap.size + 1 + 1 + 1 + 1 + 1) A1 (q + 1) c1 (acc ++ [x.s]) → (wr.alloc (.cells #[.string (strOf x.s)] 9)).grownBy Y (Value.slice AA q cc).ownBlock → NmW (w.alloc (.cells #[.int .u8 (e.k : Int), .int .u8 (e.o : Int), .int .u8 (e.t : Int), .int .i32 e.n, .string S, .slice A n c] 27)) Y (w.heap.size + 1 + 1 + 1 + 1) N P #[.int .u8 (x.k : Int), .int .u8 (x.o : Int), .int .u8 (x.t : Int), .int .i32 x.n, .string (strOf x.s), .slice C m d] A1 (q + 1) c1 (acc ++ [x.s]) L) := Lib.hid fun Y A1 c1 o g => H.out.1.app (bal (b0 wr) _) o g HNl.out.1 HNl.out.2
      have HH := Lib.hid H.out.1
      have HW := Lib.hid HH.out.st.ways
      have hq1 : q + 1 ≤ 1000000 := by omega
      rw [hown] at HA
      clear H hown hgk
      have HSet : Hid (∀ (X : World) (Q : Nat) (A1 : Option Addr) (q1 c1 : Nat) (acc1 : List Bs) (L1 : List (List Ex)), w.heap.size + 1 + 1 + 1 + 1 + 1 ≤ Q → NmW (w.alloc (.cells #[.int .u8 (e.k : Int), .int .u8 (e.o : Int), .int .u8 (e.t : Int), .int .i32 e.n, .string S, .slice A n c] 27)) X (w.heap.size + 1 + 1 + 1 + 1) N Q #[.int .u8 (x.k : Int), .int .u8 (x.o : Int), .int .u8 (x.t : Int), .int .i32 x.n, .string (strOf x.s), .slice C m d] A1 q1 c1 acc1 L1 → (X.cell? ⟨Q, 0, none⟩ = some (.int .u8 (x.k : Int)) ∧ X.cell? ⟨Q, 1, none⟩ = some (.int .u8 (x.o : Int)) ∧ X.cell? ⟨Q, 2, none⟩ = some (.int .u8 (x.t : Int)) ∧ X.cell? ⟨Q, 3, none⟩ = some (.int .i32 x.n) ∧ X.cell? ⟨Q, 4, none⟩ = some (.string (strOf x.s)) ∧ X.cell? ⟨Q, 5, none⟩ = some (.slice C m d)) ∧ (X.frozen? ⟨Q, 0, none⟩ = false ∧ X.frozen? ⟨Q, 1, none⟩ = false ∧ X.frozen? ⟨Q, 2, none⟩ = false ∧ X.frozen? ⟨Q, 3, none⟩ = false ∧ X.frozen? ⟨Q, 4, none⟩ = false ∧ X.frozen? ⟨Q, 5, none⟩ = false)
          ∧ Hid (∀ v0 v1 v2 v3 v4 v5, NmW (w.alloc (.cells #[.int .u8 (e.k : Int), .int .u8 (e.o : Int), .int .u8 (e.t : Int), .int .i32 e.n, .string S, .slice A n c] 27)) (set6 X Q v0 v1 v2 v3 v4 v5) (w.heap.size + 1 + 1 + 1 + 1) N Q #[v0, v1, v2, v3, v4, v5] A1 q1 c1 acc1 L1)) := Lib.hid fun X Q A1 q1 c1 acc1 L1 hQ h => ⟨box6 h.box, box6f h.box, Lib.hid fun v0 v1 v2 v3 v4 v5 => h.set HNl.out.1 HNl.out.2 hQ v0 v1 v2 v3 v4 v5⟩
      have HLt : Hid (∀ (X : World) (Q : Nat) (cs : Array Value) (A1 : Option Addr) (q1 c1 : Nat) (acc1 : List Bs) (L1 : List (List Ex)), NmW (w.alloc (.cells #[.int .u8 (e.k : Int), .int .u8 (e.o : Int), .int .u8 (e.t : Int), .int .i32 e.n, .string S, .slice A n c] 27)) X (w.heap.size + 1 + 1 + 1 + 1) N Q cs A1 q1 c1 acc1 L1 → w.heap.size + 1 + 1 + 1 + 1 + 1 ≤ X.heap.size) := Lib.hid fun X Q cs A1 q1 c1 acc1 L1 h => h.lt
      generalize decide (x.k = 4) = b4 at *
      generalize decide (x.k = 5) = b5 at *
      generalize decide (x.k = 9) = b9 at *
      have key4 : b4 = true ∨ (b4 = false ∧ b5 = true) ∨ (b4 = false ∧ b5 = false ∧ b9 = true) ∨ (b4 = false ∧ b5 = false ∧ b9 = false) := by cases b4 <;> cases b5 <;> cases b9 <;> simp
      rcases key4 with rfl | ⟨rfl, rfl⟩ | ⟨rfl, rfl, rfl⟩ | ⟨rfl, rfl, rfl⟩
      · simp only [Bool.true_or, Bool.false_or, Bool.or_true, Bool.or_false, if_true] at HA
        rcases HW.out with rfl | ⟨T, y, r, rfl⟩
        · have HQ := Lib.hid (show (acc ++ [x.s]) ++ (if false = true then ownNm x.k x.s ++ nmS [] else []) = ALL by first | (rw [← HA]; done) | (rw [← HA]; simp [nmS]))
          have HG := Lib.hid hgk1
          clear HA
          go_wp2_with (first
            | (at_builtin; (refine app_strs rfl (.tmp 26) (.tmp 29) rfl (w.heap.size + 1 + 1 + 1 + 1 + 1) q cc 1 1 (q + 1) AA (some ⟨wr.heap.size, 0, none⟩) acc [x.s] rfl rfl HO.out.1 rfl (by decide) H1.out rfl hq1 HO.out.2 ?_; intro A1 c1 w1 o1 g1; have H2 := Lib.hid (HAp.out w1 A1 c1 o1 g1); clear o1 g1 x0 x1 x2 x3 x4 x5; obtain ⟨x0, x1, x2, x3, x4, x5⟩ := box6 H2.out.box; have H3 := Lib.hid (NmW.cop (cs' := #[.int .u8 (x.k : Int), .int .u8 (x.o : Int), .int .u8 (x.t : Int), .int .i32 x.n, .string (strOf x.s), .slice C m d]) (H2.out)); have hlt := HLt.out _ _ _ _ _ _ _ _ (H2.out); have C2 := Lib.hid (H3.out.st.nextN)))
            | (go_at_call 38; (with_reducible refine (C2.out).mono ?_); clear C2; rintro e1 X2 ⟨rfl, h, kp⟩; have H4 := Lib.hid (NmW.mk h (ownS_kp H3.out.own kp) (kp _ _ _ H3.out.box (by decide) (by decide))); clear h kp; obtain ⟨⟨y0, y1, y2, y3, y4, y5⟩, ⟨f0, f1, f2, f3, f4, f5⟩, KF⟩ := HSet.out _ _ _ _ _ _ _ hlt H4.out))
          have KQ := Lib.hid (KF.out (.int .u8 0) (.int .u8 0) (.int .u8 0) (.int .i32 0) (.string ⟨#[]⟩) (.slice none 0 0))
          unfold set6 at KQ
          clear KF y0 y1 y2 y3 y4 y5 f0 f1 f2 f3 f4 f5
          generalize (((((X2.setCell ⟨w1.heap.size, 0, none⟩ (.int .u8 0)).setCell ⟨w1.heap.size, 1, none⟩ (.int .u8 0)).setCell ⟨w1.heap.size, 2, none⟩ (.int .u8 0)).setCell ⟨w1.heap.size, 3, none⟩ (.int .i32 0)).setCell ⟨w1.heap.size, 4, none⟩ (.string ⟨#[]⟩)).setCell ⟨w1.heap.size, 5, none⟩ (.slice none 0 0) = X5 at *
          go_roundg 0
          case rel => exact ⟨(q + 1), c1, w1.heap.size, 0, 0, false, L10.e0, A1, none, (acc ++ [x.s]), [], rfl, rfl, rfl, rfl, Nat.zero_le _, by have := HG.out; omega, Lib.hid ⟨KQ.out, by have := HQ.out; simpa using this, (fun _ => rfl)⟩⟩
          case measure => have := HG.out; omega
        · have HQ := Lib.hid (show (acc ++ [x.s]) ++ (ownNm y.k y.s ++ nmS (pushS (pushS T r) y.l)) = ALL by first | (rw [← HA, HM.out T y r]; done) | (rw [← HA, HM.out T y r]; simp))
          have HG := Lib.hid hgk1
          have HTT := Lib.hid (HT.out T y r)
          have hb1 : totS (T ++ [y :: r]) ≤ 1000000 := by omega
          clear HA
          go_wp2_with (first
            | (at_builtin; (refine app_strs rfl (.tmp 26) (.tmp 29) rfl (w.heap.size + 1 + 1 + 1 + 1 + 1) q cc 1 1 (q + 1) AA (some ⟨wr.heap.size, 0, none⟩) acc [x.s] rfl rfl HO.out.1 rfl (by decide) H1.out rfl hq1 HO.out.2 ?_; intro A1 c1 w1 o1 g1; have H2 := Lib.hid (HAp.out w1 A1 c1 o1 g1); clear o1 g1 x0 x1 x2 x3 x4 x5; obtain ⟨x0, x1, x2, x3, x4, x5⟩ := box6 H2.out.box; have H3 := Lib.hid (NmW.cop (cs' := #[.int .u8 (x.k : Int), .int .u8 (x.o : Int), .int .u8 (x.t : Int), .int .i32 x.n, .string (strOf x.s), .slice C m d]) (H2.out)); have hlt := HLt.out _ _ _ _ _ _ _ _ (H2.out); have C2 := Lib.hid (H3.out.st.nextS hb1)))
            | (go_at_call 38; (with_reducible refine (C2.out).mono ?_); clear C2; rintro e1 X2 ⟨C3, d3, rfl, R, ok, h, kp⟩; have H4 := Lib.hid (NmW.mk h (ownS_kp H3.out.own kp) (kp _ _ _ H3.out.box (by decide) (by decide))); clear h kp R ok; obtain ⟨⟨y0, y1, y2, y3, y4, y5⟩, ⟨f0, f1, f2, f3, f4, f5⟩, KF⟩ := HSet.out _ _ _ _ _ _ _ hlt H4.out))
          have KQ := Lib.hid (KF.out (.int .u8 (y.k : Int)) (.int .u8 (y.o : Int)) (.int .u8 (y.t : Int)) (.int .i32 y.n) (.string (strOf y.s)) (.slice C3 y.l.length d3))
          unfold set6 at KQ
          clear KF y0 y1 y2 y3 y4 y5 f0 f1 f2 f3 f4 f5
          generalize (((((X2.setCell ⟨w1.heap.size, 0, none⟩ (.int .u8 (y.k : Int))).setCell ⟨w1.heap.size, 1, none⟩ (.int .u8 (y.o : Int))).setCell ⟨w1.heap.size, 2, none⟩ (.int .u8 (y.t : Int))).setCell ⟨w1.heap.size, 3, none⟩ (.int .i32 y.n)).setCell ⟨w1.heap.size, 4, none⟩ (.string (strOf y.s))).setCell ⟨w1.heap.size, 5, none⟩ (.slice C3 y.l.length d3) = X5 at *
          go_roundg (totS (pushS (pushS T r) y.l) + 1)
          case rel => exact ⟨(q + 1), c1, w1.heap.size, y.l.length, d3, true, y, A1, C3, (acc ++ [x.s]), pushS (pushS T r) y.l, rfl, rfl, rfl, rfl, by have := HG.out; have := HTT.out; omega, by have := HG.out; have := HTT.out; omega, Lib.hid ⟨KQ.out, HQ.out, (fun h => by cases h)⟩⟩
          case measure => have := HG.out; have := HTT.out; omega
      · simp only [Bool.true_or, Bool.false_or, Bool.or_true, Bool.or_false, if_true] at HA
        rcases HW.out with rfl | ⟨T, y, r, rfl⟩
        · have HQ := Lib.hid (show (acc ++ [x.s]) ++ (if false = true then ownNm x.k x.s ++ nmS [] else []) = ALL by first | (rw [← HA]; done) | (rw [← HA]; simp [nmS]))
          have HG := Lib.hid hgk1
          clear HA
          go_wp2_with (first
            | (at_builtin; (refine app_strs rfl (.tmp 26) (.tmp 29) rfl (w.heap.size + 1 + 1 + 1 + 1 + 1) q cc 1 1 (q + 1) AA (some ⟨wr.heap.size, 0, none⟩) acc [x.s] rfl rfl HO.out.1 rfl (by decide) H1.out rfl hq1 HO.out.2 ?_; intro A1 c1 w1 o1 g1; have H2 := Lib.hid (HAp.out w1 A1 c1 o1 g1); clear o1 g1 x0 x1 x2 x3 x4 x5; obtain ⟨x0, x1, x2, x3, x4, x5⟩ := box6 H2.out.box; have H3 := Lib.hid (NmW.cop (cs' := #[.int .u8 (x.k : Int), .int .u8 (x.o : Int), .int .u8 (x.t : Int), .int .i32 x.n, .string (strOf x.s), .slice C m d]) (H2.out)); have hlt := HLt.out _ _ _ _ _ _ _ _ (H2.out); have C2 := Lib.hid (H3.out.st.nextN)))
            | (go_at_call 38; (with_reducible refine (C2.out).mono ?_); clear C2; rintro e1 X2 ⟨rfl, h, kp⟩; have H4 := Lib.hid (NmW.mk h (ownS_kp H3.out.own kp) (kp _ _ _ H3.out.box (by decide) (by decide))); clear h kp; obtain ⟨⟨y0, y1, y2, y3, y4, y5⟩, ⟨f0, f1, f2, f3, f4, f5⟩, KF⟩ := HSet.out _ _ _ _ _ _ _ hlt H4.out))
          have KQ := Lib.hid (KF.out (.int .u8 0) (.int .u8 0) (.int .u8 0) (.int .i32 0) (.string ⟨#[]⟩) (.slice none 0 0))
          unfold set6 at KQ
          clear KF y0 y1 y2 y3 y4 y5 f0 f1 f2 f3 f4 f5
          generalize (((((X2.setCell ⟨w1.heap.size, 0, none⟩ (.int .u8 0)).setCell ⟨w1.heap.size, 1, none⟩ (.int .u8 0)).setCell ⟨w1.heap.size, 2, none⟩ (.int .u8 0)).setCell ⟨w1.heap.size, 3, none⟩ (.int .i32 0)).setCell ⟨w1.heap.size, 4, none⟩ (.string ⟨#[]⟩)).setCell ⟨w1.heap.size, 5, none⟩ (.slice none 0 0) = X5 at *
          go_roundg 0
          case rel => exact ⟨(q + 1), c1, w1.heap.size, 0, 0, false, L10.e0, A1, none, (acc ++ [x.s]), [], rfl, rfl, rfl, rfl, Nat.zero_le _, by have := HG.out; omega, Lib.hid ⟨KQ.out, by have := HQ.out; simpa using this, (fun _ => rfl)⟩⟩
          case measure => have := HG.out; omega
        · have HQ := Lib.hid (show (acc ++ [x.s]) ++ (ownNm y.k y.s ++ nmS (pushS (pushS T r) y.l)) = ALL by first | (rw [← HA, HM.out T y r]; done) | (rw [← HA, HM.out T y r]; simp))
          have HG := Lib.hid hgk1
          have HTT := Lib.hid (HT.out T y r)
          have hb1 : totS (T ++ [y :: r]) ≤ 1000000 := by omega
          clear HA
          go_wp2_with (first
            | (at_builtin; (refine app_strs rfl (.tmp 26) (.tmp 29) rfl (w.heap.size + 1 + 1 + 1 + 1 + 1) q cc 1 1 (q + 1) AA (some ⟨wr.heap.size, 0, none⟩) acc [x.s] rfl rfl HO.out.1 rfl (by decide) H1.out rfl hq1 HO.out.2 ?_; intro A1 c1 w1 o1 g1; have H2 := Lib.hid (HAp.out w1 A1 c1 o1 g1); clear o1 g1 x0 x1 x2 x3 x4 x5; obtain ⟨x0, x1, x2, x3, x4, x5⟩ := box6 H2.out.box; have H3 := Lib.hid (NmW.cop (cs' := #[.int .u8 (x.k : Int), .int .u8 (x.o : Int), .int .u8 (x.t : Int), .int .i32 x.n, .string (strOf x.s), .slice C m d]) (H2.out)); have hlt := HLt.out _ _ _ _ _ _ _ _ (H2.out); have C2 := Lib.hid (H3.out.st.nextS hb1)))
            | (go_at_call 38; (with_reducible refine (C2.out).mono ?_); clear C2; rintro e1 X2 ⟨C3, d3, rfl, R, ok, h, kp⟩; have H4 := Lib.hid (NmW.mk h (ownS_kp H3.out.own kp) (kp _ _ _ H3.out.box (by decide) (by decide))); clear h kp R ok; obtain ⟨⟨y0, y1, y2, y3, y4, y5⟩, ⟨f0, f1, f2, f3, f4, f5⟩, KF⟩ := HSet.out _ _ _ _ _ _ _ hlt H4.out))
          have KQ := Lib.hid (KF.out (.int .u8 (y.k : Int)) (.int .u8 (y.o : Int)) (.int .u8 (y.t : Int)) (.int .i32 y.n) (.string (strOf y.s)) (.slice C3 y.l.length d3))
          unfold set6 at KQ
          clear KF y0 y1 y2 y3 y4 y5 f0 f1 f2 f3 f4 f5
          generalize (((((X2.setCell ⟨w1.heap.size, 0, none⟩ (.int .u8 (y.k : Int))).setCell ⟨w1.heap.size, 1, none⟩ (.int .u8 (y.o : Int))).setCell ⟨w1.heap.size, 2, none⟩ (.int .u8 (y.t : Int))).setCell ⟨w1.heap.size, 3, none⟩ (.int .i32 y.n)).setCell ⟨w1.heap.size, 4, none⟩ (.string (strOf y.s))).setCell ⟨w1.heap.size, 5, none⟩ (.slice C3 y.l.length d3) = X5 at *
          go_roundg (totS (pushS (pushS T r) y.l) + 1)
          case rel => exact ⟨(q + 1), c1, w1.heap.size, y.l.length, d3, true, y, A1, C3, (acc ++ [x.s]), pushS (pushS T r) y.l, rfl, rfl, rfl, rfl, by have := HG.out; have := HTT.out; omega, by have := HG.out; have := HTT.out; omega, Lib.hid ⟨KQ.out, HQ.out, (fun h => by cases h)⟩⟩
          case measure => have := HG.out; have := HTT.out; omega
      · simp only [Bool.true_or, Bool.false_or, Bool.or_true, Bool.or_false, if_true] at HA
        rcases HW.out with rfl | ⟨T, y, r, rfl⟩
        · have HQ := Lib.hid (show (acc ++ [x.s]) ++ (if false = true then ownNm x.k x.s ++ nmS [] else []) = ALL by first | (rw [← HA]; done) | (rw [← HA]; simp [nmS]))
          have HG := Lib.hid hgk1
          clear HA
          go_wp2_with (first
            | (at_builtin; (refine app_strs rfl (.tmp 26) (.tmp 29) rfl (w.heap.size + 1 + 1 + 1 + 1 + 1) q cc 1 1 (q + 1) AA (some ⟨wr.heap.size, 0, none⟩) acc [x.s] rfl rfl HO.out.1 rfl (by decide) H1.out rfl hq1 HO.out.2 ?_; intro A1 c1 w1 o1 g1; have H2 := Lib.hid (HAp.out w1 A1 c1 o1 g1); clear o1 g1 x0 x1 x2 x3 x4 x5; obtain ⟨x0, x1, x2, x3, x4, x5⟩ := box6 H2.out.box; have H3 := Lib.hid (NmW.cop (cs' := #[.int .u8 (x.k : Int), .int .u8 (x.o : Int), .int .u8 (x.t : Int), .int .i32 x.n, .string (strOf x.s), .slice C m d]) (H2.out)); have hlt := HLt.out _ _ _ _ _ _ _ _ (H2.out); have C2 := Lib.hid (H3.out.st.nextN)))
            | (go_at_call 38; (with_reducible refine (C2.out).mono ?_); clear C2; rintro e1 X2 ⟨rfl, h, kp⟩; have H4 := Lib.hid (NmW.mk h (ownS_kp H3.out.own kp) (kp _ _ _ H3.out.box (by decide) (by decide))); clear h kp; obtain ⟨⟨y0, y1, y2, y3, y4, y5⟩, ⟨f0, f1, f2, f3, f4, f5⟩, KF⟩ := HSet.out _ _ _ _ _ _ _ hlt H4.out))
          have KQ := Lib.hid (KF.out (.int .u8 0) (.int .u8 0) (.int .u8 0) (.int .i32 0) (.string ⟨#[]⟩) (.slice none 0 0))
          unfold set6 at KQ
          clear KF y0 y1 y2 y3 y4 y5 f0 f1 f2 f3 f4 f5
          generalize (((((X2.setCell ⟨w1.heap.size, 0, none⟩ (.int .u8 0)).setCell ⟨w1.heap.size, 1, none⟩ (.int .u8 0)).setCell ⟨w1.heap.size, 2, none⟩ (.int .u8 0)).setCell ⟨w1.heap.size, 3, none⟩ (.int .i32 0)).setCell ⟨w1.heap.size, 4, none⟩ (.string ⟨#[]⟩)).setCell ⟨w1.heap.size, 5, none⟩ (.slice none 0 0) = X5 at *
          go_roundg 0
          case rel => exact ⟨(q + 1), c1, w1.heap.size, 0, 0, false, L10.e0, A1, none, (acc ++ [x.s]), [], rfl, rfl, rfl, rfl, Nat.zero_le _, by have := HG.out; omega, Lib.hid ⟨KQ.out, by have := HQ.out; simpa using this, (fun _ => rfl)⟩⟩
          case measure => have := HG.out; omega
        · have HQ := Lib.hid (show (acc ++ [x.s]) ++ (ownNm y.k y.s ++ nmS (pushS (pushS T r) y.l)) = ALL by first | (rw [← HA, HM.out T y r]; done) | (rw [← HA, HM.out T y r]; simp))
          have HG := Lib.hid hgk1
          have HTT := Lib.hid (HT.out T y r)
          have hb1 : totS (T ++ [y :: r]) ≤ 1000000 := by omega
          clear HA
          go_wp2_with (first
            | (at_builtin; (refine app_strs rfl (.tmp 26) (.tmp 29) rfl (w.heap.size + 1 + 1 + 1 + 1 + 1) q cc 1 1 (q + 1) AA (some ⟨wr.heap.size, 0, none⟩) acc [x.s] rfl rfl HO.out.1 rfl (by decide) H1.out rfl hq1 HO.out.2 ?_; intro A1 c1 w1 o1 g1; have H2 := Lib.hid (HAp.out w1 A1 c1 o1 g1); clear o1 g1 x0 x1 x2 x3 x4 x5; obtain ⟨x0, x1, x2, x3, x4, x5⟩ := box6 H2.out.box; have H3 := Lib.hid (NmW.cop (cs' := #[.int .u8 (x.k : Int), .int .u8 (x.o : Int), .int .u8 (x.t : Int), .int .i32 x.n, .string (strOf x.s), .slice C m d]) (H2.out)); have hlt := HLt.out _ _ _ _ _ _ _ _ (H2.out); have C2 := Lib.hid (H3.out.st.nextS hb1)))
            | (go_at_call 38; (with_reducible refine (C2.out).mono ?_); clear C2; rintro e1 X2 ⟨C3, d3, rfl, R, ok, h, kp⟩; have H4 := Lib.hid (NmW.mk h (ownS_kp H3.out.own kp) (kp _ _ _ H3.out.box (by decide) (by decide))); clear h kp R ok; obtain ⟨⟨y0, y1, y2, y3, y4, y5⟩, ⟨f0, f1, f2, f3, f4, f5⟩, KF⟩ := HSet.out _ _ _ _ _ _ _ hlt H4.out))
          have KQ := Lib.hid (KF.out (.int .u8 (y.k : Int)) (.int .u8 (y.o : Int)) (.int .u8 (y.t : Int)) (.int .i32 y.n) (.string (strOf y.s)) (.slice C3 y.l.length d3))
          unfold set6 at KQ
          clear KF y0 y1 y2 y3 y4 y5 f0 f1 f2 f3 f4 f5
          generalize (((((X2.setCell ⟨w1.heap.size, 0, none⟩ (.int .u8 (y.k : Int))).setCell ⟨w1.heap.size, 1, none⟩ (.int .u8 (y.o : Int))).setCell ⟨w1.heap.size, 2, none⟩ (.int .u8 (y.t : Int))).setCell ⟨w1.heap.size, 3, none⟩ (.int .i32 y.n)).setCell ⟨w1.heap.size, 4, none⟩ (.string (strOf y.s))).setCell ⟨w1.heap.size, 5, none⟩ (.slice C3 y.l.length d3) = X5 at *
          go_roundg (totS (pushS (pushS T r) y.l) + 1)
          case rel => exact ⟨(q + 1), c1, w1.heap.size, y.l.length, d3, true, y, A1, C3, (acc ++ [x.s]), pushS (pushS T r) y.l, rfl, rfl, rfl, rfl, by have := HG.out; have := HTT.out; omega, by have := HG.out; have := HTT.out; omega, Lib.hid ⟨KQ.out, HQ.out, (fun h => by cases h)⟩⟩
          case measure => have := HG.out; have := HTT.out; omega
      · simp only [Bool.false_or, Bool.or_false, Bool.false_eq_true, if_false, List.nil_append] at HA
        rcases HW.out with rfl | ⟨T, y, r, rfl⟩
        · have HQ := Lib.hid (show acc ++ (if false = true then ownNm x.k x.s ++ nmS [] else []) = ALL by first | (rw [← HA]; done) | (rw [← HA]; simp [nmS]))
          have HG := Lib.hid hgk1
          have H3 := Lib.hid (NmW.cop (cs' := #[.int .u8 (x.k : Int), .int .u8 (x.o : Int), .int .u8 (x.t : Int), .int .i32 x.n, .string (strOf x.s), .slice C m d]) (HH.out))
          have hlt := HLt.out _ _ _ _ _ _ _ _ (HH.out)
          have C2 := Lib.hid (H3.out.st.nextN)
          clear HA
          go_wp2_with (go_at_call 38; (with_reducible refine (C2.out).mono ?_); clear C2; rintro e1 X2 ⟨rfl, h, kp⟩; have H4 := Lib.hid (NmW.mk h (ownS_kp H3.out.own kp) (kp _ _ _ H3.out.box (by decide) (by decide))); clear h kp; obtain ⟨⟨y0, y1, y2, y3, y4, y5⟩, ⟨f0, f1, f2, f3, f4, f5⟩, KF⟩ := HSet.out _ _ _ _ _ _ _ hlt H4.out)
          have KQ := Lib.hid (KF.out (.int .u8 0) (.int .u8 0) (.int .u8 0) (.int .i32 0) (.string ⟨#[]⟩) (.slice none 0 0))
          unfold set6 at KQ
          clear KF y0 y1 y2 y3 y4 y5 f0 f1 f2 f3 f4 f5
          generalize (((((X2.setCell ⟨wr.heap.size, 0, none⟩ (.int .u8 0)).setCell ⟨wr.heap.size, 1, none⟩ (.int .u8 0)).setCell ⟨wr.heap.size, 2, none⟩ (.int .u8 0)).setCell ⟨wr.heap.size, 3, none⟩ (.int .i32 0)).setCell ⟨wr.heap.size, 4, none⟩ (.string ⟨#[]⟩)).setCell ⟨wr.heap.size, 5, none⟩ (.slice none 0 0) = X5 at *
          go_roundg 0
          case rel => exact ⟨q, cc, wr.heap.size, 0, 0, false, L10.e0, AA, none, acc, [], rfl, rfl, rfl, rfl, Nat.zero_le _, by have := HG.out; omega, Lib.hid ⟨KQ.out, by have := HQ.out; simpa using this, (fun _ => rfl)⟩⟩
          case measure => have := HG.out; omega
        · have HQ := Lib.hid (show acc ++ (ownNm y.k y.s ++ nmS (pushS (pushS T r) y.l)) = ALL by first | (rw [← HA, HM.out T y r]; done) | (rw [← HA, HM.out T y r]; simp))
          have HG := Lib.hid hgk1
          have HTT := Lib.hid (HT.out T y r)
          have hb1 : totS (T ++ [y :: r]) ≤ 1000000 := by omega
          have H3 := Lib.hid (NmW.cop (cs' := #[.int .u8 (x.k : Int), .int .u8 (x.o : Int), .int .u8 (x.t : Int), .int .i32 x.n, .string (strOf x.s), .slice C m d]) (HH.out))
          have hlt := HLt.out _ _ _ _ _ _ _ _ (HH.out)
          have C2 := Lib.hid (H3.out.st.nextS hb1)
          clear HA
          go_wp2_with (go_at_call 38; (with_reducible refine (C2.out).mono ?_); clear C2; rintro e1 X2 ⟨C3, d3, rfl, R, ok, h, kp⟩; have H4 := Lib.hid (NmW.mk h (ownS_kp H3.out.own kp) (kp _ _ _ H3.out.box (by decide) (by decide))); clear h kp R ok; obtain ⟨⟨y0, y1, y2, y3, y4, y5⟩, ⟨f0, f1, f2, f3, f4, f5⟩, KF⟩ := HSet.out _ _ _ _ _ _ _ hlt H4.out)
          have KQ := Lib.hid (KF.out (.int .u8 (y.k : Int)) (.int .u8 (y.o : Int)) (.int .u8 (y.t : Int)) (.int .i32 y.n) (.string (strOf y.s)) (.slice C3 y.l.length d3))
          unfold set6 at KQ
          clear KF y0 y1 y2 y3 y4 y5 f0 f1 f2 f3 f4 f5
          generalize (((((X2.setCell ⟨wr.heap.size, 0, none⟩ (.int .u8 (y.k : Int))).setCell ⟨wr.heap.size, 1, none⟩ (.int .u8 (y.o : Int))).setCell ⟨wr.heap.size, 2, none⟩ (.int .u8 (y.t : Int))).setCell ⟨wr.heap.size, 3, none⟩ (.int .i32 y.n)).setCell ⟨wr.heap.size, 4, none⟩ (.string (strOf y.s))).setCell ⟨wr.heap.size, 5, none⟩ (.slice C3 y.l.length d3) = X5 at *
          go_roundg (totS (pushS (pushS T r) y.l) + 1)
          case rel => exact ⟨q, cc, wr.heap.size, y.l.length, d3, true, y, AA, C3, acc, pushS (pushS T r) y.l, rfl, rfl, rfl, rfl, by have := HG.out; have := HTT.out; omega, by have := HG.out; have := HTT.out; omega, Lib.hid ⟨KQ.out, HQ.out, (fun h => by cases h)⟩⟩
          case measure => have := HG.out; have := HTT.out; omega
end Go.Proofs.YtplcmcealeeppaaGreatDoor
/- The program: equal trees, by two ways side by side. -/
set_option linter.unusedVariables false
set_option linter.unusedSimpArgs false
namespace Go.Proofs.YtplcmcealeeppaaGreatDoor
open Go Go.RowKit L8 L10

set_option maxRecDepth 100000 in
set_option maxHeartbeats 16000000 in
theorem sameAlone_any (e f : Ex) (A B : Option Addr) (n m c d : Nat) (w : World) (hn : e.l.length = n) (hm : f.l.length = m) : Calls Tryz.prog 39 #[exV e A n c, exV f B m d] w fun en w' => en = .returned (.bool (sameA e f)) ∧ Below w.heap.size w w' := by
  have qk := nat_eq10 e.k f.k
  have qo := nat_eq10 e.o f.o
  have qt := nat_eq10 e.t f.t
  have qn : (e.n == f.n) = decide (e.n = f.n) := by by_cases h : e.n = f.n <;> simp [h]
  have qs := eqS e.s f.s
  have ql := nat_eq10 n m
  have HB := Lib.hid (bal (bal (b0 w) (.cells (exC e A n c) 27)) (.cells (exC f B m d) 27))
  unfold sameA
  rw [hn, hm]
  clear hn hm
  dsimp only [exV, exC] at *
  generalize strOf e.s = S at *
  generalize strOf f.s = S' at *
  generalize decide (e.k = f.k) = b1 at *
  generalize decide (e.o = f.o) = b2 at *
  generalize decide (e.t = f.t) = b3 at *
  generalize decide (e.n = f.n) = b4 at *
  generalize decide (e.s = f.s) = b5 at *
  generalize decide (n = m) = b6 at *
  have key : b1 = false ∨ (b1 = true ∧ b2 = false) ∨ (b1 = true ∧ b2 = true ∧ b3 = false) ∨ (b1 = true ∧ b2 = true ∧ b3 = true ∧ b4 = false) ∨ (b1 = true ∧ b2 = true ∧ b3 = true ∧ b4 = true ∧ b5 = false) ∨ (b1 = true ∧ b2 = true ∧ b3 = true ∧ b4 = true ∧ b5 = true) := by cases b1 <;> cases b2 <;> cases b3 <;> cases b4 <;> cases b5 <;> simp
  rcases key with rfl | ⟨rfl, rfl⟩ | ⟨rfl, rfl, rfl⟩ | ⟨rfl, rfl, rfl, rfl⟩ | ⟨rfl, rfl, rfl, rfl, rfl⟩ | ⟨rfl, rfl, rfl, rfl, rfl⟩
  all_goals
    simp only [Bool.false_and, Bool.true_and]
    go_enter Tryz.func39, Tryz.ntmps39
    go_wp2
    go_ret
    exact ⟨rfl, HB.out⟩
/-! ### Two ways -/
structure S2 (w0 wr : World) (b1 b2 : Nat) (N : Nat → Prop) (L1 L2 : List (List Ex)) : Prop where
  x : ∃ A1 n1 c1 S1 A2 n2 c2 S2, Wk wr w0.heap.size b1 N A1 n1 c1 S1 ∧ ltL S1 = L1 ∧ Wk wr w0.heap.size b2 N A2 n2 c2 S2 ∧ ltL S2 = L2 ∧ (b1 ≠ b2 ∧ (∀ ad, A1 = some ad → ad.block ≠ b2) ∧ (∀ ad, A2 = some ad → ad.block ≠ b1) ∧ ∀ ad ad', A1 = some ad → A2 = some ad' → ad.block ≠ ad'.block) ∧ Below w0.heap.size w0 wr
theorem S2.swap {w0 wr : World} {b1 b2 : Nat} {N : Nat → Prop} {L1 L2 : List (List Ex)} (h : S2 w0 wr b1 b2 N L1 L2) : S2 w0 wr b2 b1 N L2 L1 := by
  obtain ⟨A1, n1, c1, T1, A2, n2, c2, T2, h1, h2, h3, h4, ⟨h5, h6, h7, h8⟩, h9⟩ := h
  exact ⟨A2, n2, c2, T2, A1, n1, c1, T1, h3, h4, h1, h2, ⟨h5.symm, h7, h6, fun a a' e e' q => h8 a' a e' e q.symm⟩, h9⟩
theorem S2.bel {w0 wr : World} {b1 b2 : Nat} {N : Nat → Prop} {L1 L2 : List (List Ex)} (h : S2 w0 wr b1 b2 N L1 L2) : Below w0.heap.size w0 wr := by
  obtain ⟨A1, n1, c1, T1, A2, n2, c2, T2, h1, h2, h3, h4, h5, h9⟩ := h
  exact h9
theorem S2.below {w0 wr wx : World} {b1 b2 : Nat} {N : Nat → Prop} {L1 L2 : List (List Ex)} (h : S2 w0 wr b1 b2 N L1 L2) (k : Below wr.heap.size wr wx) : S2 w0 wx b1 b2 N L1 L2 := by
  obtain ⟨A1, n1, c1, T1, A2, n2, c2, T2, h1, h2, h3, h4, h5, h9⟩ := h
  exact ⟨A1, n1, c1, T1, A2, n2, c2, T2, h1.keep k, h2, h3.keep k, h4, h5, blw h9 k⟩
/-- The first way takes a step. -/
theorem S2.of {w0 wr w' : World} {b1 b2 : Nat} {N : Nat → Prop} {L L2 : List (List Ex)} {A1 A2 : Option Addr} {n1 c1 n2 c2 : Nat} {T1 T2 : List Lt} (h1 : Wk wr w0.heap.size b1 N A1 n1 c1 T1) (h3 : Wk wr w0.heap.size b2 N A2 n2 c2 T2) (h4 : ltL T2 = L2)
    (h5 : b1 ≠ b2 ∧ (∀ ad, A1 = some ad → ad.block ≠ b2) ∧ (∀ ad, A2 = some ad → ad.block ≠ b1) ∧ ∀ ad ad', A1 = some ad → A2 = some ad' → ad.block ≠ ad'.block) (hb : Below w0.heap.size w0 wr) (k : WkR wr w' w0.heap.size b1 N A1 L) : S2 w0 w' b1 b2 N L L2 := by
  obtain ⟨p1, p2, p3, p4⟩ := h5
  obtain ⟨A1', n1', c1', T1', k1, k2, k3, k4⟩ := k
  have hlt2 := h3.box.lt
  have hlA : ∀ ad, A2 = some ad → ad.block < wr.heap.size := fun ad e => by subst e; exact (World.ownsRow.lt h3.own ad.block rfl).2
  refine ⟨A1', n1', c1', T1', A2, n2, c2, T2, k1, k2, h3.fr k3 (fun p => ?_) (fun ad e p => ?_) (fun j _ hj p => ?_), h4, ⟨p1, fun ad e q => ?_, p3, fun ad ad' e e' q => ?_⟩, hb.trans (k3.below hb.size h1.pb)⟩
  · exact p.elim (fun e => p1 e.symm) fun ⟨ad, e, q⟩ => p2 ad e q
  · exact p.elim (fun q => p3 ad e q) fun ⟨a1, e1, q⟩ => p4 a1 ad e1 e q
  · exact p.elim (fun q => h1.nb (by rw [← q]; exact hj)) fun ⟨a1, e1, q⟩ => (h1.ne a1 e1).2 (by rw [q]; exact hj)
  · rcases k4 ad e with ⟨a1, e1, q1⟩ | q1
    · exact p2 a1 e1 (by rw [q1]; exact q)
    · omega
  · rcases k4 ad e with ⟨a1, e1, q1⟩ | q1
    · exact p4 a1 ad' e1 e' (by rw [q1]; exact q)
    · have := hlA ad' e'
      omega
theorem S2.nextN {w0 wr : World} {b1 b2 : Nat} {N : Nat → Prop} {L2 : List (List Ex)} (h : S2 w0 wr b1 b2 N [] L2) : Calls Tryz.prog 38 #[.pointer (some ⟨b1, 0, none⟩)] wr fun en w' => en = .returned (.tuple #[.agg #[.int .u8 0, .int .u8 0, .int .u8 0, .int .i32 0, .string ⟨#[]⟩, .slice none 0 0], .bool false]) ∧ S2 w0 w' b1 b2 N [] L2 ∧ KpB wr w' := by
  obtain ⟨A1, n1, c1, T1, A2, n2, c2, T2, h1, h2, h3, h4, h5, h9⟩ := h
  obtain rfl : T1 = [] := List.map_eq_nil_iff.1 h2
  exact (next_none h1).mono fun en w' ⟨e, k⟩ => ⟨e, S2.of h1 h3 h4 h5 h9 k, kpb h1 k⟩
theorem S2.nextS {w0 wr : World} {b1 b2 : Nat} {N : Nat → Prop} {L2 : List (List Ex)} {T : List (List Ex)} {x : Ex} {r : List Ex} (h : S2 w0 wr b1 b2 N (T ++ [x :: r]) L2) (hs : totS (T ++ [x :: r]) ≤ 1000000) : Calls Tryz.prog 38 #[.pointer (some ⟨b1, 0, none⟩)] wr fun en w' => ∃ C e, en = .returned (.tuple #[.agg #[.int .u8 (x.k : Int), .int .u8 (x.o : Int), .int .u8 (x.t : Int), .int .i32 x.n, .string (strOf x.s), .slice C x.l.length e], .bool true]) ∧ S2 w0 w' b1 b2 N (pushS (pushS T r) x.l) L2 ∧ KpB wr w' := by
  obtain ⟨A1, n1, c1, T1, A2, n2, c2, T2, h1, h2, h3, h4, h5, h9⟩ := h
  obtain ⟨T', X, rfl, rfl, hX⟩ := List.map_eq_append_iff.1 h2
  obtain ⟨y, rfl, hy⟩ : ∃ y, X = [y] ∧ y.l = x :: r := by
    cases X with
    | nil => cases hX
    | cons y Y =>
      injection hX with h4 h5
      rw [List.map_eq_nil_iff] at h5
      exact ⟨y, by rw [h5], h4⟩
  obtain ⟨l, D, d⟩ := y
  dsimp only at hy
  subst hy
  refine (next_some h1 (by rw [show ltL (T' ++ [⟨x :: r, D, d⟩]) = ltL T' ++ [x :: r] from by simp [ltL]]; exact hs)).mono fun en w' ⟨C, e, he, R, ok, k⟩ => ⟨C, e, he, S2.of h1 h3 h4 h5 h9 k, kpb h1 k⟩
/-- The second way takes a step. -/
theorem S2.next2 {w0 wr : World} {b1 b2 : Nat} {N : Nat → Prop} {L1 : List (List Ex)} {T : List (List Ex)} {x : Ex} {r : List Ex} (h : S2 w0 wr b1 b2 N L1 (T ++ [x :: r])) (hs : totS (T ++ [x :: r]) ≤ 1000000) : Calls Tryz.prog 38 #[.pointer (some ⟨b2, 0, none⟩)] wr fun en w' => ∃ C e, en = .returned (.tuple #[.agg #[.int .u8 (x.k : Int), .int .u8 (x.o : Int), .int .u8 (x.t : Int), .int .i32 x.n, .string (strOf x.s), .slice C x.l.length e], .bool true]) ∧ S2 w0 w' b1 b2 N L1 (pushS (pushS T r) x.l) ∧ KpB wr w' :=
  (h.swap.nextS hs).mono fun en w' ⟨C, e, he, k, kp⟩ => ⟨C, e, he, k.swap, kp⟩
end Go.Proofs.YtplcmcealeeppaaGreatDoor
/- The program: Same. -/
set_option linter.unusedVariables false
set_option linter.unusedSimpArgs false
namespace Go.Proofs.YtplcmcealeeppaaGreatDoor
open Go Go.RowKit L8 L10

/-- A way that begins at b. -/
def WkB (b B0 : Nat) (w w' : World) (e : Ex) : Prop := b = w.heap.size + 1 + 1 + 1 ∧ WkG B0 w w' e
theorem walkOf_b (w : World) (e : Ex) (A : Option Addr) (n c : Nat) (R : TrR w A c e.l) (hn : e.l.length = n) (ok : OKe e) (X : World) (b : Below w.heap.size w X) : Calls Tryz.prog 37 #[exV e A n c] X fun en w' => ∃ p, en = .returned (.pointer (some ⟨p, 0, none⟩)) ∧ WkB p w.heap.size X w' e ∧ Below X.heap.size X w' :=
  (walkOf_gen w.heap.size e A n c X b.size ((R.toN fun k hk => hk).keep b) hn ok).mono fun en w' ⟨h1, h2⟩ => ⟨_, h1, ⟨rfl, h2⟩, h2.2.1⟩
theorem S2.init {w X1 Y1 X2 Y2 : World} {b1 b2 : Nat} {e f : Ex} (bX : Below w.heap.size w X1) (h1 : WkB b1 w.heap.size X1 Y1 e) (k : Below Y1.heap.size Y1 X2) (h2 : WkB b2 w.heap.size X2 Y2 f) : ∃ N, S2 w Y2 b1 b2 N ([] ++ [[e]]) ([] ++ [[f]]) ∧ ((∀ j, N j → j < b2 + 1) ∧ w.heap.size ≤ b2 + 1) := by
  obtain ⟨rfl, g1, g2, g3⟩ := h1
  obtain ⟨rfl, k1, k2, k3⟩ := h2
  have hs := bX.size
  have hk := k.size
  have kb := blw k k2
  refine ⟨fun j => j < w.heap.size ∨ j = X1.heap.size + 1 ∨ j = X2.heap.size + 1, ⟨_, _, _, _, _, _, _, _, (g1.keep kb).wide (fun j h => h.imp id .inl) (fun h => by rcases h with h | h | h <;> omega) (fun ad e => ?_) (fun j h => by rcases h with h | h | h <;> omega), rfl,
    k1.wide (fun j h => h.imp id .inr) (fun h => by rcases h with h | h | h <;> omega) (fun ad e => ?_) (fun j h => by rcases h with h | h | h <;> omega), rfl, ⟨by omega, fun ad e q => ?_, fun ad e q => ?_, fun ad ad' e e' q => ?_⟩, blw (blw bX g2) kb⟩, fun j h => by rcases h with h | h | h <;> omega, by omega⟩
  · injection e with e; subst e
    intro h
    have h : X1.heap.size + 1 + 1 < w.heap.size ∨ X1.heap.size + 1 + 1 = X1.heap.size + 1 ∨ X1.heap.size + 1 + 1 = X2.heap.size + 1 := h
    omega
  · injection e with e; subst e
    intro h
    have h : X2.heap.size + 1 + 1 < w.heap.size ∨ X2.heap.size + 1 + 1 = X1.heap.size + 1 ∨ X2.heap.size + 1 + 1 = X2.heap.size + 1 := h
    omega
  · injection e with e; subst e
    have q : X1.heap.size + 1 + 1 = X2.heap.size + 1 + 1 + 1 := q
    omega
  · injection e with e; subst e
    have q : X2.heap.size + 1 + 1 = X1.heap.size + 1 + 1 + 1 := q
    omega
  · injection e with e; subst e
    injection e' with e'; subst e'
    have q : X1.heap.size + 1 + 1 = X2.heap.size + 1 + 1 := q
    omega
/-- Blocks of other types turn, the ways stay. -/
theorem S2.other {w0 wr Y : World} {b1 b2 M : Nat} {N P : Nat → Prop} {L1 L2 : List (List Ex)} (h : S2 w0 wr b1 b2 N L1 L2) (f : Fr wr Y P) (hP : ∀ k, P k → M ≤ k ∧ ∃ t cs, BoxS wr k t cs ∧ t ≠ 25 ∧ t ≠ 104) (hN : ∀ k, N k → k < M) (hB : w0.heap.size ≤ M) : S2 w0 Y b1 b2 N L1 L2 := by
  obtain ⟨A1, n1, c1, T1, A2, n2, c2, T2, h1, h2, h3, h4, h5, h9⟩ := h
  have key : ∀ {b n c : Nat} {A : Option Addr} {T : List Lt}, Wk wr w0.heap.size b N A n c T → Wk Y w0.heap.size b N A n c T := fun {b n c A T} h => by
    refine h.fr f (fun p => ?_) (fun ad e p => ?_) (fun k _ hk p => ?_)
    · obtain ⟨_, t, cs, hb, _, ht⟩ := hP _ p
      exact box_ne hb h.box ht rfl
    · obtain ⟨_, t, cs, hb, ht, _⟩ := hP _ p
      exact own_ne_boxT h.own hb ht ad e rfl
    · have := hN k hk
      have := (hP k p).1
      omega
  exact ⟨A1, n1, c1, T1, A2, n2, c2, T2, key h1, h2, key h3, h4, h5, h9.trans (f.below h9.size fun k p => by have := (hP k p).1; omega)⟩
theorem S2.lt {w0 wr : World} {b1 b2 : Nat} {N : Nat → Prop} {L1 L2 : List (List Ex)} (h : S2 w0 wr b1 b2 N L1 L2) : b2 < wr.heap.size := by
  obtain ⟨A1, n1, c1, T1, A2, n2, c2, T2, h1, h2, h3, h4, h5, h9⟩ := h
  exact h3.box.lt
theorem S2.ways {w0 wr : World} {b1 b2 : Nat} {N : Nat → Prop} {L1 L2 : List (List Ex)} (h : S2 w0 wr b1 b2 N L1 L2) : L1 = [] ∨ ∃ T x r, L1 = T ++ [x :: r] := by
  obtain ⟨A1, n1, c1, T1, A2, n2, c2, T2, h1, h2, h3, h4, h5, h9⟩ := h
  exact (show St w0 wr b1 N L1 from ⟨A1, n1, c1, T1, h1, h2, h9⟩).ways
structure SmW (w0 wr : World) (b1 b2 : Nat) (N : Nat → Prop) (P : Nat) (cs : Array Value) (L1 L2 : List (List Ex)) : Prop where
  st : S2 w0 wr b1 b2 N L1 L2
  box : BoxS wr P 27 cs
theorem SmW.below {w0 wr wx : World} {b1 b2 : Nat} {N : Nat → Prop} {P : Nat} {cs : Array Value} {L1 L2 : List (List Ex)} (h : SmW w0 wr b1 b2 N P cs L1 L2) (k : Below wr.heap.size wr wx) : SmW w0 wx b1 b2 N P cs L1 L2 := ⟨h.st.below k, h.box.below k⟩
theorem SmW.cop {w0 wr : World} {b1 b2 : Nat} {N : Nat → Prop} {P : Nat} {cs cs' : Array Value} {L1 L2 : List (List Ex)} (h : SmW w0 wr b1 b2 N P cs L1 L2) : SmW w0 (wr.alloc (.cells cs' 27)) b1 b2 N wr.heap.size cs' L1 L2 := ⟨h.st.below (bal (b0 wr) _), boxS_new wr _ _⟩
theorem SmW.set {w0 wr : World} {b1 b2 : Nat} {N : Nat → Prop} {P : Nat} {a' b' c' d' e' f' : Value} {L1 L2 : List (List Ex)} (h : SmW w0 wr b1 b2 N P #[a', b', c', d', e', f'] L1 L2) (hN : ∀ k, N k → k < b2 + 1) (hB : w0.heap.size ≤ b2 + 1) (hP : b2 + 1 ≤ P) (v0 v1 v2 v3 v4 v5 : Value) : SmW w0 (set6 wr P v0 v1 v2 v3 v4 v5) b1 b2 N P #[v0, v1, v2, v3, v4, v5] L1 L2 := by
  have g := fr_set6 wr P v0 v1 v2 v3 v4 v5
  exact ⟨h.st.other g (fun k e => by have e : k = P := e; subst e; exact ⟨by omega, _, _, h.box, by decide, by decide⟩) hN hB, box6_all _ _ _ _ _ _ h.box⟩
/-- What is left is as equal as the whole. -/
def Inv (e f : Ex) (M1 L2 : List (List Ex)) : Prop := shp M1 = shp L2 ∧ (e = f ↔ M1 = L2) ∧ totS M1 ≤ 1000000 ∧ totS L2 ≤ 1000000
theorem inv_start {e f : Ex} (h1 : totS ([] ++ [[e]]) ≤ 1000000) (h2 : totS ([] ++ [[f]]) ≤ 1000000) : Inv e f ([] ++ [[e]]) ([] ++ [[f]]) := ⟨rfl, by simp, h1, h2⟩
theorem inv_end {e f : Ex} {L2 : List (List Ex)} (h : Inv e f [] L2) : L2 = [] ∧ e = f := by
  have hl : L2 = [] := by
    have := h.1
    unfold shp at this
    exact List.map_eq_nil_iff.1 this.symm
  exact ⟨hl, h.2.1.2 hl.symm⟩
theorem inv_step {e f x : Ex} {T L2 : List (List Ex)} {r : List Ex} (h : Inv e f (T ++ [x :: r]) L2) : ∃ T2 y q, L2 = T2 ++ [y :: q] ∧ (sameA x y = false → e ≠ f) ∧ (sameA x y = true → Inv e f (pushS (pushS T r) x.l) (pushS (pushS T2 q) y.l)) := by
  obtain ⟨h1, h2, h3, h4⟩ := h
  rcases List.eq_nil_or_concat L2 with rfl | ⟨T2, m, rfl⟩
  · unfold shp at h1
    rw [List.map_append] at h1
    simp at h1
  · rw [List.concat_eq_append] at *
    obtain ⟨g1, y, q, rfl, g2⟩ := shp_last h1
    have t1 := tot_next T x r
    have t2 := tot_next T2 y q
    refine ⟨T2, y, q, rfl, fun hn e => same_last hn (h2.1 e), fun hy => ?_⟩
    obtain ⟨k1, k2⟩ := same_next g1 g2 hy
    exact ⟨k2, h2.trans k1, by omega, by omega⟩
set_option maxRecDepth 100000 in
set_option maxHeartbeats 16000000 in
theorem PSameX_any (e f : Ex) (A B : Option Addr) (n m c d : Nat) (w : World) (R : TrR w A c e.l) (hn : e.l.length = n) (oke : OKe e) (Q : TrR w B d f.l) (hm : f.l.length = m) (okf : OKe f) (hse : szE e ≤ 1000000) (hsf : szE f ≤ 1000000) : Calls Tryz.prog 19 #[exV e A n c, exV f B m d] w fun en w' => en = .returned (.bool (decide (e = f))) ∧ Below w.heap.size w w' := by
  have C1 := Lib.hid (fun (X : World) (b : Below w.heap.size w X) => walkOf_b w e A n c R hn oke X b)
  have C2 := Lib.hid (fun (X : World) (b : Below w.heap.size w X) => walkOf_b w f B m d Q hm okf X b)
  have HX : Hid (∀ X, Below ((w.alloc (.cells (exC e A n c) 27)).alloc (.cells (exC f B m d) 27)).heap.size ((w.alloc (.cells (exC e A n c) 27)).alloc (.cells (exC f B m d) 27)) X → Below w.heap.size w X ∧ BoxS X w.heap.size 27 (exC e A n c) ∧ BoxS X (w.heap.size + 1) 27 (exC f B m d)) := Lib.hid fun X b => by
    have h2 := boxS_new (w.alloc (.cells (exC e A n c) 27)) 27 (exC f B m d)
    rw [World.size_alloc] at h2
    exact ⟨blw (bal (bal (b0 w) _) _) b, ((boxS_new w _ _).alloc _).below b, h2.below b⟩
  have h0 := Lib.hid (show totS ([] ++ [[e]]) = szE e by rw [List.nil_append, totS, totS, szL, szL]; rfl)
  have h1 := Lib.hid (show totS ([] ++ [[f]]) = szE f by rw [List.nil_append, totS, totS, szL, szL]; rfl)
  clear R Q hn hm oke okf
  dsimp only [exV, exC] at *
  generalize strOf e.s = S at *
  generalize strOf f.s = S' at *
  go_enter Tryz.func19, Tryz.ntmps19
  go_wp2
  generalize hV : (w.alloc (.cells #[.int .u8 (e.k : Int), .int .u8 (e.o : Int), .int .u8 (e.t : Int), .int .i32 e.n, .string S, .slice A n c] 27)).alloc (.cells #[.int .u8 (f.k : Int), .int .u8 (f.o : Int), .int .u8 (f.t : Int), .int .i32 f.n, .string S', .slice B m d] 27) = V at *
  have H0 := Lib.hid (HX.out V.drew (bdrew (b0 V) 1))
  obtain ⟨e0_, e1_, e2_, e3_, e4_, e5_⟩ := box6 H0.out.2.1
  obtain ⟨f0_, f1_, f2_, f3_, f4_, f5_⟩ := box6 H0.out.2.2
  have C1' := Lib.hid (C1.out V.drew H0.out.1)
  clear C1
  go_region_law (first
    | (go_simp; go_at_call 37; (with_reducible refine (C1'.out).mono ?_); clear C1'; rintro en1 Y1 ⟨p1, rfl, g1, k1⟩; have G1 := Lib.hid g1; have H1 := Lib.hid (HX.out Y1 (blw (bdrew (b0 V) 1) k1)); clear g1 k1; obtain ⟨g0_, g1_, g2_, g3_, g4_, g5_⟩ := box6 H1.out.2.2; have C2' := Lib.hid (C2.out Y1 H1.out.1); clear C2)
    | (go_simp; go_at_call 37; (with_reducible refine (C2'.out).mono ?_); clear C2'; rintro en2 Y2 ⟨p2, rfl, g2, k2⟩; have HS := Lib.hid (S2.init H0.out.1 G1.out (b0 Y1) g2); clear g2 k2))
  all_goals (
    obtain ⟨N, HS2, HNl⟩ := HS.out
    clear HS G1 H1 H0 HX
    have hA := Lib.hid HS2
    have hNl := Lib.hid HNl
    clear HS2 HNl
    have C3 := Lib.hid (hA.out.nextS (T := []) (x := e) (r := []) (by have := h0.out; omega))
    go_wp2_with (go_at_call 38; (with_reducible refine (C3.out).mono ?_); clear C3; rintro e1 X1 ⟨C, d1, rfl, h, kp⟩; have H1 := Lib.hid h; clear h kp)
    clear hA
    have HV : Hid (SmW w (X1.alloc (.cells #[.int .u8 (e.k : Int), .int .u8 (e.o : Int), .int .u8 (e.t : Int), .int .i32 e.n, .string (strOf e.s), .slice C e.l.length d1] 27)) p1 p2 N X1.heap.size #[.int .u8 (e.k : Int), .int .u8 (e.o : Int), .int .u8 (e.t : Int), .int .i32 e.n, .string (strOf e.s), .slice C e.l.length d1] (pushS (pushS [] []) e.l) ([] ++ [[f]]) ∧ Inv e f ([] ++ [[e]]) ([] ++ [[f]])) := Lib.hid ⟨⟨H1.out.below (bal (b0 X1) _), boxS_new X1 _ _⟩, inv_start (by have := h0.out; omega) (by have := h1.out; omega)⟩
    clear H1
    go_loopg [7, 8] (szE e) (fun g p o wr => ∃ (P m' d' : Nat) (ok : Bool) (x : Ex) (C : Option Addr) (L1 M1 L2 : List (List Ex)), p = .pointer (some ⟨P, 0, none⟩) ∧ o = .bool ok ∧ g = totS M1 ∧ Hid (SmW w wr p1 p2 N P #[.int .u8 (x.k : Int), .int .u8 (x.o : Int), .int .u8 (x.t : Int), .int .i32 x.n, .string (strOf x.s), .slice C m' d'] L1 L2 ∧ Inv e f M1 L2 ∧ (ok = true → (∃ T r, M1 = T ++ [x :: r] ∧ L1 = pushS (pushS T r) x.l) ∧ x.l.length = m') ∧ (ok = false → M1 = [] ∧ L1 = [])))
    case atStart => exact ⟨_, e.l.length, d1, true, e, C, _, _, _, rfl, rfl, h0.out.symm, Lib.hid ⟨HV.out.1, HV.out.2, (fun _ => ⟨⟨[], [], rfl, rfl⟩, rfl⟩), (fun h => by cases h)⟩⟩
    case round =>
      obtain ⟨P, m', d', ok, x, C, L1, M1, L2, rfl, rfl, hgk, H⟩ := hrel
      cases ok with
      | false =>
        have HE := Lib.hid (show e = f ∧ Below w.heap.size w wr from ⟨(inv_end (by have := H.out.2.1; rwa [(H.out.2.2.2 rfl).1] at this)).2, H.out.1.st.bel⟩)
        clear H hgk
        go_wp2
        go_ret
        exact ⟨ret_b (decide_eq_true HE.out.1).symm, HE.out.2⟩
      | true =>
        obtain ⟨⟨T, r, rfl, hL1⟩, hml⟩ := H.out.2.2.1 rfl
        obtain ⟨T2, y, q, rfl, hno, hyes⟩ := inv_step H.out.2.1
        have HG := Lib.hid (show totS L1 + 1 = gk by rw [hgk, hL1]; exact tot_next T x r)
        have HI2 := Lib.hid (show sameA x y = true → Inv e f L1 (pushS (pushS T2 q) y.l) by rw [hL1]; exact hyes)
        have HNo := Lib.hid hno
        have C2 := Lib.hid (H.out.1.st.next2 H.out.2.1.2.2.2)
        have HH := Lib.hid H.out.1
        have HW := Lib.hid HH.out.st.ways
        have HSz := Lib.hid (show totS L1 ≤ 1000000 by have := HG.out; have := H.out.2.1.2.2.1; omega)
        have CA : Hid (∀ (D : Option Addr) (d2 : Nat) (W : World), Calls Tryz.prog 39 #[.agg #[.int .u8 (x.k : Int), .int .u8 (x.o : Int), .int .u8 (x.t : Int), .int .i32 x.n, .string (strOf x.s), .slice C m' d'], .agg #[.int .u8 (y.k : Int), .int .u8 (y.o : Int), .int .u8 (y.t : Int), .int .i32 y.n, .string (strOf y.s), .slice D y.l.length d2]] W fun en w' => en = .returned (.bool (sameA x y)) ∧ Below W.heap.size W w') := Lib.hid fun D d2 W => sameAlone_any x y C D m' y.l.length d' d2 W hml rfl
        have HSet : Hid (∀ (X : World) (Q : Nat) (K1 K2 : List (List Ex)), p2 + 1 ≤ Q → SmW w X p1 p2 N Q #[.int .u8 (x.k : Int), .int .u8 (x.o : Int), .int .u8 (x.t : Int), .int .i32 x.n, .string (strOf x.s), .slice C m' d'] K1 K2 → (X.cell? ⟨Q, 0, none⟩ = some (.int .u8 (x.k : Int)) ∧ X.cell? ⟨Q, 1, none⟩ = some (.int .u8 (x.o : Int)) ∧ X.cell? ⟨Q, 2, none⟩ = some (.int .u8 (x.t : Int)) ∧ X.cell? ⟨Q, 3, none⟩ = some (.int .i32 x.n) ∧ X.cell? ⟨Q, 4, none⟩ = some (.string (strOf x.s)) ∧ X.cell? ⟨Q, 5, none⟩ = some (.slice C m' d')) ∧ (X.frozen? ⟨Q, 0, none⟩ = false ∧ X.frozen? ⟨Q, 1, none⟩ = false ∧ X.frozen? ⟨Q, 2, none⟩ = false ∧ X.frozen? ⟨Q, 3, none⟩ = false ∧ X.frozen? ⟨Q, 4, none⟩ = false ∧ X.frozen? ⟨Q, 5, none⟩ = false)
            ∧ Hid (∀ v0 v1 v2 v3 v4 v5, SmW w (set6 X Q v0 v1 v2 v3 v4 v5) p1 p2 N Q #[v0, v1, v2, v3, v4, v5] K1 K2)) := Lib.hid fun X Q K1 K2 hQ h => ⟨box6 h.box, box6f h.box, Lib.hid fun v0 v1 v2 v3 v4 v5 => h.set hNl.out.1 hNl.out.2 hQ v0 v1 v2 v3 v4 v5⟩
        have HLt : Hid (∀ (X : World) (Q : Nat) (cs : Array Value) (K1 K2 : List (List Ex)), SmW w X p1 p2 N Q cs K1 K2 → p2 + 1 ≤ X.heap.size) := Lib.hid fun X Q cs K1 K2 h => h.st.lt
        clear H hgk hno hyes hL1 hml
        cases hs : sameA x y with
        | false =>
          have HE := Lib.hid (HNo.out hs)
          rw [hs] at CA
          clear hs
          go_wp2_with (first
            | (go_at_call 38; (with_reducible refine (C2.out).mono ?_); clear C2; rintro en3 X3 ⟨D, d2, rfl, h, kp⟩; have H3 := Lib.hid ((SmW.mk h (kp _ _ _ HH.out.box (by decide) (by decide))).below (bal (b0 X3) (.cells #[.int .u8 (y.k : Int), .int .u8 (y.o : Int), .int .u8 (y.t : Int), .int .i32 y.n, .string (strOf y.s), .slice D y.l.length d2] 27))); clear h kp; obtain ⟨x0, x1, x2, x3, x4, x5⟩ := box6 H3.out.box)
            | (go_at_call 39; (with_reducible refine (CA.out _ _ _).mono ?_); rintro en4 X4 ⟨rfl, b⟩; have H4 := Lib.hid (H3.out.below b); clear b))
          go_ret
          exact ⟨ret_b (decide_eq_false HE.out).symm, H4.out.st.bel⟩
        | true =>
          have HI3 := Lib.hid (HI2.out hs)
          rw [hs] at CA
          clear hs HI2 HNo
          rcases HW.out with rfl | ⟨T', x2', r', rfl⟩
          · go_wp2_with (first
              | (go_at_call 38; (with_reducible refine (C2.out).mono ?_); clear C2; rintro en3 X3 ⟨D, d2, rfl, h, kp⟩; have H3 := Lib.hid ((SmW.mk h (kp _ _ _ HH.out.box (by decide) (by decide))).below (bal (b0 X3) (.cells #[.int .u8 (y.k : Int), .int .u8 (y.o : Int), .int .u8 (y.t : Int), .int .i32 y.n, .string (strOf y.s), .slice D y.l.length d2] 27))); clear h kp; obtain ⟨x0, x1, x2, x3, x4, x5⟩ := box6 H3.out.box)
              | (go_at_call 39; (with_reducible refine (CA.out _ _ _).mono ?_); rintro en4 X4 ⟨rfl, b⟩; have H4 := Lib.hid (H3.out.below b); clear b x0 x1 x2 x3 x4 x5; obtain ⟨x0, x1, x2, x3, x4, x5⟩ := box6 H4.out.box; have hlt := HLt.out _ _ _ _ _ H4.out; have H5 := Lib.hid (SmW.cop (cs' := #[.int .u8 (x.k : Int), .int .u8 (x.o : Int), .int .u8 (x.t : Int), .int .i32 x.n, .string (strOf x.s), .slice C m' d']) H4.out); have C5 := Lib.hid (H5.out.st.nextN))
              | (go_at_call 38; (with_reducible refine (C5.out).mono ?_); clear C5; rintro en6 X6 ⟨rfl, h, kp⟩; have H6 := Lib.hid (SmW.mk h (kp _ _ _ H5.out.box (by decide) (by decide))); clear h kp; obtain ⟨⟨y0, y1, y2, y3, y4, y5⟩, ⟨f0, f1, f2, f3, f4, f5⟩, KF⟩ := HSet.out _ _ _ _ hlt H6.out))
            have KQ := Lib.hid (KF.out (.int .u8 0) (.int .u8 0) (.int .u8 0) (.int .i32 0) (.string ⟨#[]⟩) (.slice none 0 0))
            unfold set6 at KQ
            clear KF y0 y1 y2 y3 y4 y5 f0 f1 f2 f3 f4 f5
            generalize (((((X6.setCell ⟨X4.heap.size, 0, none⟩ (.int .u8 0)).setCell ⟨X4.heap.size, 1, none⟩ (.int .u8 0)).setCell ⟨X4.heap.size, 2, none⟩ (.int .u8 0)).setCell ⟨X4.heap.size, 3, none⟩ (.int .i32 0)).setCell ⟨X4.heap.size, 4, none⟩ (.string ⟨#[]⟩)).setCell ⟨X4.heap.size, 5, none⟩ (.slice none 0 0) = X7 at *
            go_roundg 0
            case rel => exact ⟨X4.heap.size, 0, 0, false, L10.e0, none, [], [], _, rfl, rfl, rfl, Lib.hid ⟨KQ.out, HI3.out, (fun h => by cases h), (fun _ => ⟨rfl, rfl⟩)⟩⟩
            case measure => have := HG.out; omega
          · have hb1 := HSz.out
            go_wp2_with (first
              | (go_at_call 38; (with_reducible refine (C2.out).mono ?_); clear C2; rintro en3 X3 ⟨D, d2, rfl, h, kp⟩; have H3 := Lib.hid ((SmW.mk h (kp _ _ _ HH.out.box (by decide) (by decide))).below (bal (b0 X3) (.cells #[.int .u8 (y.k : Int), .int .u8 (y.o : Int), .int .u8 (y.t : Int), .int .i32 y.n, .string (strOf y.s), .slice D y.l.length d2] 27))); clear h kp; obtain ⟨x0, x1, x2, x3, x4, x5⟩ := box6 H3.out.box)
              | (go_at_call 39; (with_reducible refine (CA.out _ _ _).mono ?_); rintro en4 X4 ⟨rfl, b⟩; have H4 := Lib.hid (H3.out.below b); clear b x0 x1 x2 x3 x4 x5; obtain ⟨x0, x1, x2, x3, x4, x5⟩ := box6 H4.out.box; have hlt := HLt.out _ _ _ _ _ H4.out; have H5 := Lib.hid (SmW.cop (cs' := #[.int .u8 (x.k : Int), .int .u8 (x.o : Int), .int .u8 (x.t : Int), .int .i32 x.n, .string (strOf x.s), .slice C m' d']) H4.out); have C5 := Lib.hid (H5.out.st.nextS hb1))
              | (go_at_call 38; (with_reducible refine (C5.out).mono ?_); clear C5; rintro en6 X6 ⟨C3, d3, rfl, h, kp⟩; have H6 := Lib.hid (SmW.mk h (kp _ _ _ H5.out.box (by decide) (by decide))); clear h kp; obtain ⟨⟨y0, y1, y2, y3, y4, y5⟩, ⟨f0, f1, f2, f3, f4, f5⟩, KF⟩ := HSet.out _ _ _ _ hlt H6.out))
            have KQ := Lib.hid (KF.out (.int .u8 (x2'.k : Int)) (.int .u8 (x2'.o : Int)) (.int .u8 (x2'.t : Int)) (.int .i32 x2'.n) (.string (strOf x2'.s)) (.slice C3 x2'.l.length d3))
            unfold set6 at KQ
            clear KF y0 y1 y2 y3 y4 y5 f0 f1 f2 f3 f4 f5
            generalize (((((X6.setCell ⟨X4.heap.size, 0, none⟩ (.int .u8 (x2'.k : Int))).setCell ⟨X4.heap.size, 1, none⟩ (.int .u8 (x2'.o : Int))).setCell ⟨X4.heap.size, 2, none⟩ (.int .u8 (x2'.t : Int))).setCell ⟨X4.heap.size, 3, none⟩ (.int .i32 x2'.n)).setCell ⟨X4.heap.size, 4, none⟩ (.string (strOf x2'.s))).setCell ⟨X4.heap.size, 5, none⟩ (.slice C3 x2'.l.length d3) = X7 at *
            go_roundg (totS (T' ++ [x2' :: r']))
            case rel => exact ⟨X4.heap.size, x2'.l.length, d3, true, x2', C3, _, _, _, rfl, rfl, rfl, Lib.hid ⟨KQ.out, HI3.out, (fun _ => ⟨⟨T', r', rfl, rfl⟩, rfl⟩), (fun h => by cases h)⟩⟩
            case measure => have := HG.out; omega)
end Go.Proofs.YtplcmcealeeppaaGreatDoor
/- The program's contracts by one name. -/
set_option linter.unusedVariables false
set_option linter.unusedSimpArgs false
namespace Go.Proofs.YtplcmcealeeppaaGreatDoor
open Go Go.RowKit L8 L10

theorem pc : Pc where
  may := fun e A n c w R hn ok ht => PMayX_any e A n c w R hn ok ht
  size := fun e A n c w R hn ok hs _ => PSizeX_any e A n c w R hn ok hs
  names := fun e A n c w R hn ok hs _ => PNamesX_any e A n c w R hn ok hs
  same := fun e f A B n m c d w R hn oke Q hm okf hse hsf => PSameX_any e f A B n m c d w R hn oke Q hm okf hse hsf
  word := fun o ho w ht => PWord_any o ho w ht
  toks := fun e A n c w R hn ok ht => PToksX_any e A n c w R hn ok ht
  front := fun l A m c w R hm hs ht => PFront_any l A m c w R hm hs ht
end Go.Proofs.YtplcmcealeeppaaGreatDoor
