/- The laws' helpers: comes, fails. -/
import Derived.Test.YtimbiobonigdmaaGreatDoorM18
set_option linter.unusedVariables false
set_option linter.unusedSimpArgs false
set_option linter.unusedVariables false
set_option linter.unusedSimpArgs false
namespace Go.Proofs.YtimbiobonigdmaaGreatDoor
open Go Go.RowKit L8 L10 L14

theorem rtb {a b : Bool} (h : a = b) : Ending.returned (.bool a) = Ending.returned (.bool b) := by rw [h]
/-- What is needed to ask for the value of an expression in an environment. -/
structure Ask (w : World) (e : Ex) (A : Option Addr) (n c : Nat) (l : List Sp) (E : Option Addr) (k d : Nat) : Prop where
  tr : TrR w A c e.l
  hn : e.l.length = n
  ok : OKe e
  sp : SpR w E d l
  hk : l.length = k
  k6 : k ≤ 1000000
  t10 : T10 w
theorem Ask.keep {w X : World} {e : Ex} {A E : Option Addr} {n c k d : Nat} {l : List Sp} (h : Ask w e A n c l E k d) (b : Below w.heap.size w X) : Ask X e A n c l E k d := ⟨h.tr.keep b, h.hn, h.ok, h.sp.keep b, h.hk, h.k6, h.t10.below b⟩
theorem Ask.const {w : World} {e : Ex} {A E : Option Addr} {n c k d : Nat} {l : List Sp} (h : Ask w e A n c l E k d) : Calls Tryz.prog 7 #[exV e A n c, .slice E k d] w (CoR w (constX e l.reverse)) := const_any e A n c E k d l w h.tr h.hn h.ok h.sp h.hk h.k6 h.t10
theorem Ask.fold {w : World} {e : Ex} {A E : Option Addr} {n c k d : Nat} {l : List Sp} (h : Ask w e A n c l E k d) : Calls Tryz.prog 9 #[exV e A n c, .slice E k d] w (FoR w (foldX e l.reverse)) := fold_any e A n c E k d l w h.tr h.hn h.ok h.sp h.hk h.k6 h.t10
set_option maxRecDepth 100000 in
set_option maxHeartbeats 4000000 in
theorem comes_any {w : World} {e : Ex} {A E : Option Addr} {n c k d : Nat} {l : List Sp} (h : Ask w e A n c l E k d) (v : Int) : Calls Tryz.prog 17 #[exV e A n c, .slice E k d, .int .i32 v] w fun en w' => en = .returned (.bool (decide (constX e l.reverse = (v, 0)))) ∧ Below w.heap.size w w' := by
  have bA := bal (b0 w) (.cells (exC e A n c) 27)
  have C := Lib.hid (h.keep bA).const
  have HA := Lib.hid bA
  have HP := box6 (boxS_new w 27 (exC e A n c))
  clear h bA
  obtain ⟨u, f⟩ : ∃ r, constX e l.reverse = r := ⟨_, rfl⟩
  rw [f] at C ⊢
  clear f
  obtain ⟨u, f⟩ := u
  unfold CoR at C
  dsimp only [exV, exC] at *
  generalize strOf e.s = SE at *
  obtain ⟨p0, p1, p2, p3, p4, p5⟩ := HP
  by_cases hu : u = v
  · subst hu
    have HB := Lib.hid (show (f == 0) = decide ((u, f) = (u, 0)) by by_cases h : f = 0 <;> simp [h])
    go_enter Tryz.func17, Tryz.ntmps17
    go_wp2_with (go_at_call 7; (with_reducible refine (C.out).mono ?_); rintro e1 w1 ⟨rfl, b1⟩; have H1 := Lib.hid (blw HA.out b1); clear b1)
    go_ret
    exact ⟨rtb HB.out, H1.out⟩
  · have HB := Lib.hid (show false = decide ((u, f) = (v, 0)) by simp [hu])
    go_enter Tryz.func17, Tryz.ntmps17
    go_wp2_with (go_at_call 7; (with_reducible refine (C.out).mono ?_); rintro e1 w1 ⟨rfl, b1⟩; have H1 := Lib.hid (blw HA.out b1); clear b1)
    go_ret
    exact ⟨rtb HB.out, H1.out⟩
set_option maxRecDepth 100000 in
set_option maxHeartbeats 4000000 in
theorem fails_any {w : World} {e : Ex} {A E : Option Addr} {n c k d : Nat} {l : List Sp} (h : Ask w e A n c l E k d) : Calls Tryz.prog 18 #[exV e A n c, .slice E k d] w fun en w' => en = .returned (.bool (decide (constX e l.reverse = ((0 : Int), (140 : Int))))) ∧ Below w.heap.size w w' := by
  have bA := bal (b0 w) (.cells (exC e A n c) 27)
  have C := Lib.hid (h.keep bA).const
  have HA := Lib.hid bA
  have HP := box6 (boxS_new w 27 (exC e A n c))
  clear h bA
  obtain ⟨u, f⟩ : ∃ r, constX e l.reverse = r := ⟨_, rfl⟩
  rw [f] at C ⊢
  clear f
  obtain ⟨u, f⟩ := u
  unfold CoR at C
  dsimp only [exV, exC] at *
  generalize strOf e.s = SE at *
  obtain ⟨p0, p1, p2, p3, p4, p5⟩ := HP
  by_cases hu : u = 0
  · subst hu
    have HB := Lib.hid (show (f == 140) = decide (((0 : Int), f) = ((0 : Int), (140 : Int))) by by_cases h : f = 140 <;> simp [h])
    go_enter Tryz.func18, Tryz.ntmps18
    go_wp2_with (go_at_call 7; (with_reducible refine (C.out).mono ?_); rintro e1 w1 ⟨rfl, b1⟩; have H1 := Lib.hid (blw HA.out b1); clear b1)
    go_ret
    exact ⟨rtb HB.out, H1.out⟩
  · have HB := Lib.hid (show false = decide ((u, f) = ((0 : Int), (140 : Int))) by simp [hu])
    go_enter Tryz.func18, Tryz.ntmps18
    go_wp2_with (go_at_call 7; (with_reducible refine (C.out).mono ?_); rintro e1 w1 ⟨rfl, b1⟩; have H1 := Lib.hid (blw HA.out b1); clear b1)
    go_ret
    exact ⟨rtb HB.out, H1.out⟩
end Go.Proofs.YtimbiobonigdmaaGreatDoor
/- The laws' examples: awake. -/
set_option linter.unusedVariables false
set_option linter.unusedSimpArgs false
namespace Go.Proofs.YtimbiobonigdmaaGreatDoor
open Go Go.RowKit L8 L10 L14

/-- What a world further on knows of the first, and of what was built on the way. -/
structure S14 (w X : World) (P : World → Prop) : Prop where
  b : Below w.heap.size w X
  t : T10 X
  p : P X
  st : ∀ X Y : World, Below X.heap.size X Y → P X → P Y
theorem S14.step {w X Y : World} {P : World → Prop} (h : Hid (S14 w X P)) (b : Below X.heap.size X Y) : S14 w Y P := ⟨blw h.out.b b, h.out.t.below b, h.out.st X Y b h.out.p, h.out.st⟩
theorem S14.new {w : World} (t : T10 w) : S14 w w (fun _ => True) := ⟨b0 w, t, trivial, fun _ _ _ _ => trivial⟩
theorem S14.al {w X : World} {P : World → Prop} (o : Obj) (h : Hid (S14 w X P)) : Hid (S14 w (X.alloc o) P) := Lib.hid (S14.step h (bal (b0 X) o))
theorem S14.dr {w X : World} {P : World → Prop} (h : Hid (S14 w X P)) : Hid (S14 w X.drew P) := Lib.hid (S14.step h (bdrew (b0 X) 1))
theorem S14.add {w X : World} {P : World → Prop} (h : S14 w X P) (Q : World → Prop) (hq : Q X) (hs : ∀ X Y : World, Below X.heap.size X Y → Q X → Q Y) : S14 w X (fun X => P X ∧ Q X) := ⟨h.b, h.t, ⟨h.p, hq⟩, fun X Y b k => ⟨h.st X Y b k.1, hs X Y b k.2⟩⟩
theorem ap_is (o : Nat) (q a b u : Int) (z : Bool) (ha : -2147483648 ≤ a ∧ a ≤ 2147483647) (hb : -2147483648 ≤ b ∧ b ≤ 2147483647) (hq : (o : Int) = q) (h : (apO o a b).getD 0 = u ∧ (apO o a b).isSome = z) (w : World) :
    Calls Tryz.prog 12 #[.int .u8 q, .int .i32 a, .int .i32 b] w fun e w' => e = .returned (.tuple #[.int .i32 u, .bool z]) ∧ Below w.heap.size w w' := by
  have := Apply_any o a b ha hb w
  rw [hq] at this
  unfold ApR apR at this
  rw [h.1, h.2] at this
  exact this
theorem name_x (w : World) : Calls Tryz.prog 13 #[.string ⟨#[120]⟩] w (fun e w' => e = .returned (.agg #[.int .u8 4, .int .u8 0, .int .u8 0, .int .i32 0, .string ⟨#[120]⟩, .slice none 0 0]) ∧ Below w.heap.size w w') := name_any [120] w
theorem name_n (w : World) : Calls Tryz.prog 13 #[.string ⟨#[110]⟩] w (fun e w' => e = .returned (.agg #[.int .u8 4, .int .u8 0, .int .u8 0, .int .i32 0, .string ⟨#[110]⟩, .slice none 0 0]) ∧ Below w.heap.size w w') := name_any [110] w
theorem num_is (v : Int) (w : World) : Calls Tryz.prog 15 #[.int .i32 v] w (fun e w' => e = .returned (.agg #[.int .u8 1, .int .u8 0, .int .u8 0, .int .i32 v, .string ⟨#[]⟩, .slice none 0 0]) ∧ Below w.heap.size w w') := number_any v w
theorem two_is (o : Nat) (q : Int) (y z : Ex) (A B : Option Addr) (c d : Nat) (vy vz : Value) (hq : (o : Int) = q) (hy : exV y A y.l.length c = vy) (hz : exV z B z.l.length d = vz) (w : World) (Ry : TrR w A c y.l) (Rz : TrR w B d z.l) (oky : OKe y) (okz : OKe z) :
    Calls Tryz.prog 16 #[.int .u8 q, vy, vz] w fun e w' => ∃ A' c', e = .returned (.agg #[.int .u8 7, .int .u8 q, .int .u8 0, .int .i32 0, .string ⟨#[]⟩, .slice A' 2 c']) ∧ TrR w' A' c' [y, z] ∧ Below w.heap.size w w' := by
  have := two_any o y z A B _ _ c d w rfl rfl Ry Rz oky okz
  rw [hy, hz, hq] at this
  refine this.mono ?_
  rintro e w' ⟨A', c', rfl, h1, h2⟩
  refine ⟨A', c', ?_, h1, h2⟩
  subst hq
  rfl
theorem val_is (s : Bs) (S es : ByteArray) (e : Ex) (A : Option Addr) (n c : Nat) (k o t v : Int) (hs : strOf s = S) (h1 : (e.k : Int) = k) (h2 : (e.o : Int) = o) (h3 : (e.t : Int) = t) (h4 : e.n = v) (h5 : strOf e.s = es) (h6 : e.l.length = n) (w : World) (R : TrR w A c e.l) :
    Calls Tryz.prog 14 #[.string S, .agg #[.int .u8 k, .int .u8 o, .int .u8 t, .int .i32 v, .string es, .slice A n c]] w fun en w' => ∃ N d B f, en = .returned (.agg #[.int .u8 2, .int .u8 1, .int .i64 0, .int .u8 0, .string ⟨#[]⟩, .slice N 1 d, .int .u8 k, .int .u8 o, .int .u8 t, .int .i32 v, .string es, .slice B n f, .bool false, .slice none 0 0, .slice none 0 0, .slice none 0 0]) ∧ SS w' N d [s] ∧ TrR w' B f e.l ∧ Below w.heap.size w w' := by
  subst hs h1 h2 h3 h4 h5 h6
  exact val_any s e A _ c w rfl R
theorem dec_is (s : Bs) (S : ByteArray) (v : Int) (hs : strOf s = S) (w : World) :
    Calls Tryz.prog 19 #[.string S, .int .i64 v] w fun en w' => ∃ N d B f, en = .returned (.agg #[.int .u8 1, .int .u8 1, .int .i64 v, .int .u8 0, .string ⟨#[]⟩, .slice N 1 d, .int .u8 0, .int .u8 0, .int .u8 0, .int .i32 0, .string ⟨#[]⟩, .slice B 0 f, .bool false, .slice none 0 0, .slice none 0 0, .slice none 0 0]) ∧ SS w' N d [s] ∧ TrR w' B f [] ∧ Below w.heap.size w w' := by
  subst hs
  exact declared_any s v w
theorem nameE_ok {s : Bs} (h : s.length ≤ maxLen) : OKe (nameE s) := ⟨(by show 4 < 256; decide), (by show 0 < 256; decide), (by show 0 < 256; decide), by show (-2147483648 : Int) ≤ 0; decide, by show (0 : Int) ≤ 2147483647; decide, h⟩
theorem litE_ok {v : Int} (h : inW v) : OKe (litE 1 v) := ok_lit (by decide) h
theorem twoE_ok {o : Nat} {y z : Ex} (h : o < 256) : OKe (twoE o y z) := ⟨(by show 7 < 256; decide), h, (by show 0 < 256; decide), by show (-2147483648 : Int) ≤ 0; decide, by show (0 : Int) ≤ 2147483647; decide, by show 0 ≤ maxLen; omega⟩
theorem valS_ok {s : Bs} {e : Ex} (hs : s.length ≤ maxLen) (h : OKe e) : SpOk (valS s e) := ⟨(by show 2 < 256; decide), (by show 1 < 256; decide), by show (-9223372036854775808 : Int) ≤ 0; decide, by show (0 : Int) ≤ 9223372036854775807; decide, h, fun t ht => by rw [List.mem_singleton.1 ht]; exact hs⟩
def xB : Bs := [120]
def nB : Bs := [110]
def sqE : Ex := twoE 3 (nameE nB) (nameE nB)
def threeL : List Sp := [valS nB (litE 1 3)]
def addE : Ex := twoE 1 (nameE xB) sqE
def addF : Ex := twoE 1 (nameE xB) (litE 1 9)
theorem fold_add : foldX addE threeL.reverse = (addF, 0) := by decide +kernel
theorem const_sq : constX sqE threeL.reverse = (9, 0) := by decide +kernel
theorem const_x6 : constX (nameE xB) [valS xB (litE 1 5), valS xB (twoE 1 (nameE xB) (litE 1 1))].reverse = (6, 0) := by decide +kernel
theorem const_xd : constX (nameE xB) [valS xB (litE 1 5), decS xB 0].reverse = (0, 140) := by decide +kernel
theorem const_v7 : constX (.mk 9 0 0 0 [118] []) [decS [118] 7].reverse = (7, 0) := by decide +kernel
theorem const_10 : constX (twoE 4 (litE 1 1) (litE 1 0)) [].reverse = (0, 140) := by decide +kernel
def lit (k o n : Int) (s : ByteArray) (A : Option Addr) (m c : Nat) : Value := .agg #[.int .u8 k, .int .u8 o, .int .u8 0, .int .i32 n, .string s, .slice A m c]
theorem fd1 (X : World) (A E : Option Addr) (c : Nat) (R : TrR X A c addE.l) (S : SpR X E 1 threeL) (T : T10 X) : Calls Tryz.prog 9 #[.agg #[.int .u8 7, .int .u8 1, .int .u8 0, .int .i32 0, .string ⟨#[]⟩, .slice A 2 c], .slice E 1 1] X fun e w' => ∃ B d, e = .returned (.tuple #[.agg #[.int .u8 7, .int .u8 1, .int .u8 0, .int .i32 0, .string ⟨#[]⟩, .slice B 2 d], .int .i64 0]) ∧ TrR w' B d addF.l ∧ Below X.heap.size X w' := by
  have h := (Ask.mk (w := X) (e := addE) (A := A) (n := 2) (c := c) (l := threeL) (E := E) (k := 1) (d := 1) R rfl (twoE_ok (by decide)) S rfl (by omega) T).fold
  rw [fold_add] at h
  refine Calls.mono h ?_
  rintro e w' ⟨B, d, rfl, t, _, b⟩
  exact ⟨B, d, rfl, t.tr, b⟩
theorem cm_is {X : World} {e : Ex} {A E : Option Addr} {n c k d : Nat} {l : List Sp} (v : Int) (h : Ask X e A n c l E k d) (hv : constX e l.reverse = (v, 0)) : Calls Tryz.prog 17 #[exV e A n c, .slice E k d, .int .i32 v] X fun en w' => en = .returned (.bool true) ∧ Below X.heap.size X w' := by
  have := comes_any h v
  rw [hv, decide_eq_true rfl] at this
  exact this
theorem fl_is {X : World} {e : Ex} {A E : Option Addr} {n c k d : Nat} {l : List Sp} (h : Ask X e A n c l E k d) (hv : constX e l.reverse = (0, 140)) : Calls Tryz.prog 18 #[exV e A n c, .slice E k d] X fun en w' => en = .returned (.bool true) ∧ Below X.heap.size X w' := by
  have := fails_any h
  rw [hv, decide_eq_true rfl] at this
  exact this
theorem cm1 (X : World) (A E : Option Addr) (c : Nat) (R : TrR X A c sqE.l) (S : SpR X E 1 threeL) (T : T10 X) : Calls Tryz.prog 17 #[.agg #[.int .u8 7, .int .u8 3, .int .u8 0, .int .i32 0, .string ⟨#[]⟩, .slice A 2 c], .slice E 1 1, .int .i32 9] X fun en w' => en = .returned (.bool true) ∧ Below X.heap.size X w' := by
  have := cm_is 9 (Ask.mk (w := X) (e := sqE) (A := A) (n := 2) (c := c) (l := threeL) (E := E) (k := 1) (d := 1) R rfl (twoE_ok (by decide)) S rfl (by omega) T) const_sq
  exact this
theorem sm1 (X : World) (A B : Option Addr) (c d : Nat) (R : TrR X A c addF.l) (S : TrR X B d addF.l) : Calls Tryz.prog 11 #[.agg #[.int .u8 7, .int .u8 1, .int .u8 0, .int .i32 0, .string ⟨#[]⟩, .slice A 2 c], .agg #[.int .u8 7, .int .u8 1, .int .u8 0, .int .i32 0, .string ⟨#[]⟩, .slice B 2 d]] X fun en w' => en = .returned (.bool true) ∧ Below X.heap.size X w' := by
  have := RSameX_any addF addF A B 2 2 c d X R rfl S rfl
  rw [decide_eq_true rfl] at this
  exact this
theorem cm2 (X : World) (E : Option Addr) (S : SpR X E 2 [valS xB (litE 1 5), valS xB (twoE 1 (nameE xB) (litE 1 1))]) (T : T10 X) : Calls Tryz.prog 17 #[.agg #[.int .u8 4, .int .u8 0, .int .u8 0, .int .i32 0, .string ⟨#[120]⟩, .slice none 0 0], .slice E 2 2, .int .i32 6] X fun en w' => en = .returned (.bool true) ∧ Below X.heap.size X w' := by
  have := cm_is 6 (Ask.mk (w := X) (e := nameE xB) (A := none) (n := 0) (c := 0) (l := [valS xB (litE 1 5), valS xB (twoE 1 (nameE xB) (litE 1 1))]) (E := E) (k := 2) (d := 2) (TrR.nil X) rfl (nameE_ok (by decide)) S rfl (by omega) T) const_x6
  exact this
theorem fl1 (X : World) (E : Option Addr) (S : SpR X E 2 [valS xB (litE 1 5), decS xB 0]) (T : T10 X) : Calls Tryz.prog 18 #[.agg #[.int .u8 4, .int .u8 0, .int .u8 0, .int .i32 0, .string ⟨#[120]⟩, .slice none 0 0], .slice E 2 2] X fun en w' => en = .returned (.bool true) ∧ Below X.heap.size X w' := by
  have := fl_is (Ask.mk (w := X) (e := nameE xB) (A := none) (n := 0) (c := 0) (l := [valS xB (litE 1 5), decS xB 0]) (E := E) (k := 2) (d := 2) (TrR.nil X) rfl (nameE_ok (by decide)) S rfl (by omega) T) const_xd
  exact this
def vB : Bs := [118]
theorem cm3 (X : World) (E : Option Addr) (S : SpR X E 1 [decS vB 7]) (T : T10 X) : Calls Tryz.prog 17 #[.agg #[.int .u8 9, .int .u8 0, .int .u8 0, .int .i32 0, .string ⟨#[118]⟩, .slice none 0 0], .slice E 1 1, .int .i32 7] X fun en w' => en = .returned (.bool true) ∧ Below X.heap.size X w' := by
  have := cm_is 7 (Ask.mk (w := X) (e := .mk 9 0 0 0 vB []) (A := none) (n := 0) (c := 0) (l := [decS vB 7]) (E := E) (k := 1) (d := 1) (TrR.nil X) rfl ⟨(by show 9 < 256; decide), (by show 0 < 256; decide), (by show 0 < 256; decide), by show (-2147483648 : Int) ≤ 0; decide, by show (0 : Int) ≤ 2147483647; decide, by show 1 ≤ maxLen; decide⟩ S rfl (by omega) T) const_v7
  exact this
theorem fl2 (X : World) (A : Option Addr) (c : Nat) (R : TrR X A c (twoE 4 (litE 1 1) (litE 1 0)).l) (T : T10 X) : Calls Tryz.prog 18 #[.agg #[.int .u8 7, .int .u8 4, .int .u8 0, .int .i32 0, .string ⟨#[]⟩, .slice A 2 c], .slice none 0 0] X fun en w' => en = .returned (.bool true) ∧ Below X.heap.size X w' := by
  have := fl_is (Ask.mk (w := X) (e := twoE 4 (litE 1 1) (litE 1 0)) (A := A) (n := 2) (c := c) (l := []) (E := none) (k := 0) (d := 0) R rfl (twoE_ok (by decide)) (SpR.nil X) rfl (by omega) T) const_10
  exact this
theorem decS_ok {s : Bs} {d : Int} (hs : s.length ≤ maxLen) (h0 : -9223372036854775808 ≤ d) (h1 : d ≤ 9223372036854775807) : SpOk (decS s d) := ⟨(by show 1 < 256; decide), (by show 1 < 256; decide), h0, h1, ok_e0, fun t ht => by rw [List.mem_singleton.1 ht]; exact hs⟩
def sp2C (x y : Sp) (N : Option Addr) (c : Nat) (B : Option Addr) (d : Nat) (M : Option Addr) (e : Nat) (D : Option Addr) (f : Nat) : Array Value := #[.int .u8 (x.k : Int), .int .u8 (x.t : Int), .int .i64 x.d, .int .u8 0, .string ⟨#[]⟩, .slice N x.ns.length c, .int .u8 (x.e.k : Int), .int .u8 (x.e.o : Int), .int .u8 (x.e.t : Int), .int .i32 x.e.n, .string (strOf x.e.s), .slice B x.e.l.length d, .bool false, .slice none 0 0, .slice none 0 0, .slice none 0 0,
  .int .u8 (y.k : Int), .int .u8 (y.t : Int), .int .i64 y.d, .int .u8 0, .string ⟨#[]⟩, .slice M y.ns.length e, .int .u8 (y.e.k : Int), .int .u8 (y.e.o : Int), .int .u8 (y.e.t : Int), .int .i32 y.e.n, .string (strOf y.e.s), .slice D y.e.l.length f, .bool false, .slice none 0 0, .slice none 0 0, .slice none 0 0]
theorem sp2_lo (x y : Sp) (N : Option Addr) (c : Nat) (B : Option Addr) (d : Nat) (M : Option Addr) (e : Nat) (D : Option Addr) (f : Nat) : ∀ (i : Nat) (z : Value), (spC x N c B d)[i]? = some z → (sp2C x y N c B d M e D f)[i]? = some z := fun i z hz => match i, hz with
  | 0, hz => hz
  | 1, hz => hz
  | 2, hz => hz
  | 3, hz => hz
  | 4, hz => hz
  | 5, hz => hz
  | 6, hz => hz
  | 7, hz => hz
  | 8, hz => hz
  | 9, hz => hz
  | 10, hz => hz
  | 11, hz => hz
  | 12, hz => hz
  | 13, hz => hz
  | 14, hz => hz
  | 15, hz => hz
  | i + 16, hz => by
    have := (Array.getElem?_eq_some_iff.1 hz).1
    have hs : (spC x N c B d).size = 16 := rfl
    omega
theorem sp2_hi (x y : Sp) (N : Option Addr) (c : Nat) (B : Option Addr) (d : Nat) (M : Option Addr) (e : Nat) (D : Option Addr) (f : Nat) : ∀ (i : Nat) (z : Value), (spC y M e D f)[i]? = some z → (sp2C x y N c B d M e D f)[16 + i]? = some z := fun i z hz => match i, hz with
  | 0, hz => hz
  | 1, hz => hz
  | 2, hz => hz
  | 3, hz => hz
  | 4, hz => hz
  | 5, hz => hz
  | 6, hz => hz
  | 7, hz => hz
  | 8, hz => hz
  | 9, hz => hz
  | 10, hz => hz
  | 11, hz => hz
  | 12, hz => hz
  | 13, hz => hz
  | 14, hz => hz
  | 15, hz => hz
  | i + 16, hz => by
    have := (Array.getElem?_eq_some_iff.1 hz).1
    have hs : (spC y M e D f).size = 16 := rfl
    omega
theorem SpR.pair {W : World} {q : Nat} {t : TypeId} {x y : Sp} {N B M D : Option Addr} {c d e f : Nat} (h : BoxS W q t (sp2C x y N c B d M e D f)) (v : SpV W x N c B d) (u : SpV W y M e D f) : SpR W (some ⟨q, 0, none⟩) 2 [x, y] := ⟨Nat.le_refl _, by simp [maxLen], fun j hj => by
  have hj : j < 2 := hj
  rcases (show j = 0 ∨ j = 1 by omega) with rfl | rfl
  · exact ⟨_, rfl, spc_at (o := 0) (fun i z hz => by rw [Nat.zero_add]; exact (h.cell i).trans (sp2_lo x y N c B d M e D f i z hz)) v⟩
  · exact ⟨_, rfl, spc_at (o := 16) (fun i z hz => (h.cell (16 + i)).trans (sp2_hi x y N c B d M e D f i z hz)) u⟩⟩
end Go.Proofs.YtimbiobonigdmaaGreatDoor
