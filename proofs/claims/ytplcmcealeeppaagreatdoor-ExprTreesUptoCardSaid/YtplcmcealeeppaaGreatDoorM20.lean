/- The laws' examples. -/
import Derived.Deep.RegionLaw
import Derived.Deep.CutRange
import Derived.Test.YtplcmcealeeppaaGreatDoorM06
import Derived.Test.YtplcmcealeeppaaGreatDoorM18
import Derived.Test.YtplcmcealeeppaaGreatDoorExg
import Derived.Test.YtplcmcealeeppaaGreatDoorM19
set_option linter.unusedVariables false
set_option linter.unusedSimpArgs false
set_option linter.unusedVariables false
set_option linter.unusedSimpArgs false
namespace Go.Proofs.YtplcmcealeeppaaGreatDoor
open Go Go.RowKit L8 L10

theorem S10.of {w X : World} (h1 : W1.Tab w) (h2 : T10 w) (b : Below w.heap.size w X) : S10 w X := ⟨b, h1.below b, h2.below b⟩
def exZ : Array Value := #[.int .u8 0, .int .u8 0, .int .u8 0, .int .i32 0, .string ⟨#[]⟩, .slice none 0 0]
theorem own_k0 {e : Ex} (h : ownE e = true) : e.k ≠ 0 := by
  intro hk
  unfold ownE fineE at h
  rw [hk] at h
  simp at h
/-- A tree of valid parts does not lie in an empty box. -/
theorem TrR.apart {X : World} {K : Nat} {t : TypeId} (hb : BoxS X K t exZ) {A : Option Addr} {c : Nat} {l : List Ex} (h : TrR X A c l) : allL l = true → TrN X (fun k => k ≠ K) A c l := by
  induction h with
  | @mk A c l As cs le mx ok row sub ih =>
    intro ha
    have hj : ∀ j, j < l.length → allE (l.getD j e0) = true := fun j hj => (allL_iff l).1 ha _ (getD_memE hj)
    refine .mk As cs le mx ok (fun j hjl => ?_) (fun j hjl => ih j hjl (by have := hj j hjl; rw [allE_eq, Bool.and_eq_true] at this; exact this.2))
    obtain ⟨ad, e, h⟩ := row j hjl
    refine ⟨ad, e, fun hK => ?_, h⟩
    have h0 := h.1
    have hk := own_k0 (all_own (hj j hjl))
    have hbl : (ad.add (j * 6)).block = K := by rw [add_block]; exact hK
    have hh : X.heap[(ad.add (j * 6)).block]? = some (.cells exZ t (0, 0)) := by rw [hbl]; exact hb
    simp only [World.cell?, hh] at h0
    generalize (ad.add (j * 6)).off = o at h0
    generalize (ad.add (j * 6)).spot.isSome = bs at h0
    cases bs
    case true => simp at h0
    simp only [Bool.false_eq_true, if_false] at h0
    have key : ∀ (o : Nat) (v : Value), exZ[o]? = some v → ∀ k : Nat, k ≠ 0 → v ≠ .int .u8 (k : Int) := by
      intro o v hv k hk e
      subst e
      unfold exZ at hv
      match o, hv with
      | 0, hv => simp at hv; omega
      | 1, hv => simp at hv; omega
      | 2, hv => simp at hv; omega
      | 3, hv => simp at hv
      | 4, hv => simp at hv
      | 5, hv => simp at hv
      | o + 6, hv => simp at hv
    exact key o _ h0 _ hk rfl
/-- A world in which a tree lies in the box K. -/
structure PS (w X : World) (e : Ex) (n K : Nat) : Prop where
  s : S10 w X
  b : ∃ A c, BoxS X K 27 (exC e A n c) ∧ TrR X A c e.l
theorem PS.step {w X Y : World} {e : Ex} {n K : Nat} (h : PS w X e n K) (b : Below X.heap.size X Y) : PS w Y e n K := ⟨h.s.step b, h.b.elim fun A h => h.elim fun c h => ⟨A, c, h.1.below b, h.2.keep b⟩⟩
/-- A tree stored into a box that was empty. -/
theorem PS.set {w X : World} {e : Ex} {A : Option Addr} {n c K : Nat} (h1 : W1.Tab w) (h2 : T10 w) (b : Below w.heap.size w X) (hK : w.heap.size ≤ K) (hb : BoxS X K 27 exZ) (R : TrR X A c e.l) (ha : allL e.l = true) :
    PS w (set6 X K (.int .u8 (e.k : Int)) (.int .u8 (e.o : Int)) (.int .u8 (e.t : Int)) (.int .i32 e.n) (.string (strOf e.s)) (.slice A n c)) e n K :=
  ⟨S10.of h1 h2 (bset6 b hK _ _ _ _ _ _), A, c, box6_all _ _ _ _ _ _ hb, ((R.apart hb ha).fr (fr_set6 X K _ _ _ _ _ _) (fun k _ hk e => hk e)).tr⟩
/-- A tree in a new box. -/
theorem PS.new {w X : World} {e : Ex} {A : Option Addr} {n c : Nat} (h1 : W1.Tab w) (h2 : T10 w) (b : Below w.heap.size w X) (R : TrR X A c e.l) : PS w (X.alloc (.cells (exC e A n c) 27)) e n X.heap.size := ⟨S10.of h1 h2 (bal b _), A, c, boxS_new X _ _, R.keep (bal (b0 X) _)⟩
def aE : Ex := .mk 4 0 0 0 [97] []
def bE : Ex := .mk 4 0 0 0 [98] []
def iE : Ex := .mk 4 0 0 0 [105] []
def oE : Ex := .mk 1 0 0 1 [] []
theorem ok_sm {e : Ex} (hk : e.k < 256) (ho : e.o < 256) (ht : e.t < 256) (h0 : -2147483648 ≤ e.n) (h1 : e.n ≤ 2147483647) (hs : e.s.length ≤ 100) : OKe e := ⟨hk, ho, ht, h0, h1, by unfold maxLen; omega⟩
theorem ok_a : OKe aE ∧ OKe bE ∧ OKe iE ∧ OKe oE := ⟨ok_sm (by decide) (by decide) (by decide) (by decide) (by decide) (by decide), ok_sm (by decide) (by decide) (by decide) (by decide) (by decide) (by decide), ok_sm (by decide) (by decide) (by decide) (by decide) (by decide) (by decide), ok_sm (by decide) (by decide) (by decide) (by decide) (by decide) (by decide)⟩
theorem may_al {e : Ex} (h : mayE e = true) : allE e = true := by
  unfold mayE at h
  simp only [Bool.and_eq_true] at h
  exact h.1
theorem prod_toks {w X : World} {A : Option Addr} {c : Nat} (h : S10 w X) (t : TrR X A c prodE.l) : Calls Tryz.prog 22 #[.agg #[.int .u8 7, .int .u8 3, .int .u8 0, .int .i32 0, .string ⟨#[]⟩, .slice A 2 c]] X fun en w' => ∃ B d, en = .returned (.tuple #[.slice B 10 d, .int .i64 0]) ∧ RR w' B d (tkE prodE) ∧ Below X.heap.size X w' := by
  have he : toksX prodE = (tkE prodE, 0) := by unfold toksX; rw [if_pos prod_may.1]
  have := pc.toks prodE A 2 c X t rfl (ok_sm (by decide) (by decide) (by decide) (by decide) (by decide) (by decide)) h.t10
  rw [he] at this
  dsimp only at this
  rw [prod_may.2.2.1] at this
  have hok : OKL (tkE prodE) := fun x hx => may_okx ((tk_tm prodE (may_al prod_may.1) (by decide +kernel)) x hx).1 ((tk_tm prodE (may_al prod_may.1) (by decide +kernel)) x hx).2.2
  exact this.mono fun en w' ⟨B, d, h1, h2, h3⟩ => ⟨B, d, h1, h2.rr hok, h3⟩
theorem prod_size {w X : World} {A : Option Addr} {c : Nat} (h : S10 w X) (t : TrR X A c prodE.l) : Calls Tryz.prog 14 #[.agg #[.int .u8 7, .int .u8 3, .int .u8 0, .int .i32 0, .string ⟨#[]⟩, .slice A 2 c]] X fun en w' => en = .returned (.int .i64 6) ∧ Below X.heap.size X w' := by
  have := pc.size prodE A 2 c X t rfl (ok_sm (by decide) (by decide) (by decide) (by decide) (by decide) (by decide)) (by rw [prod_may.2.1]; decide) h.t10
  rwa [prod_may.2.1] at this
theorem reads_of {w X : World} (h : S10 w X) {line : Bs} {want : Ex} {k : Nat} (hl : line.length ≤ 100) (hx : ∃ L, L.length ≤ 100 ∧ tokens line = (L, 0, 0) ∧ frontX L = (want, k, 0)) {A : Option Addr} {n c : Nat} (R : TrR X A c want.l) (hn : want.l.length = n) (ok : OKe want) : Calls Tryz.prog 30 #[.string (strOf line), exV want A n c, .int .i64 (k : Int)] X fun en w' => en = .returned (.bool true) ∧ Below X.heap.size X w' := by
  obtain ⟨L, h1, h2, h3⟩ := hx
  exact reads_any pc line (by unfold maxLen; omega) h2 (by omega) want A n c h3 X h.tab h.t10 R hn ok
theorem fails_of {w X : World} (h : S10 w X) {line : Bs} {er : Int} (hl : line.length ≤ 100) (hx : ∃ L, L.length ≤ 100 ∧ tokens line = (L, 0, 0) ∧ frontX L = (e0, 0, er)) : Calls Tryz.prog 33 #[.string (strOf line), .int .i64 er] X fun en w' => en = .returned (.bool true) ∧ Below X.heap.size X w' := by
  obtain ⟨L, h1, h2, h3⟩ := hx
  exact fails_any pc line (by unfold maxLen; omega) h2 (by omega) h3 X h.tab h.t10
theorem reads_xa {w X : World} {q : Nat} (h : S10 w X) (t : TrR X (some ⟨q, 0, none⟩) 2 [aE, bE]) : Calls Tryz.prog 30 #[.string ⟨#[97, 32, 45, 32, 98, 32, 45, 32, 99]⟩, .agg #[.int .u8 7, .int .u8 2, .int .u8 0, .int .i32 0, .string ⟨#[]⟩, .slice (some ⟨q, 0, none⟩) 2 2], .int .i64 3] X fun en w' => en = .returned (.bool true) ∧ Below X.heap.size X w' :=
  reads_of h (line := [97, 32, 45, 32, 98, 32, 45, 32, 99]) (by decide) xa (n := 2) t rfl (ok_sm (by decide) (by decide) (by decide) (by decide) (by decide) (by decide))
theorem reads_xb {w X : World} (h : S10 w X) : Calls Tryz.prog 30 #[.string ⟨#[40, 40, 97, 41, 41]⟩, .agg #[.int .u8 4, .int .u8 0, .int .u8 0, .int .i32 0, .string ⟨#[97]⟩, .slice none 0 0], .int .i64 5] X fun en w' => en = .returned (.bool true) ∧ Below X.heap.size X w' :=
  reads_of h (line := [40, 40, 97, 41, 41]) (by decide) xb (A := none) (n := 0) (c := 0) (TrR.nil X) rfl (ok_sm (by decide) (by decide) (by decide) (by decide) (by decide) (by decide))
theorem fails_y0 {w X : World} (h : S10 w X) : Calls Tryz.prog 33 #[.string ⟨#[97, 32, 43, 32, 41]⟩, .int .i64 100] X fun en w' => en = .returned (.bool true) ∧ Below X.heap.size X w' := fails_of h (line := [97, 32, 43, 32, 41]) (by decide) y0
set_option maxRecDepth 100000 in
set_option maxHeartbeats 16000000 in
theorem works_any (w : World) (hT : W1.Tab w) (h10 : T10 w) : Calls Tryz.prog 21 #[] w fun en w' => en = .returned (.bool true) ∧ Below w.heap.size w w' := by
  have HT0 := Lib.hid (And.intro hT h10)
  have HV : Hid (Below w.heap.size w (w.alloc (.cells #[.int .u8 1, .int .u8 0, .int .u8 0, .int .i32 1, .string ⟨#[]⟩, .slice none 0 0] 27)) ∧ BoxS (w.alloc (.cells #[.int .u8 1, .int .u8 0, .int .u8 0, .int .i32 1, .string ⟨#[]⟩, .slice none 0 0] 27)) w.heap.size 27 #[.int .u8 1, .int .u8 0, .int .u8 0, .int .i32 1, .string ⟨#[]⟩, .slice none 0 0]) := Lib.hid ⟨bal (b0 w) _, boxS_new w _ _⟩
  have CN := Lib.hid (fun (s : ByteArray) (W : World) => name_any s W)
  have CT1 : Hid (∀ (X : World), Calls Tryz.prog 32 #[.int .u8 1, .agg #[.int .u8 4, .int .u8 0, .int .u8 0, .int .i32 0, .string ⟨#[97]⟩, .slice none 0 0], .agg #[.int .u8 1, .int .u8 0, .int .u8 0, .int .i32 1, .string ⟨#[]⟩, .slice none 0 0]] X fun en w' => ∃ q, en = .returned (.agg #[.int .u8 7, .int .u8 1, .int .u8 0, .int .i32 0, .string ⟨#[]⟩, .slice (some ⟨q, 0, none⟩) 2 2]) ∧ TrR w' (some ⟨q, 0, none⟩) 2 [aE, oE] ∧ Below X.heap.size X w') := Lib.hid fun X => two_any 1 aE oE none none 0 0 0 0 X (TrR.nil X) rfl ok_a.1 (TrR.nil X) rfl ok_a.2.2.2
  have CT2 : Hid (∀ (X : World) (q r : Nat), TrR X (some ⟨q, 0, none⟩) 2 [aE, oE] → TrR X (some ⟨r, 0, none⟩) 1 [iE] → Calls Tryz.prog 32 #[.int .u8 3, .agg #[.int .u8 7, .int .u8 1, .int .u8 0, .int .i32 0, .string ⟨#[]⟩, .slice (some ⟨q, 0, none⟩) 2 2], .agg #[.int .u8 5, .int .u8 0, .int .u8 0, .int .i32 0, .string ⟨#[118]⟩, .slice (some ⟨r, 0, none⟩) 1 1]] X fun en w' => ∃ q, en = .returned (.agg #[.int .u8 7, .int .u8 3, .int .u8 0, .int .i32 0, .string ⟨#[]⟩, .slice (some ⟨q, 0, none⟩) 2 2]) ∧ TrR w' (some ⟨q, 0, none⟩) 2 [.mk 7 1 0 0 [] [aE, oE], .mk 5 0 0 0 [118] [iE]] ∧ Below X.heap.size X w') := Lib.hid fun X q r R S => two_any 3 (.mk 7 1 0 0 [] [aE, oE]) (.mk 5 0 0 0 [118] [iE]) (some ⟨q, 0, none⟩) (some ⟨r, 0, none⟩) 2 1 2 1 X R rfl (ok_sm (by decide) (by decide) (by decide) (by decide) (by decide) (by decide)) S rfl (ok_sm (by decide) (by decide) (by decide) (by decide) (by decide) (by decide))
  have CT3 : Hid (∀ (X : World), Calls Tryz.prog 32 #[.int .u8 2, .agg #[.int .u8 4, .int .u8 0, .int .u8 0, .int .i32 0, .string ⟨#[97]⟩, .slice none 0 0], .agg #[.int .u8 4, .int .u8 0, .int .u8 0, .int .i32 0, .string ⟨#[98]⟩, .slice none 0 0]] X fun en w' => ∃ q, en = .returned (.agg #[.int .u8 7, .int .u8 2, .int .u8 0, .int .i32 0, .string ⟨#[]⟩, .slice (some ⟨q, 0, none⟩) 2 2]) ∧ TrR w' (some ⟨q, 0, none⟩) 2 [aE, bE] ∧ Below X.heap.size X w') := Lib.hid fun X => two_any 2 aE bE none none 0 0 0 0 X (TrR.nil X) rfl ok_a.1 (TrR.nil X) rfl ok_a.2.1
  have HI : Hid (∀ (X : World) (q : Nat), TrR X (some ⟨q, 0, none⟩) 2 [aE, oE] → TrR (X.alloc (.cells #[.int .u8 4, .int .u8 0, .int .u8 0, .int .i32 0, .string ⟨#[105]⟩, .slice none 0 0] 27)) (some ⟨q, 0, none⟩) 2 [aE, oE] ∧ TrR (X.alloc (.cells #[.int .u8 4, .int .u8 0, .int .u8 0, .int .i32 0, .string ⟨#[105]⟩, .slice none 0 0] 27)) (some ⟨X.heap.size, 0, none⟩) 1 [iE]) := Lib.hid fun X q R => ⟨R.keep (bal (b0 X) _), TrR.one (y := iE) (A := none) (c := 0) (boxS_new X _ _) (TrR.nil _) ok_a.2.2.1⟩
  have HS : Hid (∀ (X : World) (q K : Nat), Below w.heap.size w X → w.heap.size ≤ K → BoxS X K 27 exZ → TrR X (some ⟨q, 0, none⟩) 2 [.mk 7 1 0 0 [] [aE, oE], .mk 5 0 0 0 [118] [iE]] → PS w ((((((X.setCell ⟨K, 0, none⟩ (.int .u8 7)).setCell ⟨K, 1, none⟩ (.int .u8 3)).setCell ⟨K, 2, none⟩ (.int .u8 0)).setCell ⟨K, 3, none⟩ (.int .i32 0)).setCell ⟨K, 4, none⟩ (.string ⟨#[]⟩)).setCell ⟨K, 5, none⟩ (.slice (some ⟨q, 0, none⟩) 2 2)) prodE 2 K) := Lib.hid fun X q K b hK hb R => PS.set (e := prodE) hT h10 b hK hb R (by decide +kernel)
  have HN : Hid (∀ (X : World) (q : Nat), Below w.heap.size w X → TrR X (some ⟨q, 0, none⟩) 2 [.mk 7 1 0 0 [] [aE, oE], .mk 5 0 0 0 [118] [iE]] → PS w (X.alloc (.cells #[.int .u8 7, .int .u8 3, .int .u8 0, .int .i32 0, .string ⟨#[]⟩, .slice (some ⟨q, 0, none⟩) 2 2] 27)) prodE 2 X.heap.size) := Lib.hid fun X q b R => PS.new (e := prodE) hT h10 b R
  clear hT h10
  go_enter Tryz.func21, Tryz.ntmps21
  go_upto_region 2 with fail
  go_cut [2] from 8 to 14 (fun t wx => ∃ K, t = .pointer (some ⟨K, 0, none⟩) ∧ Hid (PS w wx prodE 2 K))
  case first =>
    clear CT3
    generalize w.alloc (.cells #[.int .u8 1, .int .u8 0, .int .u8 0, .int .i32 1, .string ⟨#[]⟩, .slice none 0 0] 27) = V at *
    have HD : Hid (Below w.heap.size w V.drew) := Lib.hid (bdrew HV.out.1 1)
    have HVb : BoxS V.drew w.heap.size 27 #[.int .u8 1, .int .u8 0, .int .u8 0, .int .i32 1, .string ⟨#[]⟩, .slice none 0 0] := HV.out.2.below (bdrew (b0 V) 1)
    obtain ⟨x0, x1, x2, x3, x4, x5⟩ := box6 HVb
    obtain ⟨w0, w1, w2, w3, w4, w5⟩ := box6 (show BoxS (V.alloc (.cells #[.int .u8 0, .int .u8 0, .int .u8 0, .int .i32 0, .string ⟨#[]⟩, .slice none 0 0] 27)).drew w.heap.size 27 #[.int .u8 1, .int .u8 0, .int .u8 0, .int .i32 1, .string ⟨#[]⟩, .slice none 0 0] from HVb.alloc _)
    have HX := Lib.hid HVb
    clear HVb
    go_region_law (first
      | (go_simp; go_at_call 31; (with_reducible refine (CN.out ⟨#[97]⟩ _).mono ?_); rintro e1 W1 ⟨rfl, b⟩; (first | (have H1 := Lib.hid (blw HD.out b); (try replace HZ := Lib.hid (HZ.out.below b)); replace HX := Lib.hid (HX.out.below b)) | (have H1 := Lib.hid (blw (bal HD.out (.cells #[.int .u8 0, .int .u8 0, .int .u8 0, .int .i32 0, .string ⟨#[]⟩, .slice none 0 0] 27)) b); have HZ : Hid (BoxS W1 V.heap.size 27 exZ) := Lib.hid ((boxS_new V.drew 27 exZ).below b); replace HX := Lib.hid ((HX.out.alloc (.cells #[.int .u8 0, .int .u8 0, .int .u8 0, .int .i32 0, .string ⟨#[]⟩, .slice none 0 0] 27)).below b))); clear b; obtain ⟨y10, y11, y12, y13, y14, y15⟩ := box6 HX.out; obtain ⟨v0, v1, v2, v3, v4, v5⟩ := box6 (HX.out.alloc (.cells #[.int .u8 0, .int .u8 0, .int .u8 0, .int .i32 0, .string ⟨#[]⟩, .slice none 0 0] 27)))
      | (go_simp; go_at_call 32; (with_reducible refine (CT1.out _).mono ?_); rintro e1 W2 ⟨q1, rfl, t, b⟩; (first | (have H2 := Lib.hid (blw H1.out b); (try replace HZ := Lib.hid (HZ.out.below b))) | (have H2 := Lib.hid (blw (bal H1.out (.cells #[.int .u8 0, .int .u8 0, .int .u8 0, .int .i32 0, .string ⟨#[]⟩, .slice none 0 0] 27)) b); have HZ : Hid (BoxS W2 W1.heap.size 27 exZ) := Lib.hid ((boxS_new W1 27 exZ).below b))); have T2 := Lib.hid t; clear b t)
      | (go_simp; go_at_call 31; (with_reducible refine (CN.out ⟨#[105]⟩ _).mono ?_); rintro e1 W3 ⟨rfl, b⟩; (first | (have H3 := Lib.hid (blw H2.out b); (try replace HZ := Lib.hid (HZ.out.below b)); have T3 := Lib.hid (T2.out.keep b)) | (have H3 := Lib.hid (blw (bal H2.out (.cells #[.int .u8 0, .int .u8 0, .int .u8 0, .int .i32 0, .string ⟨#[]⟩, .slice none 0 0] 27)) b); have HZ : Hid (BoxS W3 W2.heap.size 27 exZ) := Lib.hid ((boxS_new W2 27 exZ).below b); have T3 := Lib.hid ((T2.out.keep (bal (b0 W2) (.cells #[.int .u8 0, .int .u8 0, .int .u8 0, .int .i32 0, .string ⟨#[]⟩, .slice none 0 0] 27))).keep b))); clear b; have R3 := Lib.hid (HI.out W3 q1 T3.out); have R3b := Lib.hid (And.intro (R3.out.1.keep (bal (b0 _) (.cells #[.int .u8 0, .int .u8 0, .int .u8 0, .int .i32 0, .string ⟨#[]⟩, .slice none 0 0] 27))) (R3.out.2.keep (bal (b0 _) (.cells #[.int .u8 0, .int .u8 0, .int .u8 0, .int .i32 0, .string ⟨#[]⟩, .slice none 0 0] 27)))); have R3c := Lib.hid (by { have h := HI.out (W3.alloc (.cells #[.int .u8 0, .int .u8 0, .int .u8 0, .int .i32 0, .string ⟨#[]⟩, .slice none 0 0] 27)) q1 (T3.out.keep (bal (b0 W3) (.cells #[.int .u8 0, .int .u8 0, .int .u8 0, .int .i32 0, .string ⟨#[]⟩, .slice none 0 0] 27))); rw [World.size_alloc] at h; exact h }))
      | (go_simp; go_at_call 32; (with_reducible refine (CT2.out _ _ _ R3.out.1 R3.out.2).mono ?_); rintro e1 W4 ⟨q2, rfl, t, b⟩; have H4 := Lib.hid (blw (bal H3.out (.cells #[.int .u8 4, .int .u8 0, .int .u8 0, .int .i32 0, .string ⟨#[105]⟩, .slice none 0 0] 27)) b); (try replace HZ := Lib.hid ((HZ.out.alloc (.cells #[.int .u8 4, .int .u8 0, .int .u8 0, .int .i32 0, .string ⟨#[105]⟩, .slice none 0 0] 27)).below b)); have T4 := Lib.hid t; clear b t; (try (have HZc := HZ.out; obtain ⟨k0, k1, k2, k3, k4, k5⟩ := box6 (show BoxS W4 _ 27 #[.int .u8 0, .int .u8 0, .int .u8 0, .int .i32 0, .string ⟨#[]⟩, .slice none 0 0] from HZc); obtain ⟨l0, l1, l2, l3, l4, l5⟩ := box6f HZc; clear HZc)))
      | (go_simp; go_at_call 32; (with_reducible refine (CT2.out _ _ _ R3b.out.1 R3b.out.2).mono ?_); rintro e1 W4 ⟨q2, rfl, t, b⟩; have H4 := Lib.hid (blw (bal (bal H3.out (.cells #[.int .u8 4, .int .u8 0, .int .u8 0, .int .i32 0, .string ⟨#[105]⟩, .slice none 0 0] 27)) (.cells #[.int .u8 0, .int .u8 0, .int .u8 0, .int .i32 0, .string ⟨#[]⟩, .slice none 0 0] 27)) b); have HZ : Hid (BoxS W4 (W3.heap.size + 1) 27 exZ) := Lib.hid (by { have := (boxS_new (W3.alloc (.cells #[.int .u8 4, .int .u8 0, .int .u8 0, .int .i32 0, .string ⟨#[105]⟩, .slice none 0 0] 27)) 27 exZ).below b; rwa [World.size_alloc] at this }); have T4 := Lib.hid t; clear b t; (try (have HZc := HZ.out; obtain ⟨k0, k1, k2, k3, k4, k5⟩ := box6 (show BoxS W4 _ 27 #[.int .u8 0, .int .u8 0, .int .u8 0, .int .i32 0, .string ⟨#[]⟩, .slice none 0 0] from HZc); obtain ⟨l0, l1, l2, l3, l4, l5⟩ := box6f HZc; clear HZc)))
      | (go_simp; go_at_call 32; (with_reducible refine (CT2.out _ _ _ R3c.out.1 R3c.out.2).mono ?_); rintro e1 W4 ⟨q2, rfl, t, b⟩; have H4 := Lib.hid (blw (bal (bal H3.out (.cells #[.int .u8 0, .int .u8 0, .int .u8 0, .int .i32 0, .string ⟨#[]⟩, .slice none 0 0] 27)) (.cells #[.int .u8 4, .int .u8 0, .int .u8 0, .int .i32 0, .string ⟨#[105]⟩, .slice none 0 0] 27)) b); have HZ := Lib.hid (((boxS_new W3 27 exZ).alloc (.cells #[.int .u8 4, .int .u8 0, .int .u8 0, .int .i32 0, .string ⟨#[105]⟩, .slice none 0 0] 27)).below b); have T4 := Lib.hid t; clear b t; (try (have HZc := HZ.out; obtain ⟨k0, k1, k2, k3, k4, k5⟩ := box6 (show BoxS W4 _ 27 #[.int .u8 0, .int .u8 0, .int .u8 0, .int .i32 0, .string ⟨#[]⟩, .slice none 0 0] from HZc); obtain ⟨l0, l1, l2, l3, l4, l5⟩ := box6f HZc; clear HZc))))
    all_goals (
      go_wp2_with fail
      go_meet
      first
      | (with_reducible exact ⟨_, rfl, Lib.hid (HN.out W4 q2 H4.out T4.out)⟩)
      | exact ⟨_, rfl, Lib.hid (HS.out W4 q2 _ H4.out (by first | exact HV.out.1.size | exact H1.out.size | exact H2.out.size | exact H3.out.size | (have := H3.out.size; omega)) HZ.out T4.out)⟩)
  case rest =>
    obtain ⟨K, rfl, HP⟩ := hcut
    clear CT1 CT2 HI HS HN HV
    obtain ⟨A0, c0, hb0, ht0⟩ := HP.out.b
    have HB0 := Lib.hid hb0
    clear hb0
    have CTk : Hid (∀ (X : World), S10 w X → TrR X A0 c0 prodE.l → Calls Tryz.prog 22 #[.agg #[.int .u8 7, .int .u8 3, .int .u8 0, .int .i32 0, .string ⟨#[]⟩, .slice A0 2 c0]] X fun en w' => ∃ B d, en = .returned (.tuple #[.slice B 10 d, .int .i64 0]) ∧ RR w' B d (tkE prodE) ∧ Below X.heap.size X w') := Lib.hid fun X h t => prod_toks h t
    have CX : Hid (∀ (X : World) (B : Option Addr) (d : Nat), S10 w X → RR X B d (tkE prodE) → Calls Tryz.prog 27 #[.slice B 10 d] X fun en w' => en = .returned (.tuple #[.string ⟨#[40, 97, 32, 43, 32, 49, 41, 32, 42, 32, 118, 91, 105, 93]⟩, .int .i64 0]) ∧ Below X.heap.size X w') := Lib.hid fun X B d h r => Text_at r prod_may.2.2.1 h.tab prod_may.2.2.2
    have CZ : Hid (∀ (X : World), S10 w X → TrR X A0 c0 prodE.l → Calls Tryz.prog 14 #[.agg #[.int .u8 7, .int .u8 3, .int .u8 0, .int .i32 0, .string ⟨#[]⟩, .slice A0 2 c0]] X fun en w' => en = .returned (.int .i64 6) ∧ Below X.heap.size X w') := Lib.hid fun X h t => prod_size h t
    have CR1 : Hid (∀ (X : World) (q : Nat), S10 w X → TrR X (some ⟨q, 0, none⟩) 2 [aE, bE] → Calls Tryz.prog 30 #[.string ⟨#[97, 32, 45, 32, 98, 32, 45, 32, 99]⟩, .agg #[.int .u8 7, .int .u8 2, .int .u8 0, .int .i32 0, .string ⟨#[]⟩, .slice (some ⟨q, 0, none⟩) 2 2], .int .i64 3] X fun en w' => en = .returned (.bool true) ∧ Below X.heap.size X w') := Lib.hid fun X q h t => reads_xa h t
    have CR2 : Hid (∀ (X : World), S10 w X → Calls Tryz.prog 30 #[.string ⟨#[40, 40, 97, 41, 41]⟩, .agg #[.int .u8 4, .int .u8 0, .int .u8 0, .int .i32 0, .string ⟨#[97]⟩, .slice none 0 0], .int .i64 5] X fun en w' => en = .returned (.bool true) ∧ Below X.heap.size X w') := Lib.hid fun X h => reads_xb h
    have CF1 : Hid (∀ (X : World), S10 w X → Calls Tryz.prog 33 #[.string ⟨#[97, 32, 43, 32, 41]⟩, .int .i64 100] X fun en w' => en = .returned (.bool true) ∧ Below X.heap.size X w') := Lib.hid fun X h => fails_y0 h
    have HT : Hid (S10 w wc ∧ BoxS wc K 27 #[.int .u8 7, .int .u8 3, .int .u8 0, .int .i32 0, .string ⟨#[]⟩, .slice A0 2 c0] ∧ TrR wc A0 c0 prodE.l) := Lib.hid ⟨HP.out.s, HB0.out, ht0⟩
    clear HP HB0 ht0
    obtain ⟨p0, p1, p2, p3, p4, p5⟩ := box6 HT.out.2.1
    go_wp2_with (first
      | (go_at_call 22; (with_reducible refine (CTk.out _ HT.out.1 HT.out.2.2).mono ?_); rintro e u1 ⟨B1, d1, rfl, r, b⟩; have H1 := Lib.hid (And.intro (HT.out.1.step b) (And.intro (HT.out.2.1.below b) (HT.out.2.2.keep b))); have R1 := Lib.hid r; clear b r)
      | (go_at_call 27; (with_reducible refine (CX.out _ _ _ H1.out.1 R1.out).mono ?_); rintro e u2 ⟨rfl, b⟩; have H2 := Lib.hid (And.intro (H1.out.1.step b) (And.intro (H1.out.2.1.below b) (H1.out.2.2.keep b))); clear b)
      | (go_at_call 31; (with_reducible refine (CN.out ⟨#[97]⟩ u2).mono ?_); rintro e u3 ⟨rfl, b⟩; have H3 := Lib.hid (And.intro (H2.out.1.step b) (And.intro (H2.out.2.1.below b) (H2.out.2.2.keep b))); clear b)
      | (go_at_call 31; (with_reducible refine (CN.out ⟨#[98]⟩ _).mono ?_); rintro e u4 ⟨rfl, b⟩; have H4 := Lib.hid (And.intro (H3.out.1.step b) (And.intro (H3.out.2.1.below b) (H3.out.2.2.keep b))); clear b)
      | (go_at_call 32; (with_reducible refine (CT3.out _).mono ?_); rintro e u5 ⟨q5, rfl, t, b⟩; have H5 := Lib.hid (And.intro (H4.out.1.step b) (And.intro (H4.out.2.1.below b) (H4.out.2.2.keep b))); have T5 := Lib.hid t; clear b t)
      | (go_at_call 30; (with_reducible refine (CR1.out _ _ H5.out.1 T5.out).mono ?_); rintro e u6 ⟨rfl, b⟩; have H6 := Lib.hid (And.intro (H5.out.1.step b) (And.intro (H5.out.2.1.below b) (H5.out.2.2.keep b))); clear b)
      | (go_at_call 31; (with_reducible refine (CN.out ⟨#[97]⟩ u6).mono ?_); rintro e u7 ⟨rfl, b⟩; have H7 := Lib.hid (And.intro (H6.out.1.step b) (And.intro (H6.out.2.1.below b) (H6.out.2.2.keep b))); clear b)
      | (go_at_call 30; (with_reducible refine (CR2.out _ H7.out.1).mono ?_); rintro e u8 ⟨rfl, b⟩; have H8 := Lib.hid (And.intro (H7.out.1.step b) (And.intro (H7.out.2.1.below b) (H7.out.2.2.keep b))); clear b)
      | (go_at_call 33; (with_reducible refine (CF1.out _ H8.out.1).mono ?_); rintro e u9 ⟨rfl, b⟩; have H9 := Lib.hid (And.intro (H8.out.1.step b) (And.intro (H8.out.2.1.below b) (H8.out.2.2.keep b))); obtain ⟨y0, y1, y2, y3, y4, y5⟩ := box6 H9.out.2.1; clear b)
      | (go_at_call 14; (with_reducible refine (CZ.out _ H9.out.1 H9.out.2.2).mono ?_); rintro e u10 ⟨rfl, b⟩; have H10 := Lib.hid (And.intro (H9.out.1.step b) (And.intro (H9.out.2.1.below b) (H9.out.2.2.keep b))); clear b))
    go_ret
    exact ⟨rfl, H10.out.1.bel⟩
end Go.Proofs.YtplcmcealeeppaaGreatDoor
