/- What FoldChain's loop knows: two rows of specifications and a box. -/
import Derived.Test.YtimbiobonigdmaaDoorSxo
import Derived.Test.YtimbiobonigdmaaDoorFca
import Derived.Test.YtimbiobonigdmaaDoorTwf
import Derived.Test.YtimbiobonigdmaaDoorVfr
import Derived.Test.YtimbiobonigdmaaDoorM02
import Derived.Laws.BytesString
set_option linter.unusedVariables false
set_option linter.unusedSimpArgs false
namespace Go.Proofs.YtimbiobonigdmaaDoor
open Go Go.RowKit L8 L10 L14

theorem own_fr {w w' : World} {P : Nat → Prop} {B n c s : Nat} {t : TypeId} {A : Option Addr} {xs : List Value} (h : w.ownsRow B t s (.slice A n c) n xs) (g : Fr w w' P) (hA : ∀ ad, A = some ad → ¬ P ad.block) : w'.ownsRow B t s (.slice A n c) n xs := by
  refine ⟨h.1, ?_⟩
  rcases h.2 with h2 | ⟨q, cap, cur, hv, hB, hh, rest⟩
  · exact .inl h2
  · refine .inr ⟨q, cap, cur, hv, hB, g.obj hh ?_, rest⟩
    injection hv with h1
    exact hA _ h1
/-- A block that is neither row's, nor the box. -/
def Pt (q : Nat) (A B : Option Addr) (k : Nat) : Prop := k ≠ q ∧ Ob A k ∧ Ob B k
/-- Two rows of specifications of the call's own, and a box, each in memory of its own. -/
structure Two (w X : World) (q : Nat) (bx : Array Value) (A : Option Addr) (n c : Nat) (L : List Sx) (B : Option Addr) (m d : Nat) (K : List Sx) : Prop where
  b : Below w.heap.size w X
  hq : w.heap.size ≤ q
  box : BoxS X q 31 bx
  o1 : X.ownsRow w.heap.size 51 16 (.slice A n c) n (sxCs L)
  o2 : X.ownsRow w.heap.size 51 16 (.slice B m d) m (sxCs K)
  p1 : ∀ y ∈ L, SxN X (Pt q A B) y
  p2 : ∀ y ∈ K, SxN X (Pt q A B) y
  ab : ∀ b, B = some b → Ob A b.block
  q1 : Ob A q
  q2 : Ob B q
theorem Two.swap {w X : World} {q n c m d : Nat} {bx : Array Value} {A B : Option Addr} {L K : List Sx} (h : Two w X q bx A n c L B m d K) : Two w X q bx B m d K A n c L :=
  ⟨h.b, h.hq, h.box, h.o2, h.o1, fun y hy => (h.p2 y hy).mono fun _ _ k => ⟨k.1, k.2.2, k.2.1⟩, fun y hy => (h.p1 y hy).mono fun _ _ k => ⟨k.1, k.2.2, k.2.1⟩, fun a e b e2 e3 => h.ab b e2 a e e3.symm, h.q2, h.q1⟩
theorem Two.step {w X Y : World} {q n c m d : Nat} {bx : Array Value} {A B : Option Addr} {L K : List Sx} (h : Two w X q bx A n c L B m d K) (b : Below X.heap.size X Y) : Two w Y q bx A n c L B m d K :=
  ⟨blw h.b b, h.hq, h.box.below b, own_keepB h.o1 b, own_keepB h.o2 b, fun y hy => (h.p1 y hy).keep b, fun y hy => (h.p2 y hy).keep b, h.ab, h.q1, h.q2⟩
theorem Two.lt {w X : World} {q n c m d : Nat} {bx : Array Value} {A B : Option Addr} {L K : List Sx} (h : Two w X q bx A n c L B m d K) : q < X.heap.size := (Array.getElem?_eq_some_iff.1 (show X.heap[q]? = _ from h.box)).1
theorem Two.set {w X : World} {q n c m d : Nat} {a' b' c' d' e' f' : Value} {A B : Option Addr} {L K : List Sx} (h : Two w X q #[a', b', c', d', e', f'] A n c L B m d K) (v0 v1 v2 v3 v4 v5 : Value) : Two w (set6 X q v0 v1 v2 v3 v4 v5) q #[v0, v1, v2, v3, v4, v5] A n c L B m d K := by
  have g := fr_set6 X q v0 v1 v2 v3 v4 v5
  exact ⟨bset6 h.b h.hq v0 v1 v2 v3 v4 v5, h.hq, box6_all _ _ _ _ _ _ h.box, own_fr h.o1 g fun ad e => h.q1 ad e, own_fr h.o2 g fun ad e => h.q2 ad e, fun y hy => (h.p1 y hy).fr g fun k _ n e => n.1 e, fun y hy => (h.p2 y hy).fr g fun k _ n e => n.1 e, h.ab, h.q1, h.q2⟩
theorem Two.sx {w X : World} {q n c m d : Nat} {bx : Array Value} {A B : Option Addr} {L K : List Sx} (h : Two w X q bx A n c L B m d K) : SxO X w.heap.size A n c L := ⟨h.o1, fun j hj => (h.p1 _ (sx_mem hj)).mono fun _ _ k => k.2.1⟩
theorem Two.app {w X Y : World} {q n c m d n2 c2 : Nat} {bx : Array Value} {A A2 B : Option Addr} {L K : List Sx} {y : Sx} (h : Two w X q bx A n c L B m d K) (hy : SxN X (Pt q A B) y) (o : SxO Y w.heap.size A2 n2 c2 (L ++ [y])) (g : X.grownBy Y (Value.slice A n c).ownBlock) (hN : ∀ b, b < X.heap.size → Ob A b → Ob A2 b) : Two w Y q bx A2 n2 c2 (L ++ [y]) B m d K := by
  have f := Fr.ofG g (P := fun k => ∃ a, A = some a ∧ a.block = k) fun k e => by
    cases A with
    | none => simp [Value.ownBlock] at e
    | some a => simp [Value.ownBlock] at e; exact ⟨a, rfl, e⟩
  have hp : ∀ z, SxN X (Pt q A B) z → SxN Y (Pt q A2 B) z := fun z hz => by
    have t2 := hz.mono (M := fun k => Pt q A2 B k ∧ Ob A k) fun k hk p => ⟨⟨p.1, hN k hk p.2.1, p.2.2⟩, p.2.1⟩
    have t3 := t2.fr f fun k _ p ⟨a, e1, e2⟩ => p.2 a e1 e2
    exact t3.mono fun _ _ p => p.1
  refine ⟨SxO.bel h.b h.sx (Nat.le_refl _) g, h.hq, f.box h.box (fun ⟨a, e1, e2⟩ => h.q1 a e1 e2), o.own, own_fr h.o2 f (fun ad e ⟨a, e1, e2⟩ => h.ab ad e a e1 e2), fun z hz => ?_, fun z hz => hp z (h.p2 z hz), fun b e => hN _ ?_ (h.ab b e), hN _ h.lt h.q1, h.q2⟩
  · rcases List.mem_append.1 hz with hz | hz
    · exact hp z (h.p1 z hz)
    · rw [List.mem_singleton.1 hz]; exact hp y hy
  · subst e
    exact (World.ownsRow.lt h.o2 b.block rfl).2
/-- A specification laid behind a row: what is wanted, and what is known then. -/
theorem Two.app1 {w X : World} {q n c m d : Nat} {bx : Array Value} {A B : Option Addr} {L K : List Sx} {y : Sx} (h : Two w X q bx A n c L B m d K) (hy : SxN X (Pt q A B) y) :
    SxO (X.alloc (.cells (sxC y).toArray 51)) w.heap.size A n c L ∧ SxR (X.alloc (.cells (sxC y).toArray 51)) (some ⟨X.heap.size, 0, none⟩) 1 [y] ∧ (∀ z ∈ [y], SxN (X.alloc (.cells (sxC y).toArray 51)) (Ob A) z) ∧ w.heap.size ≤ (X.alloc (.cells (sxC y).toArray 51)).heap.size ∧
    ∀ (Y : World) A2 c2, SxO Y w.heap.size A2 (n + 1) c2 (L ++ [y]) → (X.alloc (.cells (sxC y).toArray 51)).grownBy Y (Value.slice A n c).ownBlock → (∀ b, b < (X.alloc (.cells (sxC y).toArray 51)).heap.size → Ob A b → Ob A2 b) → Two w Y q bx A2 (n + 1) c2 (L ++ [y]) B m d K := by
  have bX := bal (b0 X) (.cells (sxC y).toArray 51)
  have h2 := h.step bX
  have hy2 := hy.keep bX
  exact ⟨h2.sx, SxR.one (boxS_new X _ _) hy2.v, fun z hz => by rw [List.mem_singleton.1 hz]; exact hy2.mono fun _ _ k => k.2.1, h2.b.size, fun Y A2 c2 o g hN => h2.app hy2 o g hN⟩
/-- Where a part that is new may lie. -/
theorem Two.pt {w X : World} {q n c m d : Nat} {bx : Array Value} {A B : Option Addr} {L K : List Sx} (h : Two w X q bx A n c L B m d K) {k : Nat} (hk : X.heap.size ≤ k) : Pt q A B k := by
  refine ⟨by have := h.lt; omega, h.sx.ob hk, h.swap.sx.ob hk⟩
/-- The start: two empty rows and a box. -/
theorem two_new {w v : World} (bx : Array Value) (b : Below ((w.alloc (.cells #[] 51)).alloc (.cells #[] 51)).heap.size ((w.alloc (.cells #[] 51)).alloc (.cells #[] 51)) v) :
    Two w (v.alloc (.cells bx 31)) v.heap.size bx (some ⟨w.heap.size, 0, none⟩) 0 0 [] (some ⟨w.heap.size + 1, 0, none⟩) 0 0 [] := by
  have b2 := bal b (.cells bx 31)
  have hs := b.size
  rw [World.size_alloc, World.size_alloc] at hs
  have e1 := SxO.empty w
  have e2 := SxO.empty (w.alloc (.cells #[] 51))
  rw [World.size_alloc] at e2
  have o1 : ((w.alloc (.cells #[] 51)).alloc (.cells #[] 51)).ownsRow w.heap.size 51 16 (.slice (some ⟨w.heap.size, 0, none⟩) 0 0) 0 (sxCs []) := own_keepB e1.own (bal (b0 _) _)
  have o2 : ((w.alloc (.cells #[] 51)).alloc (.cells #[] 51)).ownsRow w.heap.size 51 16 (.slice (some ⟨w.heap.size + 1, 0, none⟩) 0 0) 0 (sxCs []) := by
    refine ⟨e2.own.1, ?_⟩
    rcases e2.own.2 with ⟨hv, _⟩ | ⟨g, cap, cur, hv, hB, rest⟩
    · injection hv with h1; cases h1
    · exact .inr ⟨g, cap, cur, hv, by omega, rest⟩
  refine ⟨blw (bal (bal (b0 w) _) _) b2, by omega, boxS_new v _ _, own_keepB o1 b2, own_keepB o2 b2, fun y h => (by cases h), fun y h => (by cases h), fun b e => ?_, fun ad e => ?_, fun ad e => ?_⟩
  · injection e with e; subst e
    intro ad e2; injection e2 with e2; subst e2
    show w.heap.size ≠ w.heap.size + 1
    omega
  · injection e with e; subst e; show w.heap.size ≠ v.heap.size; omega
  · injection e with e; subst e; show w.heap.size + 1 ≠ v.heap.size; omega
/-! ### Contracts -/
theorem two_f6 (y z : Ex) (hy : y.l = []) (hz : z.l = []) (oky : OKe y) (okz : OKe z) (w : World) : Calls Tryd.prog 23 #[.int .u8 6, exV y none 0 0, exV z none 0 0] w fun en w' => ∃ g, w.heap.size ≤ g ∧ en = .returned (.agg #[.int .u8 7, .int .u8 6, .int .u8 0, .int .i32 0, .string ⟨#[]⟩, .slice (some ⟨g, 0, none⟩) 2 2]) ∧ (∀ N : Nat → Prop, N g → TrN w' N (some ⟨g, 0, none⟩) 2 [y, z]) ∧ Below w.heap.size w w' := by
  have := two_fr 6 y z none none 0 0 0 0 w (by rw [hy]; rfl) (by rw [hz]; rfl)
  refine Calls.mono this ?_
  rintro en w' ⟨g, h1, rfl, h2, h3⟩
  exact ⟨g, h1, rfl, fun N hN => TrN.two h2 hN oky okz (by rw [hy]; exact TrN.nil _ _) (by rw [hz]; exact TrN.nil _ _), h3⟩
theorem val_f2 (s : Bs) (y z : Ex) (g : Nat) (w : World) (R : TrR w (some ⟨g, 0, none⟩) 2 [y, z]) : Calls Tryd.prog 17 #[.string (strOf s), .agg #[.int .u8 7, .int .u8 6, .int .u8 0, .int .i32 0, .string ⟨#[]⟩, .slice (some ⟨g, 0, none⟩) 2 2]] w fun en w' => ∃ g2, w.heap.size ≤ g2 ∧ en = .returned (.agg #[.int .u8 2, .int .u8 1, .int .i64 0, .int .u8 0, .string ⟨#[]⟩, .slice (some ⟨g2, 0, none⟩) 1 1, .int .u8 7, .int .u8 6, .int .u8 0, .int .i32 0, .string ⟨#[]⟩, .slice (some ⟨g, 0, none⟩) 2 2, .bool false, .slice none 0 0, .slice none 0 0, .slice none 0 0]) ∧ SS w' (some ⟨g2, 0, none⟩) 1 [s] ∧ Below w.heap.size w w' := by
  have := val_fr s (twoE 6 y z) (some ⟨g, 0, none⟩) 2 2 w rfl R
  refine Calls.mono this ?_
  rintro en w' ⟨g2, h1, rfl, h2, _, h4⟩
  exact ⟨g2, h1, rfl, h2, h4⟩
theorem conv_two (a b : Nat) (w : World) : (convert 64 9 (.slice (some ⟨w.heap.size, 0, none⟩) 2 2)).run Tryd.prog (w.alloc (.cells #[.int .u8 (a : Int), .int .u8 (b : Int)] 5)) = .ok (.string (strOf [UInt8.ofNat a, UInt8.ofNat b])) (w.alloc (.cells #[.int .u8 (a : Int), .int .u8 (b : Int)] 5)) := by
  have bx := boxS_new w 5 #[.int .u8 (a : Int), .int .u8 (b : Int)]
  have hl := run_loadCells_list (P := Tryd.prog) (w.alloc (.cells #[.int .u8 (a : Int), .int .u8 (b : Int)] 5)) ⟨w.heap.size, 0, none⟩ [.int .u8 (a : Int), .int .u8 (b : Int)] (by
    intro j u hj
    match j, hj with
    | 0, hj => injection hj with hj; subst hj; exact (bx.cell 0).trans rfl
    | 1, hj => injection hj with hj; subst hj; rw [add_plain]; exact (bx.cell 1).trans rfl)
  rw [run_convert_bytes_string _ 64 9 5 _ _ _ Tryd.underlying64 Tryd.underlying5 Tryd.underlying9, run_bytesToString _ _ 2 2 [(a : Int), (b : Int)] hl]
  congr 2
theorem cat_x (s : Bs) : (⟨#[120]⟩ : ByteArray) ++ strOf s = strOf (120 :: s) := by
  apply ByteArray.ext
  apply Array.ext'
  simp [strOf]
theorem nm_is (s : Bs) (S : ByteArray) (hs : strOf s = S) (w : World) : Calls Tryd.prog 24 #[.string S] w (fun e w' => e = .returned (.agg #[.int .u8 4, .int .u8 0, .int .u8 0, .int .i32 0, .string S, .slice none 0 0]) ∧ Below w.heap.size w w') := by
  subst hs
  exact name_any s w
theorem two_n1 (w : World) : Calls Tryd.prog 23 #[.int .u8 6, .agg #[.int .u8 4, .int .u8 0, .int .u8 0, .int .i32 0, .string ⟨#[110]⟩, .slice none 0 0], .agg #[.int .u8 1, .int .u8 0, .int .u8 0, .int .i32 1, .string ⟨#[]⟩, .slice none 0 0]] w fun en w' => ∃ g, w.heap.size ≤ g ∧ en = .returned (.agg #[.int .u8 7, .int .u8 6, .int .u8 0, .int .i32 0, .string ⟨#[]⟩, .slice (some ⟨g, 0, none⟩) 2 2]) ∧ (∀ N : Nat → Prop, N g → TrN w' N (some ⟨g, 0, none⟩) 2 [nameE nB, litE 1 1]) ∧ Below w.heap.size w w' := by
  have := two_f6 (nameE nB) (litE 1 1) rfl rfl (nameE_ok (by decide)) (litE_ok ⟨by decide, by decide⟩) w
  exact this
theorem val_n2 (g : Nat) (w : World) (R : TrR w (some ⟨g, 0, none⟩) 2 [nameE nB, litE 1 1]) : Calls Tryd.prog 17 #[.string ⟨#[110]⟩, .agg #[.int .u8 7, .int .u8 6, .int .u8 0, .int .i32 0, .string ⟨#[]⟩, .slice (some ⟨g, 0, none⟩) 2 2]] w fun en w' => ∃ g2, w.heap.size ≤ g2 ∧ en = .returned (.agg #[.int .u8 2, .int .u8 1, .int .i64 0, .int .u8 0, .string ⟨#[]⟩, .slice (some ⟨g2, 0, none⟩) 1 1, .int .u8 7, .int .u8 6, .int .u8 0, .int .i32 0, .string ⟨#[]⟩, .slice (some ⟨g, 0, none⟩) 2 2, .bool false, .slice none 0 0, .slice none 0 0, .slice none 0 0]) ∧ SS w' (some ⟨g2, 0, none⟩) 1 [nB] ∧ Below w.heap.size w w' := by
  have := val_f2 nB (nameE nB) (litE 1 1) g w R
  exact this
theorem val_n1 (v : Int) (w : World) : Calls Tryd.prog 17 #[.string ⟨#[110]⟩, .agg #[.int .u8 1, .int .u8 0, .int .u8 0, .int .i32 v, .string ⟨#[]⟩, .slice none 0 0]] w fun en w' => ∃ g, w.heap.size ≤ g ∧ en = .returned (.agg #[.int .u8 2, .int .u8 1, .int .i64 0, .int .u8 0, .string ⟨#[]⟩, .slice (some ⟨g, 0, none⟩) 1 1, .int .u8 1, .int .u8 0, .int .u8 0, .int .i32 v, .string ⟨#[]⟩, .slice none 0 0, .bool false, .slice none 0 0, .slice none 0 0, .slice none 0 0]) ∧ SS w' (some ⟨g, 0, none⟩) 1 [nB] ∧ Below w.heap.size w w' := by
  have := val_fi nB v w
  exact this
theorem new_v {w : World} {N : Nat → Prop} {s : Bs} {y z : Ex} {g g2 : Nat} (hs : s.length ≤ maxLen) (h : SS w (some ⟨g2, 0, none⟩) 1 [s]) (hN : N g2) (t : TrN w N (some ⟨g, 0, none⟩) 2 [y, z]) : SxN w N (sxOf (valS s (twoE 6 y z)) (some ⟨g2, 0, none⟩) 1 (some ⟨g, 0, none⟩) 2) :=
  ⟨valS_ok hs (twoE_ok (by decide)), sxOf_one _ _ _ _ _, h, fun ad e _ => by injection e with e; subst e; exact hN, t⟩
theorem new_1 {w : World} {N : Nat → Prop} {v : Int} {g2 : Nat} (hv : inW v) (h : SS w (some ⟨g2, 0, none⟩) 1 [nB]) (hN : N g2) : SxN w N (sxOf (valS nB (litE 1 v)) (some ⟨g2, 0, none⟩) 1 none 0) :=
  ⟨valS_ok (by decide) (litE_ok hv), sxOf_one _ _ _ _ _, h, fun ad e _ => by injection e with e; subst e; exact hN, TrN.nil _ _⟩
theorem chD_cat {v : Int} {j : Nat} {L : List Sx} {y : Sx} (h : (L.map Sx.x).reverse = chD v j) (hy : y.x = valS (nmD j) (twoE 6 (lastD v j) (lastD v j))) : ((L ++ [y]).map Sx.x).reverse = chD v (j + 1) := by
  rw [List.map_append, List.reverse_append, h]
  show y.x :: chD v j = _
  rw [hy]
  rfl
theorem chC_cat {v : Int} {j : Nat} {L : List Sx} {y : Sx} (h : (L.map Sx.x).reverse = chC v j) (hy : y.x = valS nB (cntE v j)) : ((L ++ [y]).map Sx.x).reverse = chC v (j + 1) := by
  rw [List.map_append, List.reverse_append, h]
  show y.x :: chC v j = _
  rw [hy]
  rfl
end Go.Proofs.YtimbiobonigdmaaDoor
