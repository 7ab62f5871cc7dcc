/- The reference: the tokens of trees; what stays while a list is made; trees without parts. -/
import Derived.Deep.RegionHeld3
import Derived.Test.YtplcmcealeeppaaGreatDoorM14
import Derived.Test.YtplcmcealeeppaaGreatDoorExf
import Derived.Test.YtplcmcealeeppaaGreatDoorM13
set_option linter.unusedVariables false
set_option linter.unusedSimpArgs false
set_option linter.unusedVariables false
set_option linter.unusedSimpArgs false
namespace Go.Proofs.YtplcmcealeeppaaGreatDoor
open Go Go.RowKit L8 L10

/-- A literal of tokens is a row of the call's own. -/
theorem own_lit {w : World} {rs : List Tk} {q B n : Nat} (hq : w.heap[q]? = some (.cells (rwCs rs).toArray 47 (0, 0))) (hB : B ≤ q) (hn : rs.length = n) (hl : n ≤ 100) : OwnR w 47 B (some ⟨q, 0, none⟩) n n rs :=
  ⟨by rw [rwCs_len, hn], .inr ⟨q, n, (rwCs rs).toArray, rfl, hB, hq, Nat.le_refl _, by unfold maxLen; omega, by rw [List.size_toArray, rwCs_len, hn], List.take_of_length_le (by rw [rwCs_len, hn]; exact Nat.le_refl _)⟩⟩
/-- What list and operand give. -/
def GivesL (w : World) (l : List Tk) (en : Ending) (w' : World) : Prop := ∃ B d, en = .returned (.slice B l.length d) ∧ OwnR w' 47 w.heap.size B l.length d l ∧ OKL l ∧ Below w.heap.size w w'
def RLC (e : Ex) : Prop := ∀ (A : Option Addr) (n c : Nat) (w : World), TrR w A c e.l → e.l.length = n → OKe e → szE e ≤ 256 → Calls Tryz.prog 41 #[exV e A n c] w (GivesL w (tkE e))
def ROC (e : Ex) : Prop := ∀ (A : Option Addr) (n c : Nat) (w : World), TrR w A c e.l → e.l.length = n → OKe e → szE e ≤ 256 → Calls Tryz.prog 65 #[exV e A n c] w (GivesL w (opT e))
def nmA (s : ByteArray) : Array Value := #[.int .u8 1, .int .i64 0, .string s, .int .i32 0]
/-- A world in which a tree and the token of its name lie in boxes. -/
structure LS (w X : World) (e : Ex) (A : Option Addr) (n c : Nat) : Prop where
  bel : Below w.heap.size w X
  ex : BoxS X w.heap.size 27 (exC e A n c)
  tk : BoxS X (w.heap.size + 1) 47 (nmA (strOf e.s))
theorem LS.step {w X Y : World} {e : Ex} {A : Option Addr} {n c : Nat} (h : LS w X e A n c) (b : Below X.heap.size X Y) : LS w Y e A n c := ⟨blw h.bel b, h.ex.below b, h.tk.below b⟩
theorem LS.new (w : World) (e : Ex) (A : Option Addr) (n c : Nat) : LS w ((w.alloc (.cells (exC e A n c) 27)).alloc (.cells (nmA (strOf e.s)) 47)) e A n c := by
  have h := boxS_new (w.alloc (.cells (exC e A n c) 27)) 47 (nmA (strOf e.s))
  rw [World.size_alloc] at h
  exact ⟨bal (bal (b0 w) _) _, (boxS_new w _ _).alloc _, h⟩
theorem LS.cells {w X : World} {e : Ex} {A : Option Addr} {n c : Nat} (h : LS w X e A n c) : (X.cell? ⟨w.heap.size, 0, none⟩ = some (.int .u8 (e.k : Int)) ∧ X.cell? ⟨w.heap.size, 1, none⟩ = some (.int .u8 (e.o : Int)) ∧ X.cell? ⟨w.heap.size, 2, none⟩ = some (.int .u8 (e.t : Int)) ∧ X.cell? ⟨w.heap.size, 3, none⟩ = some (.int .i32 e.n) ∧ X.cell? ⟨w.heap.size, 4, none⟩ = some (.string (strOf e.s)) ∧ X.cell? ⟨w.heap.size, 5, none⟩ = some (.slice A n c))
    ∧ (X.cell? ⟨w.heap.size + 1, 0, none⟩ = some (.int .u8 1) ∧ X.cell? ⟨w.heap.size + 1, 1, none⟩ = some (.int .i64 0) ∧ X.cell? ⟨w.heap.size + 1, 2, none⟩ = some (.string (strOf e.s)) ∧ X.cell? ⟨w.heap.size + 1, 3, none⟩ = some (.int .i32 0)) := ⟨box6 h.ex, (box4 h.tk).1⟩
theorem LS.lt {w X : World} {e : Ex} {A : Option Addr} {n c : Nat} (h : LS w X e A n c) : w.heap.size + 2 ≤ X.heap.size := h.tk.lt
theorem box_grw {w w' : World} {e : TypeId} {B n c b : Nat} {A : Option Addr} {rs : List Tk} {ty : TypeId} {cs : Array Value} (h : OwnR w e B A n c rs) (g : w.grownBy w' (Value.slice A n c).ownBlock) (hb : b < B) (R : BoxS w b ty cs) : BoxS w' b ty cs := by
  refine BoxS.kept R g ?_
  cases A with
  | none => simp [Value.ownBlock]
  | some ad =>
    have := (owned_ge h ad rfl).1
    simp [Value.ownBlock]
    omega
theorem LS.app {w X Y : World} {e : Ex} {A B : Option Addr} {n c q d : Nat} {l : List Tk} (h : LS w X e A n c) (o : OwnR X 47 (w.heap.size + 2) B q d l) (g : X.grownBy Y (Value.slice B q d).ownBlock) : LS w Y e A n c :=
  ⟨bgrow h.bel o (by omega) g, box_grw o g (by omega) h.ex, box_grw o g (by omega) h.tk⟩
theorem LS.gives {w X : World} {e : Ex} {A B : Option Addr} {n c q d : Nat} {l m : List Tk} (h : LS w X e A n c) (o : OwnR X 47 (w.heap.size + 2) B q d l) (hl : m = l) (ok : OKL l) : GivesL w m (.returned (.slice B q d)) X := by
  subst hl
  obtain rfl := o.len
  exact ⟨B, d, rfl, o.base (by omega), ok, h.bel⟩
/-- A literal is the answer. -/
theorem LS.lit {w X : World} {e : Ex} {A : Option Addr} {n c k : Nat} {l m : List Tk} {cs : Array Value} (h : LS w X e A n c) (hc : cs = (rwCs l).toArray) (hk : l.length = k) (h100 : k ≤ 100) (hl : m = l) (ok : OKL l) : GivesL w m (.returned (.slice (some ⟨X.heap.size, 0, none⟩) k k)) (X.alloc (.cells cs 47)) := by
  subst hc
  exact (h.step (bal (b0 X) _)).gives (own_lit (boxS_new X _ _) h.lt hk h100) hl ok
/-- An append of tokens in a region that draws its order. -/
theorem step_rw {X : World} {ops : Array Oper} {o : Oper} {a : Act} {K : Act → World → Prop} {Q : Exit → Act → World → Prop} {E : Prop} (hgd : o.guard = none) (s x : Operand)
    (ho : o.op = .call { callee := .builtin .append, args := #[s, x], argTypes := #[39, 39] }) (base n c m d l : Nat) (A A' : Option Addr) (xs ys : List Tk) (hs : a.eval s = .slice A n c) (hx : a.eval x = .slice A' m d)
    (hown : OwnR X 47 base A n c xs) (hy : ys.length = m) (hm : 0 < m) (R : RR X A' d ys) (hl : n + m = l) (h63 : l ≤ 1000000) (hbase : base ≤ X.heap.size)
    (h : ∀ A2 c2 w', OwnR w' 47 base A2 l c2 (xs ++ ys) → X.grownBy w' (Value.slice A n c).ownBlock → K (a.put o.dst (.slice A2 l c2)) w') :
    if Region.wanted o (yielded ops a.tmps) = true then Oper.wp Tryz.prog o a X K Q else E :=
  step_rwsG hgd s x ho base n c m d l A A' xs ys hs hx hown hy hm R hl h63 hbase fun A2 c2 w' h1 h2 _ => h A2 c2 w' h1 h2
theorem okx_by {n : Int} (h : 0 ≤ n) (h2 : n ≤ 255) : OKx (by_ n) := ⟨by show (0 : Nat) ≤ maxLen; exact Nat.zero_le _, by show (4 : Nat) < 256; decide, by show -2147483648 ≤ n; omega, by show n ≤ 2147483647; omega⟩
/-! ### Trees without parts -/
set_option maxRecDepth 100000 in
set_option maxHeartbeats 4000000 in
theorem rl_1 (n : Int) : RLC (.mk 1 0 0 n [] []) := by
  intro A m c w R hm ok hsz
  have HV := Lib.hid (LS.new w (.mk 1 0 0 n [] []) A m c)
  have HG : Hid (∀ X, LS w X (.mk 1 0 0 n [] []) A m c → GivesL w (tkE (.mk 1 0 0 n [] [])) (.returned (.slice (some ⟨X.heap.size, 0, none⟩) 1 1)) (X.alloc (.cells #[.int .u8 3, .int .i64 0, .string ⟨#[]⟩, .int .i32 n] 47))) := Lib.hid fun X h => h.lit (l := [nb n]) rfl rfl (by decide) (tk_1 n) (OKL.one (okx_num ⟨ok.2.2.2.1, ok.2.2.2.2.1⟩ (by decide)))
  clear R hm ok hsz
  generalize GivesL w (tkE (.mk 1 0 0 n [] [])) = POST at *
  show Calls Tryz.prog 41 #[.agg #[.int .u8 1, .int .u8 0, .int .u8 0, .int .i32 n, .string ⟨#[]⟩, .slice A m c]] w POST
  go_enter Tryz.func41, Tryz.ntmps41
  go_wp2
  have HF := HG.out _ HV.out
  rw [World.size_alloc, World.size_alloc] at HF
  first | exact HF | (go_ret; exact HF)
set_option maxRecDepth 100000 in
set_option maxHeartbeats 4000000 in
theorem rl_2 (n : Int) (h0 : 0 ≤ n) (h1 : n ≤ 255) : RLC (.mk 2 0 0 n [] []) := by
  intro A m c w R hm ok hsz
  have HV := Lib.hid (LS.new w (.mk 2 0 0 n [] []) A m c)
  have HG : Hid (∀ X, LS w X (.mk 2 0 0 n [] []) A m c → GivesL w (tkE (.mk 2 0 0 n [] [])) (.returned (.slice (some ⟨X.heap.size, 0, none⟩) 1 1)) (X.alloc (.cells #[.int .u8 4, .int .i64 0, .string ⟨#[]⟩, .int .i32 n] 47))) := Lib.hid fun X h => h.lit (l := [by_ n]) rfl rfl (by decide) (tk_2 n) (OKL.one (okx_by h0 h1))
  clear R hm ok hsz
  generalize GivesL w (tkE (.mk 2 0 0 n [] [])) = POST at *
  show Calls Tryz.prog 41 #[.agg #[.int .u8 2, .int .u8 0, .int .u8 0, .int .i32 n, .string ⟨#[]⟩, .slice A m c]] w POST
  go_enter Tryz.func41, Tryz.ntmps41
  go_wp2
  have HF := HG.out _ HV.out
  rw [World.size_alloc, World.size_alloc] at HF
  first | exact HF | (go_ret; exact HF)
set_option maxRecDepth 100000 in
set_option maxHeartbeats 4000000 in
theorem rl_4 (s : Bs) : RLC (.mk 4 0 0 0 s []) := by
  intro A m c w R hm ok hsz
  have HV := Lib.hid (LS.new w (.mk 4 0 0 0 s []) A m c)
  have HG : Hid (∀ X, LS w X (.mk 4 0 0 0 s []) A m c → GivesL w (tkE (.mk 4 0 0 0 s [])) (.returned (.slice (some ⟨X.heap.size, 0, none⟩) 1 1)) (X.alloc (.cells #[.int .u8 1, .int .i64 0, .string (strOf s), .int .i32 0] 47))) := Lib.hid fun X h => h.lit (l := [nm s]) rfl rfl (by decide) (tk_4 s) (OKL.one (okx_k ok.2.2.2.2.2 (by decide)))
  clear R hm ok hsz
  generalize GivesL w (tkE (.mk 4 0 0 0 s [])) = POST at *
  show Calls Tryz.prog 41 #[.agg #[.int .u8 4, .int .u8 0, .int .u8 0, .int .i32 0, .string (strOf s), .slice A m c]] w POST
  have HV2 : Hid (LS w ((w.alloc (.cells #[.int .u8 4, .int .u8 0, .int .u8 0, .int .i32 0, .string (strOf s), .slice A m c] 27)).alloc (.cells #[.int .u8 1, .int .i64 0, .string (strOf s), .int .i32 0] 47)) (.mk 4 0 0 0 s []) A m c) := HV
  clear HV
  generalize strOf s = S at *
  go_enter Tryz.func41, Tryz.ntmps41
  go_wp2
  have HF := HG.out _ HV2.out
  rw [World.size_alloc, World.size_alloc] at HF
  first | exact HF | (go_ret; exact HF)
set_option maxRecDepth 100000 in
set_option maxHeartbeats 4000000 in
theorem rl_3 (n : Int) (hn : n = 0 ∨ n = 1) : RLC (.mk 3 0 0 n [] []) := by
  intro A m c w R hm ok hsz
  have HV := Lib.hid (LS.new w (.mk 3 0 0 n [] []) A m c)
  have HG : Hid (∀ X (u : Bs), LS w X (.mk 3 0 0 n [] []) A m c → (if n = 1 then wTrue else wFalse) = u → GivesL w (tkE (.mk 3 0 0 n [] [])) (.returned (.slice (some ⟨X.heap.size, 0, none⟩) 1 1)) (X.alloc (.cells #[.int .u8 2, .int .i64 0, .string (strOf u), .int .i32 0] 47))) := Lib.hid fun X u h hu => h.lit (l := [kw u]) rfl rfl (by decide) (by rw [tk_3, hu]) (OKL.one (okx_k (by subst hu; split <;> (unfold maxLen; decide)) (by decide)))
  have CK := Lib.hid (fun (s : ByteArray) (W : World) => RKeyX_any s W)
  clear R hm ok hsz
  generalize GivesL w (tkE (.mk 3 0 0 n [] [])) = POST at *
  show Calls Tryz.prog 41 #[.agg #[.int .u8 3, .int .u8 0, .int .u8 0, .int .i32 n, .string ⟨#[]⟩, .slice A m c]] w POST
  rcases hn with rfl | rfl
  · have HG2 := Lib.hid (fun X h => HG.out X wFalse h rfl)
    clear HG
    go_enter Tryz.func41, Tryz.ntmps41
    go_wp2_with (go_at_call 62; (with_reducible refine (CK.out _ _).mono ?_); rintro e1 W1 ⟨rfl, b⟩; have H1 := Lib.hid ((HV.out.step (bal (b0 _) (.cells #[.string ⟨#[70, 65, 76, 83, 69]⟩, .string ⟨#[84, 82, 85, 69]⟩] 9))).step b); clear b)
    have HF := HG2.out _ H1.out
    first | exact HF | (go_ret; exact HF)
  · have HG2 := Lib.hid (fun X h => HG.out X wTrue h rfl)
    clear HG
    go_enter Tryz.func41, Tryz.ntmps41
    go_wp2_with (go_at_call 62; (with_reducible refine (CK.out _ _).mono ?_); rintro e1 W1 ⟨rfl, b⟩; have H1 := Lib.hid ((HV.out.step (bal (b0 _) (.cells #[.string ⟨#[70, 65, 76, 83, 69]⟩, .string ⟨#[84, 82, 85, 69]⟩] 9))).step b); clear b)
    have HF := HG2.out _ H1.out
    first | exact HF | (go_ret; exact HF)
set_option maxRecDepth 100000 in
set_option maxHeartbeats 4000000 in
theorem rl_9 (s : Bs) : RLC (.mk 9 0 0 0 s []) := by
  intro A m c w R hm ok hsz
  have HV := Lib.hid (LS.new w (.mk 9 0 0 0 s []) A m c)
  have HG : Hid (∀ X, LS w X (.mk 9 0 0 0 s []) A m c → GivesL w (tkE (.mk 9 0 0 0 s [])) (.returned (.slice (some ⟨X.heap.size, 0, none⟩) 2 2)) (X.alloc (.cells #[.int .u8 2, .int .i64 0, .string ⟨#[83, 73, 90, 69]⟩, .int .i32 0, .int .u8 1, .int .i64 0, .string (strOf s), .int .i32 0] 47))) := Lib.hid fun X h => h.lit (l := [kw wSize, nm s]) rfl rfl (by decide) (tk_9 s) (OKL.app (OKL.one (okx_k (by unfold maxLen; decide) (by decide))) (OKL.one (okx_k ok.2.2.2.2.2 (by decide))))
  have CK := Lib.hid (fun (s : ByteArray) (W : World) => RKeyX_any s W)
  have HC := Lib.hid (fun X (h : LS w X (.mk 9 0 0 0 s []) A m c) => h.cells.2)
  clear R hm ok hsz
  generalize GivesL w (tkE (.mk 9 0 0 0 s [])) = POST at *
  show Calls Tryz.prog 41 #[.agg #[.int .u8 9, .int .u8 0, .int .u8 0, .int .i32 0, .string (strOf s), .slice A m c]] w POST
  have HV2 : Hid (LS w ((w.alloc (.cells #[.int .u8 9, .int .u8 0, .int .u8 0, .int .i32 0, .string (strOf s), .slice A m c] 27)).alloc (.cells #[.int .u8 1, .int .i64 0, .string (strOf s), .int .i32 0] 47)) (.mk 9 0 0 0 s []) A m c) := HV
  clear HV
  dsimp only [Ex.s] at HC
  generalize strOf s = S at *
  go_enter Tryz.func41, Tryz.ntmps41
  go_wp2
  generalize (w.alloc (.cells #[.int .u8 9, .int .u8 0, .int .u8 0, .int .i32 0, .string S, .slice A m c] 27)).alloc (.cells #[.int .u8 1, .int .i64 0, .string S, .int .i32 0] 47) = V at *
  have HD := Lib.hid (HV2.out.step (bdrew (b0 V) 1))
  obtain ⟨v0, v1, v2, v3⟩ := HC.out _ HV2.out
  obtain ⟨u0, u1, u2, u3⟩ := HC.out _ HD.out
  go_region_held3 (fun w' => w'.cell? ⟨w.heap.size + 1, 0, none⟩ = some (.int .u8 1) ∧ w'.cell? ⟨w.heap.size + 1, 1, none⟩ = some (.int .i64 0) ∧ w'.cell? ⟨w.heap.size + 1, 2, none⟩ = some (.string S) ∧ w'.cell? ⟨w.heap.size + 1, 3, none⟩ = some (.int .i32 0))
    (first | (exact HC.out _ HV2.out) | (exact HC.out _ HD.out) | (exact HC.out _ H1.out) | go_keep)
    (first | (go_at_call 62; (with_reducible refine (CK.out _ _).mono ?_); rintro e1 W1 ⟨rfl, b⟩; have H1 := Lib.hid (HD.out.step b); clear b))
  all_goals (
    go_wp2
    have HF := HG.out _ H1.out
    first | exact HF | (go_ret; exact HF))
end Go.Proofs.YtplcmcealeeppaaGreatDoor
