import PyProof.Rows.All
import Wide.All
import OpenK.AllK
import Wide.FinOn
import HandS.ForMost
import HandS.Lambda
import HandS.More
import HandS.IsInst
import HandS.FStr
import HandS.StrMore
import HandS.Walk
import HandS.Star
import HandS.SortInts
import HandS.SortRule
import HandS.EndTab
import HandS.Style
import KE.KRevSl
import PySem.Challenge.RW_splitrooms_k07_rooms_on_a_board
set_option Elab.async false
set_option linter.all false
set_option maxRecDepth 100000
namespace Vf
open PySem L2
/-! ### heaps that grow: what stood stands; a table of code objects that was known is known -/
def lamQ : Str := Str.ofString "joined" ++ Str.ofString ".<locals>." ++ Str.ofString "<lambda>"
structure Ex (H H' : Hp) : Prop where
  keep : ∀ (a : Addr) (o : HO), H a = some o → (∀ ps, o ≠ .tbl ps) → H' a = some o
  dom : ∀ a : Addr, H' a = none → H a = none
  tabs : ∀ P : Addr, LamX.TabS H P lamQ → LamX.TabS H' P lamQ
theorem Ex.k {H H' : Hp} {a : Addr} {o : HO} (e : Ex H H') (h : H a = some o) (n : ∀ ps, o ≠ .tbl ps := by intro _ z; cases z) : H' a = some o := e.keep a o h n
theorem Ex.refl (H : Hp) : Ex H H := ⟨fun _ _ h _ => h, fun _ h => h, fun _ h => h⟩
theorem Ex.trans {H H1 H2 : Hp} (a : Ex H H1) (b : Ex H1 H2) : Ex H H2 :=
  ⟨fun x o h n => b.keep x o (a.keep x o h n) n, fun x h => a.dom x (b.dom x h), fun P h => b.tabs P (a.tabs P h)⟩
theorem Ex.of {H H' : Hp} (e : ∀ a o, H a = some o → H' a = some o) : Ex H H' := by
  refine ⟨fun a o h _ => e a o h, fun a h => ?_, fun P t => LamX.TabS.ext t e⟩
  cases q : H a with
  | none => rfl
  | some o =>
    rw [e a o q] at h
    cases h
theorem Ex.new {H : Hp} {p : Addr} {o : HO} (h : H p = none) : Ex H (upd H p o) := .of fun a u q => by
  rw [upd_ne (ne_of_none q h)]
  exact q
/-- a list that was not there ahead may change -/
theorem Ex.mut {H H' : Hp} {p : Addr} {o : HO} {xs : List V} (e : Ex H H') (h : H p = none) (hp : H' p = some (.lst xs)) : Ex H (upd H' p o) := by
  refine ⟨fun a u q n => ?_, fun a q => ?_, fun P t => ?_⟩
  · rw [upd_ne (ne_of_none q h)]
    exact e.keep a u q n
  · by_cases ha : a = p
    · rw [ha]
      exact h
    · rw [upd_ne ha] at q
      exact e.dom a q
  · obtain ⟨ps, h1, h2, h3⟩ := e.tabs P t
    refine ⟨ps, by rw [upd_ne (ne_of h1 hp (by intro z; cases z))]; exact h1, h2, fun pos cv hc => ?_⟩
    obtain ⟨c, e1, e2⟩ := h3 pos cv hc
    exact ⟨c, e1, by rw [upd_ne (ne_of e2 hp (by intro z; unfold LamX.CodeO at z; cases z))]; exact e2⟩
theorem fresh_back {H H' : Hp} {p : Addr} (e : Ex H H') (h : H' p = none) : H p = none := e.dom p h
theorem ex_l {K : PySem.W.Frag} {H H' : Hp} {a : Addr} {xs : List V} (e : Ex H H') (h : SqL K H a xs) : SqL K H' a xs :=
  h.elim (fun r => .inl (r.elim (fun r => .inl (e.k r)) fun ⟨o, r⟩ => .inr ⟨o, e.k r⟩)) .inr
theorem ex_t {K : PySem.W.Frag} {H H' : Hp} {a : Addr} {xs : List V} (e : Ex H H') (h : SqT K H a xs) : SqT K H' a xs :=
  h.elim (fun r => .inl (r.elim (fun r => .inl (e.k r)) fun ⟨o, r⟩ => .inr ⟨o, e.k r⟩)) .inr
theorem sq_of {K : PySem.W.Frag} {H : Hp} {a : Addr} {xs : List V} (h : H a = some (.lst xs)) : SqL K H a xs := SqL.of h
theorem st_of {K : PySem.W.Frag} {H : Hp} {a : Addr} {xs : List V} (h : H a = some (.tup xs)) : SqT K H a xs := SqT.of h
theorem sz_of {n : Nat} (h : n ≤ 100000) : n ≤ sizeLine := Nat.le_trans h (by decide)
theorem sz_lt {n : Nat} (h : n < 100000) : n < sizeLine := Nat.lt_of_lt_of_le h (by decide)

/-! ### what a reading comes to, in every heap that has grown out of this one -/
/-- P: the heap ahead, the value, the heap behind -/
def EvG (te : TE) (σ : L2.St) (H : Hp) (P : Hp → V → Hp → Prop) : Prop := ∀ A, Ex H A → ∀ Q : VK, (∀ v B, Ex A B → P A v B → Q v B) → te σ A Q
def Ev (te : TE) (σ : L2.St) (H : Hp) (v : V) : Prop := ∀ A, Ex H A → ∀ Q : VK, (∀ B, Ex A B → Q v B) → te σ A Q
def EvT (t : TT) (σ : L2.St) (H : Hp) (b : Bool) : Prop := ∀ A, Ex H A → ∀ Q : Bool → Hp → Prop, (∀ B, Ex A B → Q b B) → t σ A Q
def EvA (t : TA) (σ : L2.St) (H : Hp) (vs : List V) : Prop := ∀ A, Ex H A → ∀ Q : List V → Hp → Prop, (∀ B, Ex A B → Q vs B) → t σ A Q
def EvO (t : TO) (σ : L2.St) (H : Hp) (o : Option Int) : Prop := ∀ A, Ex H A → ∀ Q : Option Int → Hp → Prop, (∀ B, Ex A B → Q o B) → t σ A Q
def RV (r : R2) (x y : V) (H : Hp) (z : V) : Prop := ∀ A, Ex H A → ∀ Q : VK, (∀ B, Ex A B → Q z B) → r x y A Q
def RC (r : List V → Hp → VK → Prop) (vs : List V) (H : Hp) (z : V) : Prop := ∀ A, Ex H A → ∀ Q : VK, (∀ B, Ex A B → Q z B) → r vs A Q
def RetV (v : V) (H : Hp) (Q : VK) : Prop := ∀ B, Ex H B → Q v B
def SpV (sp : Sp) (vs : List V) (H : Hp) (z : V) : Prop := ∀ A, Ex H A → ∀ Q : VK, RetV z A Q → ∀ E : XK, sp vs A Q E
/-- a new tuple, a new list, of just these -/
abbrev NewT (xs : List V) : Hp → V → Hp → Prop := fun A v B => ∃ p, v = .ref p ∧ A p = none ∧ B p = some (.tup xs)
abbrev NewL (xs : List V) : Hp → V → Hp → Prop := fun A v B => ∃ p, v = .ref p ∧ A p = none ∧ B p = some (.lst xs)
section
variable {K : PySem.W.Frag} {σ : L2.St} {H H' : Hp} {ta tb tc te tx : TE} {t u : TT} {x y z v : V} {r r' : R2} {P P' : Hp → V → Hp → Prop}
theorem Ev.mono (e : Ex H H') (h : Ev te σ H v) : Ev te σ H' v := fun A a => h A (e.trans a)
theorem EvT.mono {b : Bool} (e : Ex H H') (h : EvT t σ H b) : EvT t σ H' b := fun A a => h A (e.trans a)
theorem EvA.mono {ta : TA} {vs : List V} (e : Ex H H') (h : EvA ta σ H vs) : EvA ta σ H' vs := fun A a => h A (e.trans a)
theorem EvG.mono (e : Ex H H') (h : EvG te σ H P) : EvG te σ H' P := fun A a => h A (e.trans a)
theorem RetV.mono {Q : VK} (e : Ex H H') (k : RetV v H Q) : RetV v H' Q := fun B b => k B (e.trans b)
theorem EvG.imp (h : EvG te σ H P) (i : ∀ A v B, Ex H A → Ex A B → P A v B → P' A v B) : EvG te σ H P' := fun A a Q q => h A a Q fun v B b p => q v B b (i A v B a b p)
theorem Ev.g (h : Ev te σ H v) (i : ∀ A B, Ex H A → Ex A B → P A v B) : EvG te σ H P := fun A a Q q => h A a _ fun B b => q v B b (i A B a b)
theorem ev_var {i : Nat} (h : σ[i]? = some (some v)) : Ev (tVar i) σ H v := fun A _ _ q => ⟨v, h, q A (.refl A)⟩
theorem ev_c : Ev (tC v) σ H v := fun A _ _ q => q A (.refl A)
theorem ev_op (ha : Ev ta σ H x) (hb : Ev tb σ H y) (hr : RV r x y H z) : Ev (tOp r ta tb) σ H z := fun A a Q q =>
  ha A a _ fun B b => hb B (a.trans b) _ fun C c => hr C ((a.trans b).trans c) Q fun D d => q D ((b.trans c).trans d)
theorem ev_un {r : V → Hp → VK → Prop} (ha : Ev ta σ H x) (hr : ∀ A, Ex H A → ∀ Q : VK, (∀ B, Ex A B → Q z B) → r x A Q) : Ev (tUn r ta) σ H z := fun A a Q q =>
  ha A a _ fun B b => hr B (a.trans b) Q fun C c => q C (b.trans c)
/-- the right operand is told by P -/
theorem ev_opR (ha : Ev ta σ H x) (hb : EvG tb σ H P) (hr : ∀ A w B, Ex H A → Ex A B → P A w B → RV r x w B z) : Ev (tOp r ta tb) σ H z := fun A a Q q =>
  ha A a _ fun B b => hb B (a.trans b) _ fun w C c p => hr B w C (a.trans b) c p C (.refl C) Q fun D d => q D ((b.trans c).trans d)
theorem ev_cb {r : List V → Hp → VK → Prop} {ta : TA} {vs : List V} (ha : EvA ta σ H vs) (hr : RC r vs H z) : Ev (tCB r ta) σ H z := fun A a Q q =>
  ha A a _ fun B b => hr B (a.trans b) Q fun C c => q C (b.trans c)
theorem ev_call {sp : Sp} {dvs vs : List V} {E : XK} {ta : TA} (ha : EvA ta σ H vs) (hs : SpV sp (vs ++ dvs) H z) : Ev (tCall sp dvs E ta) σ H z := fun A a Q q =>
  ha A a _ fun B b => hs B (a.trans b) Q (fun C c => q C (b.trans c)) E
theorem ev_is {w : V} (h : Ev te σ H v) (e : v = w) : Ev te σ H w := e ▸ h
theorem ev_notV {a : Bool} (h : Ev ta σ H (.bl a)) : Ev (tNotV ta) σ H (.bl (!a)) := fun A e _ q => h A e _ fun B b => ⟨a, rfl, q B b⟩
theorem ev_andV {a b : Bool} (h : Ev ta σ H (.bl a)) (i : a = true → Ev tb σ H (.bl b)) : Ev (tAndV ta tb) σ H (.bl (a && b)) := fun A e Q q => h A e _ fun B f => ⟨a, rfl, by
  cases a with
  | false => exact q B f
  | true => exact i rfl B (e.trans f) Q fun C g => q C (f.trans g)⟩
theorem ev_orV {a b : Bool} (h : Ev ta σ H (.bl a)) (i : a = false → Ev tb σ H (.bl b)) : Ev (tOrV ta tb) σ H (.bl (a || b)) := fun A e Q q => h A e _ fun B f => ⟨a, rfl, by
  cases a with
  | true => exact q B f
  | false => exact i rfl B (e.trans f) Q fun C g => q C (f.trans g)⟩
theorem ev_if {b : Bool} (h : EvT t σ H b) (h1 : b = true → Ev ta σ H v) (h2 : b = false → Ev tb σ H v) : Ev (tIf t ta tb) σ H v := fun A e Q q => h A e _ fun B f => by
  cases b with
  | true => exact h1 rfl B (e.trans f) Q fun C g => q C (f.trans g)
  | false => exact h2 rfl B (e.trans f) Q fun C g => q C (f.trans g)
theorem rv_I0 {g : Int → Int → V} {i j : Int} : RV (rI0 g) (.int i) (.int j) H (g i j) := fun A _ _ q => ⟨i, j, rfl, rfl, q A (.refl A)⟩
theorem rv_I {C : Int → Int → Prop} {g : Int → Int → V} {i j : Int} (h : C i j) : RV (rI C g) (.int i) (.int j) H (g i j) := fun A _ _ q => ⟨i, j, rfl, rfl, h, q A (.refl A)⟩
theorem rv_eq (h : scal x y = true) : RV rEq x y H (.bl (decide (x = y))) := fun A _ _ q => ⟨h, q A (.refl A)⟩
theorem rv_ne (h : scal x y = true) : RV rNe x y H (.bl (!decide (x = y))) := fun A _ _ q => ⟨h, q A (.refl A)⟩
theorem rv_ixL {p : Addr} {xs : List V} {i : Int} (h : SqL K H p xs) (ha : atI xs i = some v) : RV (rIxL K) (.ref p) (.int i) H v := fun A a _ q => ⟨p, xs, i, v, rfl, rfl, ex_l a h, ha, q A (.refl A)⟩
theorem rv_ixT {p : Addr} {xs : List V} {i : Int} (h : SqT K H p xs) (ha : atI xs i = some v) : RV (rIxT K) (.ref p) (.int i) H v := fun A a _ q => ⟨p, xs, i, v, rfl, rfl, ex_t a h, ha, q A (.refl A)⟩
theorem rv_ixS {s : Str} {i : Int} {c : Nat} (h : s.length ≤ 100000) (ha : atI s.cps.toList i = some c) : RV rIxS (.str s) (.int i) H (.str ⟨#[c]⟩) := fun A _ _ q => ⟨s, i, c, rfl, rfl, sz_of h, ha, q A (.refl A)⟩
theorem rv_in {neg : Bool} {p : Addr} {xs : List V} (h : SqL K H p xs ∨ SqT K H p xs) (hx : flatV x = true) (hf : xs.all flatV = true) : RV (rIn K neg) x (.ref p) H (.bl (if neg then !inV x xs else inV x xs)) :=
  fun A a _ q => ⟨p, xs, rfl, h.elim (fun h => .inl (ex_l a h)) (fun h => .inr (ex_t a h)), hx, hf, q A (.refl A)⟩
theorem et_is {a b : Bool} (h : EvT t σ H a) (e : a = b) : EvT t σ H b := e ▸ h
theorem et_test {b : Bool} (h : Ev te σ H (.bl b)) : EvT (tTest te) σ H b := fun A a _ q => h A a _ fun B f => ⟨b, rfl, q B f⟩
theorem et_B {b : Bool} (h : Ev te σ H (.bl b)) : EvT (tB te) σ H b := fun A a _ q => h A a _ fun B f => ⟨b, rfl, q B f⟩
theorem et_not {a : Bool} (h : EvT t σ H a) : EvT (tNot t) σ H (!a) := fun A e _ q => h A e _ fun B f => q B f
theorem et_and {a b : Bool} (h : EvT t σ H a) (i : a = true → EvT u σ H b) : EvT (tAnd t u) σ H (a && b) := fun A e Q q => h A e _ fun B f => by
  cases a with
  | false => exact q B f
  | true => exact i rfl B (e.trans f) Q fun C g => q C (f.trans g)
theorem et_or {a b : Bool} (h : EvT t σ H a) (i : a = false → EvT u σ H b) : EvT (tOr t u) σ H (a || b) := fun A e Q q => h A e _ fun B f => by
  cases a with
  | true => exact q B f
  | false => exact i rfl B (e.trans f) Q fun C g => q C (f.trans g)
theorem et_chain {a b : Bool} (ha : Ev ta σ H x) (hb : Ev tb σ H y) (hr : RV r x y H (.bl a)) (hc : a = true → Ev tc σ H z) (hr2 : a = true → RV r' y z H (.bl b)) : EvT (tTest (tChain r r' ta tb tc)) σ H (a && b) := fun A e Q q =>
  ha A e _ fun B f => hb B (e.trans f) _ fun C g => hr C ((e.trans f).trans g) _ fun D d => ⟨a, rfl, by
    cases a with
    | false => exact ⟨false, rfl, q D ((f.trans g).trans d)⟩
    | true => exact hc rfl D (((e.trans f).trans g).trans d) _ fun G i => hr2 rfl G ((((e.trans f).trans g).trans d).trans i) _ fun J j => ⟨b, rfl, q J ((((f.trans g).trans d).trans i).trans j)⟩⟩
theorem ea_nil : EvA tNil σ H [] := fun A _ _ q => q A (.refl A)
theorem ea_cons {tr : TA} {vs : List V} (h : Ev ta σ H x) (i : EvA tr σ H vs) : EvA (tCons ta tr) σ H (x :: vs) := fun A e _ q => h A e _ fun B f => i B (e.trans f) _ fun C g => q C (f.trans g)
theorem eo_none : EvO tNoPart σ H none := fun A _ _ q => q A (.refl A)
theorem eo_some {i : Int} (h : Ev te σ H (.int i)) : EvO (tPart te) σ H (some i) := fun A e _ q => h A e _ fun B f => ⟨i, rfl, q B f⟩
theorem eg_tup {ta : TA} {vs : List V} (h : EvA ta σ H vs) (l : vs.length ≤ 100000) : EvG (tTup ta) σ H (NewT vs) := fun A e _ q =>
  h A e _ fun B f => ⟨sz_of l, fun p hp => q _ _ (f.trans (.new hp)) ⟨p, rfl, fresh_back f hp, upd_same⟩⟩
theorem eg_lst {ta : TA} {vs : List V} (h : EvA ta σ H vs) (l : vs.length ≤ 100000) : EvG (tLst ta) σ H (NewL vs) := fun A e _ q =>
  h A e _ fun B f => ⟨sz_of l, fun p hp => q _ _ (f.trans (.new hp)) ⟨p, rfl, fresh_back f hp, upd_same⟩⟩

/-! ### statements -/
variable {D : Ends} {tu tw : TS} {tz : TS}
theorem s_asgG {i : Nat} (h : EvG te σ H P) (k : ∀ v B, Ex H B → P H v B → D.nx (σ.set i (some v)) B) : tAsg te (gName i) D σ H := h H (.refl H) _ fun v B b p => k v B b p
theorem q_asgG {i : Nat} (h : EvG te σ H P) (k : ∀ v B, Ex H B → P H v B → tz D (σ.set i (some v)) B) : tSeq (tAsg te (gName i)) tz D σ H := s_asgG (D := { D with nx := tz D }) h k
theorem s_asg {i : Nat} (h : Ev te σ H v) (k : ∀ B, Ex H B → D.nx (σ.set i (some v)) B) : tAsg te (gName i) D σ H := h H (.refl H) _ k
theorem q_asg {i : Nat} (h : Ev te σ H v) (k : ∀ B, Ex H B → tz D (σ.set i (some v)) B) : tSeq (tAsg te (gName i)) tz D σ H := s_asg (D := { D with nx := tz D }) h k
theorem s_retk (h : Ev te σ H v) (k : RetV v H D.rt) : tRet te D σ H := h H (.refl H) _ k
theorem s_retG (h : EvG te σ H P) (k : ∀ v B, Ex H B → P H v B → D.rt v B) : tRet te D σ H := h H (.refl H) _ k
theorem s_if {b : Bool} (h : EvT t σ H b) (h1 : b = true → ∀ B, Ex H B → tu D σ B) (h2 : b = false → ∀ B, Ex H B → tw D σ B) : tIfS t tu tw D σ H := h H (.refl H) _ fun B e => by
  cases b with
  | true => exact h1 rfl B e
  | false => exact h2 rfl B e
theorem q_if {b : Bool} (h : EvT t σ H b) (h1 : b = true → ∀ B, Ex H B → tu { D with nx := tz D } σ B) (h2 : b = false → ∀ B, Ex H B → tw { D with nx := tz D } σ B) : tSeq (tIfS t tu tw) tz D σ H := s_if (D := { D with nx := tz D }) h h1 h2
theorem s_when {b : Bool} (h : EvT t σ H b) (h1 : b = true → ∀ B, Ex H B → tu D σ B) (h2 : b = false → ∀ B, Ex H B → D.nx σ B) : tIfS t tu tNext D σ H := s_if h h1 h2
theorem q_when {b : Bool} (h : EvT t σ H b) (h1 : b = true → ∀ B, Ex H B → tu { D with nx := tz D } σ B) (h2 : b = false → ∀ B, Ex H B → tz D σ B) : tSeq (tIfS t tu tNext) tz D σ H := s_if (D := { D with nx := tz D }) h h1 h2
theorem s_drop (h : Ev te σ H v) (k : ∀ B, Ex H B → D.nx σ B) : tDrop te D σ H := h H (.refl H) _ k
theorem q_drop (h : Ev te σ H v) (k : ∀ B, Ex H B → tz D σ B) : tSeq (tDrop te) tz D σ H := s_drop (D := { D with nx := tz D }) h k
/-- if c: x = e, by the value that x has behind it -/
theorem q_ifAsg {b : Bool} {i : Nat} (h : EvT t σ H b) (h1 : b = true → Ev te σ H v) (h2 : b = false → σ.set i (some v) = σ) (k : ∀ B, Ex H B → tz D (σ.set i (some v)) B) : tSeq (tIfS t (tAsg te (gName i)) tNext) tz D σ H :=
  q_when h (fun hb B e => s_asg (D := { D with nx := tz D }) ((h1 hb).mono e) fun C f => k C (e.trans f)) (fun hb B e => (h2 hb) ▸ k B e)
theorem s_app {l : Addr} {xs : List V} (hl : H l = some (.lst xs)) (ha : Ev ta σ H (.ref l)) (h : EvG te σ H P) (hz : xs.length < 100000) (k : ∀ A v B, Ex H A → Ex A B → P A v B → D.nx σ (upd B l (.lst (xs ++ [v])))) :
    tDrop (tBM K "list" rAppend ta (tCons te tNil)) D σ H := ha H (.refl H) _ fun A a =>
  ⟨.inl ⟨rfl, xs, sq_of (a.k hl)⟩, h A a _ fun v B b p => ⟨l, xs, v, rfl, rfl, b.k (a.k hl), sz_lt hz, k A v B a b p⟩⟩
theorem q_app {l : Addr} {xs : List V} (hl : H l = some (.lst xs)) (ha : Ev ta σ H (.ref l)) (h : EvG te σ H P) (hz : xs.length < 100000) (k : ∀ A v B, Ex H A → Ex A B → P A v B → tz D σ (upd B l (.lst (xs ++ [v])))) :
    tSeq (tDrop (tBM K "list" rAppend ta (tCons te tNil))) tz D σ H := s_app (D := { D with nx := tz D }) hl ha h hz k

/-! ### loops -/
theorem q_forR1 {ta : TA} {j : Nat} {n : Nat} (h : EvA ta σ H [.int (n : Int)]) (hn : n ≤ 100000) (W : Nat → L2.St → Hp → Prop) (h0 : ∀ B, Ex H B → W 0 σ B)
    (hs : ∀ (i : Nat) σ' B, i < n → W i σ' B → tu { D with nx := W (i + 1), ct := W (i + 1), bk := tz D } (σ'.set j (some (.int (i : Int)))) B) (hd : ∀ σ' B, W n σ' B → tz D σ' B) : tSeq (tFor (iRng1 ta) (gName j) tu) tz D σ H :=
  h H (.refl H) _ fun B e => ⟨(n : Int), rfl, by omega, by omega, for_range (lo := 0) (n := n) W (h0 B e) (fun i σ' C hi w => by
    have z := hs i σ' C hi w
    rw [← Int.zero_add (i : Int)] at z
    exact z) hd⟩
theorem q_forL {a : Addr} {xs : List V} {tl : TE} {g : TG} (h : Ev tl σ H (.ref a)) (hx : SqL K H a xs) (W : Nat → L2.St → Hp → Prop) (h0 : ∀ B, Ex H B → W 0 σ B) (hl : ∀ i σ' B, i ≤ xs.length → W i σ' B → SqL K B a xs)
    (hs : ∀ i x σ' B, xs[i]? = some x → W i σ' B → g x σ' B fun σ2 C => tu { D with nx := W (i + 1), ct := W (i + 1), bk := tz D } σ2 C) (hd : ∀ σ' B, W xs.length σ' B → tz D σ' B) : tSeq (tFor (iList K tl) g tu) tz D σ H :=
  h H (.refl H) _ fun B e => ⟨a, rfl, ⟨xs, ex_l e hx⟩, for_list (D := { D with nx := tz D }) W (h0 B e) hl hs hd⟩
/-- over a list that is made for it -/
theorem q_forNL {xs : List V} {tl : TE} {g : TG} (h : EvG tl σ H (NewL xs)) (W : Addr → Nat → L2.St → Hp → Prop) (h0 : ∀ p B, Ex H B → B p = some (.lst xs) → W p 0 σ B) (hl : ∀ p i σ' B, i ≤ xs.length → W p i σ' B → SqL K B p xs)
    (hs : ∀ p i x σ' B, xs[i]? = some x → W p i σ' B → g x σ' B fun σ2 C => tu { D with nx := W p (i + 1), ct := W p (i + 1), bk := tz D } σ2 C) (hd : ∀ p σ' B, W p xs.length σ' B → tz D σ' B) : tSeq (tFor (iList K tl) g tu) tz D σ H :=
  h H (.refl H) _ fun v B e ⟨p, ev, _, hp⟩ => ⟨p, ev, ⟨xs, sq_of hp⟩, for_list (D := { D with nx := tz D }) (W p) (h0 p B e hp) (hl p) (hs p) (hd p)⟩
theorem q_forS {s : Str} {j : Nat} (h : Ev te σ H (.str s)) (W : Nat → L2.St → Hp → Prop) (h0 : ∀ B, Ex H B → W 0 σ B)
    (hs : ∀ i c σ' B, s.cps[i]? = some c → W i σ' B → tu { D with nx := W (i + 1), ct := W (i + 1), bk := tz D } (σ'.set j (some (.str ⟨#[c]⟩))) B) (hd : ∀ σ' B, W s.cps.size σ' B → tz D σ' B) : tSeq (tFor (iStr te) (gName j) tu) tz D σ H :=
  h H (.refl H) _ fun B e => ⟨s, rfl, for_it (D := { D with nx := tz D }) walk_str W (h0 B e) (fun _ _ _ _ _ => trivial) (fun i x σ' C C' hi w y => by
    obtain ⟨rfl, c, hc, rfl⟩ := y
    exact hs i c σ' C' hc w) hd⟩
theorem q_asgCall {sp : Sp} {dvs vs : List V} {E : XK} {ta : TA} {i : Nat} (h : EvA ta σ H vs) (k : ∀ B, Ex H B → sp (vs ++ dvs) B (fun v C => tz D (σ.set i (some v)) C) E) : tSeq (tAsg (tCall sp dvs E ta) (gName i)) tz D σ H := h H (.refl H) _ k
theorem st_nf {t : TS} {σ' : L2.St} (e : σ = σ') (h : t D σ' H) : t D σ H := e ▸ h
end
def spLaw (K : PySem.W.Frag) : Sp := fun vs H Q _ => ∃ (a : Addr) (ns : List Int), vs = [.ref a] ∧ SqL K H a (ns.map V.int) ∧ ns.length ≤ 63 ∧ ∀ B, Q (.bl true) B

/-! ### calls of what is built in; the tactics that lay these lines -/
section
variable {K : PySem.W.Frag} {σ : L2.St} {H H' : Hp} {ta tb tc te tx : TE} {t u : TT} {x y z v : V} {r r' : R2}
abbrev rLen (K : PySem.W.Frag) : List V → Hp → VK → Prop := fun vs H Q => ∃ p ys, vs = [V.ref p] ∧ (SqL K H p ys ∨ SqT K H p ys) ∧ Q (.int ys.length) H
abbrev rList (K : PySem.W.Frag) : List V → Hp → VK → Prop := fun vs H Q => ∃ p ys, vs = [V.ref p] ∧ (SqL K H p ys ∨ SqT K H p ys) ∧ ∀ l, H l = none → Q (.ref l) (upd H l (.lst ys))
theorem rc_len {p : Addr} {xs : List V} (h : SqL K H p xs) : RC (rLen K) [.ref p] H (.int xs.length) := fun A e _ q => ⟨p, xs, rfl, .inl (ex_l e h), q A (.refl A)⟩
theorem rc_lenT {p : Addr} {xs : List V} (h : SqT K H p xs) : RC (rLen K) [.ref p] H (.int xs.length) := fun A e _ q => ⟨p, xs, rfl, .inr (ex_t e h), q A (.refl A)⟩
theorem rc_lenS {s : Str} (h : s.length ≤ 100000) : RC (fun vs H Q => ∃ z, vs = [V.str z] ∧ z.length ≤ sizeLine ∧ Q (.int z.length) H) [.str s] H (.int s.length) := fun A _ _ q => ⟨s, rfl, sz_of h, q A (.refl A)⟩
theorem rc_intB {b : Bool} : RC (fun vs H Q => (∃ i, vs = [V.int i] ∧ Q (.int i) H) ∨ ∃ k, vs = [V.bl k] ∧ Q (.int (if k then 1 else 0)) H) [.bl b] H (.int (if b then 1 else 0)) := fun A _ _ q => .inr ⟨b, rfl, q A (.refl A)⟩
theorem rc_strI {i : Int} (h : i.natAbs.log2 < 1920) : RC (fun vs H Q => ∃ i, vs = [V.int i] ∧ i.natAbs.log2 < 1920 ∧ Q (.str (toString i)) H) [.int i] H (.str (toString i)) := fun A _ _ q => ⟨i, rfl, h, q A (.refl A)⟩
/-- isinstance of a value whose type is known, and a built-in type -/
theorem rc_isi {c : String} {n : String} {b : Bool} (ht : ∀ B, Ex H B → TyX K B x (.type c)) (hk : kitB c n = some b) : RC (rIsi K) [x, .ty n] H (.bl b) := fun A e _ q => ⟨x, .ty n, .type c, .type n, b, rfl, .ty n, ht A e, kit_ty hk, q A (.refl A)⟩
theorem tx_int {i : Int} : ∀ B, Ex H B → TyX K B (.int i) (.type "int") := fun _ _ => .base (.int i)
theorem tx_str {s : Str} : ∀ B, Ex H B → TyX K B (.str s) (.type "str") := fun _ _ => .base (.str s)
theorem tx_lst {a : Addr} {xs : List V} (h : H a = some (.lst xs)) : ∀ B, Ex H B → TyX K B (.ref a) (.type "list") := fun _ e => .base (.lst (e.k h))
theorem tx_tup {a : Addr} {xs : List V} (h : H a = some (.tup xs)) : ∀ B, Ex H B → TyX K B (.ref a) (.type "tuple") := fun _ e => .base (.tup (e.k h))
theorem rv_add_str {a b : Str} (h : a.length + b.length ≤ 100000) : RV (fun x y H Q => ∃ i j, x = V.str i ∧ y = V.str j ∧ i.length + j.length ≤ sizeLine ∧ Q (.str (i ++ j)) H) (.str a) (.str b) H (.str (a ++ b)) := fun A _ _ q => ⟨a, b, rfl, rfl, sz_of h, q A (.refl A)⟩
theorem rv_NT {a b : String} : RV rNT (.ty a) (.ty b) H (.bl (!decide (a = b))) := fun A _ _ q => ⟨a, b, rfl, rfl, q A (.refl A)⟩
theorem rc_typI {i : Int} : RC (rTyp K) [.int i] H (.ty "int") := fun A _ _ q => ⟨.int i, "int", rfl, .int i, q A (.refl A)⟩
theorem rv_isN : RV (fun x y H Q => y = V.non ∧ Q (.bl (decide (x = .non))) H) x .non H (.bl (decide (x = .non))) := fun A _ _ q => ⟨rfl, q A (.refl A)⟩
theorem ev_neg {i : Int} (h : Ev ta σ H (.int i)) : Ev (tUn (rU fun i => .int (-i)) ta) σ H (.int (-i)) := ev_un h fun A _ _ q => ⟨i, rfl, q A (.refl A)⟩
end
theorem kb_ss : kitB "str" "str" = some true := by decide +kernel
theorem kb_ii : kitB "int" "int" = some true := by decide +kernel
theorem kb_ib : kitB "int" "bool" = some false := by decide +kernel
theorem kb_ll : kitB "list" "list" = some true := by decide +kernel
theorem kb_tt : kitB "tuple" "tuple" = some true := by decide +kernel
theorem decide_int (i j : Int) : decide (V.int i = V.int j) = decide (i = j) := by
  by_cases h : i = j
  · rw [h, decide_eq_true rfl, decide_eq_true rfl]
  · rw [decide_eq_false h, decide_eq_false (fun q => h (V.int.inj q))]
theorem decide_str (i j : Str) : decide (V.str i = V.str j) = decide (i = j) := by
  by_cases h : i = j
  · rw [h, decide_eq_true rfl, decide_eq_true rfl]
  · rw [decide_eq_false h, decide_eq_false (fun q => h (V.str.inj q))]
local macro_rules | `(tactic| walk_at "cond") => `(tactic| first | (with_reducible assumption) | decide | (show (0 : Int) < _; decide) | (exact ⟨by decide, by decide⟩) | (exact ⟨by decide, by decide, by decide⟩) | (exact ⟨by omega, by omega⟩) | (exact Or.inl ⟨by decide, by decide⟩) | (exact Or.inr ⟨by decide, by decide⟩) | (exact Or.inl ⟨by omega, by omega⟩) | (exact Or.inr ⟨by omega, by omega⟩) | omega)
local macro_rules | `(tactic| walk_at "seq") => `(tactic| first | (with_reducible assumption) | (exact sq_of (by with_reducible assumption)) | (exact st_of (by with_reducible assumption)) | (exact ex_l (by with_reducible assumption) (by with_reducible assumption)) | (exact ex_t (by with_reducible assumption) (by with_reducible assumption)))
local macro_rules | `(tactic| walk_at "rv") => `(tactic| first | (with_reducible exact rv_I0) | ((with_reducible apply rv_I); walk_at "cond") | ((with_reducible apply rv_eq); rfl) | ((with_reducible apply rv_ne); rfl) | (with_reducible exact rv_NT) | (with_reducible exact rv_isN) | ((with_reducible apply rv_add_str); walk_at "cond") | ((with_reducible apply rv_ixT); walk_at "seq"; rfl))
local macro_rules | `(tactic| walk_at "rc") => `(tactic| first | ((with_reducible apply rc_len); walk_at "seq") | ((with_reducible apply rc_lenT); walk_at "seq") | ((with_reducible apply rc_lenS); walk_at "cond") | (with_reducible exact rc_intB) | (with_reducible exact rc_typI) | ((with_reducible apply rc_strI); walk_at "cond") | (exact rc_isi tx_str kb_ss) | (exact rc_isi tx_int kb_ii) | (exact rc_isi tx_int kb_ib) | (exact rc_isi (tx_lst (by with_reducible assumption)) kb_ll) | (exact rc_isi (tx_tup (by with_reducible assumption)) kb_tt))
local macro_rules | `(tactic| walk_at "spv") => `(tactic| fail "no promise")
local macro_rules | `(tactic| walk_at "ea") => `(tactic| first | (with_reducible exact ea_nil) | ((with_reducible apply ea_cons); walk_at "ev"; walk_at "ea"))
local macro_rules | `(tactic| walk_at "eo") => `(tactic| first | (with_reducible exact eo_none) | ((with_reducible apply eo_some); walk_at "ev"))
local macro_rules | `(tactic| walk_at "ev") => `(tactic| first
  | (with_reducible exact ev_c)
  | ((with_reducible apply ev_var); rfl)
  | ((with_reducible apply ev_op); walk_at "ev"; walk_at "ev"; walk_at "rv")
  | ((with_reducible apply ev_cb); walk_at "ea"; walk_at "rc")
  | ((with_reducible apply ev_call); walk_at "ea"; walk_at "spv")
  | ((with_reducible apply ev_neg); walk_at "ev")
  | ((with_reducible apply ev_notV); walk_at "ev")
  | ((with_reducible apply ev_andV); walk_at "ev"; (intro _; walk_at "ev"))
  | ((with_reducible apply ev_orV); walk_at "ev"; (intro _; walk_at "ev")))
local macro_rules | `(tactic| walk_at "et") => `(tactic| first
  | ((with_reducible apply et_chain); walk_at "ev"; walk_at "ev"; walk_at "rv"; (intro _; walk_at "ev"); (intro _; walk_at "rv"))
  | ((with_reducible apply et_test); walk_at "ev")
  | ((with_reducible apply et_B); walk_at "ev")
  | ((with_reducible apply et_not); walk_at "et")
  | ((with_reducible apply et_or); walk_at "et"; (intro _; walk_at "et"))
  | ((with_reducible apply et_and); walk_at "et"; (intro _; walk_at "et")))
local macro_rules | `(tactic| walk_at "asg") => `(tactic| ((first | with_reducible apply q_asg | with_reducible apply s_asg); walk_at "ev"))
local macro_rules | `(tactic| walk_at "drop") => `(tactic| ((first | with_reducible apply q_drop | with_reducible apply s_drop); walk_at "ev"))
local macro_rules | `(tactic| walk_at "ret") => `(tactic| ((with_reducible apply s_retk); walk_at "ev"))
local macro_rules | `(tactic| walk_at "when") => `(tactic| ((first | with_reducible apply q_when | with_reducible apply s_when | with_reducible apply q_if | with_reducible apply s_if); walk_at "et"))

/-! ### lists of things told by data -/
structure Rp (α : Type) where
  R : Hp → V → α → Prop
  mono : ∀ {H H' : Hp} {v : V} {a : α}, Ex H H' → R H v a → R H' v a
  lst : ∀ {H : Hp} {D : Addr} {xs ys : List V} {v : V} {a : α}, H D = some (.lst xs) → R H v a → R (upd H D (.lst ys)) v a
def rpInt : Rp Int := ⟨fun _ v i => v = .int i, fun _ h => h, fun _ h => h⟩
def rpStr : Rp Str := ⟨fun _ v s => v = .str s, fun _ h => h, fun _ h => h⟩
/-- a thing: a tuple of a name and a value -/
def Thg (H : Hp) (v : V) (p : Int × Int) : Prop := ∃ t, v = .ref t ∧ H t = some (.tup [.int p.1, .int p.2])
def rpT : Rp (Int × Int) := ⟨Thg, fun e ⟨t, h1, h2⟩ => ⟨t, h1, e.k h2⟩, fun hD ⟨t, h1, h2⟩ => ⟨t, h1, by rw [upd_ne (ne_of h2 hD (by intro z; cases z))]; exact h2⟩⟩
abbrev PR {α : Type} (r : Rp α) (H : Hp) (xs : List V) (as : List α) : Prop := Paired (r.R H) xs as
/-- at p a list that is told by as -/
def LR {α : Type} (r : Rp α) (H : Hp) (p : Addr) (as : List α) : Prop := ∃ ys, H p = some (.lst ys) ∧ PR r H ys as
section
variable {α β : Type} {r : Rp α} {r' : Rp β} {H H' : Hp} {xs ys : List V} {as bs : List α}
theorem pr_mono (e : Ex H H') : ∀ {xs : List V} {as : List α}, PR r H xs as → PR r H' xs as
  | _, _, .nil => .nil
  | _, _, .cons h t => .cons (r.mono e h) (pr_mono e t)
theorem pr_lst {D : Addr} {zs ws : List V} (h : H D = some (.lst zs)) : ∀ {xs : List V} {as : List α}, PR r H xs as → PR r (upd H D (.lst ws)) xs as
  | _, _, .nil => .nil
  | _, _, .cons a t => .cons (r.lst h a) (pr_lst h t)
theorem pr_get : ∀ {xs : List V} {as : List α} {i : Nat} {x : V}, PR r H xs as → xs[i]? = some x → ∃ a, as[i]? = some a ∧ r.R H x a
  | _, _, i, x, .nil, h => by simp at h
  | _, _, 0, x, .cons a t, h => by
    cases (Option.some.inj h)
    exact ⟨_, rfl, a⟩
  | _, _, i + 1, x, .cons a t, h => pr_get (i := i) t h
theorem pr_at : ∀ {xs : List V} {as : List α} {i : Nat} {a : α}, PR r H xs as → as[i]? = some a → ∃ x, xs[i]? = some x ∧ r.R H x a
  | _, _, i, x, .nil, h => by simp at h
  | _, _, 0, x, .cons a t, h => by
    cases (Option.some.inj h)
    exact ⟨_, rfl, a⟩
  | _, _, i + 1, x, .cons a t, h => pr_at (i := i) t h
theorem pr_app : ∀ {xs ys : List V} {as bs : List α}, PR r H xs as → PR r H ys bs → PR r H (xs ++ ys) (as ++ bs)
  | _, _, _, _, .nil, h => h
  | _, _, _, _, .cons a t, h => .cons a (pr_app t h)
theorem LR.mono (e : Ex H H') {p : Addr} (h : LR r H p as) : LR r H' p as := by
  obtain ⟨ys, h1, h2⟩ := h
  exact ⟨ys, e.k h1, pr_mono e h2⟩
theorem pr_ints : ∀ {ms : List Int}, PR rpInt H (ms.map V.int) ms
  | [] => .nil
  | _ :: _ => .cons rfl pr_ints
theorem pr_ints_eq : ∀ {xs : List V} {ms : List Int}, PR rpInt H xs ms → xs = ms.map V.int
  | _, _, .nil => rfl
  | _, _, .cons h t => by
    rw [pr_ints_eq t, show _ = V.int _ from h]
    rfl
theorem take_snoc {γ : Type} {l : List γ} {i : Nat} {x : γ} (h : l[i]? = some x) : l.take (i + 1) = l.take i ++ [x] := by
  rw [List.take_add_one, h]
  rfl
end
/-- what evaluates to something told; to a new list of things told -/
abbrev EvR (te : TE) (σ : L2.St) (H : Hp) (P : Hp → V → Prop) : Prop := EvG te σ H fun _ v B => P B v
abbrev EvLR {β : Type} (r : Rp β) (te : TE) (σ : L2.St) (H : Hp) (bs : List β) : Prop := EvG te σ H fun A v B => ∃ p, v = .ref p ∧ A p = none ∧ LR r B p bs
def RetLR {β : Type} (r : Rp β) (bs : List β) (H : Hp) (Q : VK) : Prop := ∀ p B, H p = none → Ex H B → LR r B p bs → Q (.ref p) B
section
variable {α β : Type} {r : Rp α} {r' : Rp β} {K : PySem.W.Frag} {σ : L2.St} {H H' : Hp} {ta tb te tl : TE} {t : TT} {x y v : V} {D : Ends} {tz : TS}
theorem RetLR.mono {bs : List β} {Q : VK} (e : Ex H H') (k : RetLR r' bs H Q) : RetLR r' bs H' Q := fun p B hp b h => k p B (fresh_back e hp) (e.trans b) h
theorem ev_R {P : Hp → V → Prop} (h : Ev te σ H v) (hp : ∀ B, Ex H B → P B v) : EvR te σ H P := h.g fun A B a b => hp B (a.trans b)
theorem ev_Rtup {vs : List V} {ta : TA} {P : Hp → V → Prop} (h : EvA ta σ H vs) (hl : vs.length ≤ 100000) (hp : ∀ p B, B p = some (.tup vs) → P B (.ref p)) : EvR (tTup ta) σ H P := (eg_tup h hl).imp fun A v B _ _ ⟨p, e, _, h⟩ => e ▸ hp p B h
theorem EvLR.to {as bs : List β} (h : EvLR r' te σ H as) (e : as = bs) : EvLR r' te σ H bs := e ▸ h
theorem lcLR {xs : List V} {as : List α} {a : Addr} {j : Nat} {vs : List Nat} (q : α → Bool) (g : α → β) (h : Ev tl σ H (.ref a)) (hx : SqL K H a xs) (hp : PR r H xs as) (hz : as.length ≤ 40000)
    (hw : ∀ x, wipe ((wipe σ vs).set j (some x)) vs = wipe σ vs)
    (ht : ∀ x b H1, Ex H H1 → b ∈ as → r.R H1 x b → EvT t ((wipe σ vs).set j (some x)) H1 (q b))
    (he : ∀ x b H1, Ex H H1 → b ∈ as → r.R H1 x b → q b = true → EvR te ((wipe σ vs).set j (some x)) H1 (fun H2 v => r'.R H2 v (g b))) :
    EvLR r' (tLc (iList K tl) (gName j) t te vs) σ H ((as.filter q).map g) := fun H0 e Q qq => h H0 e _ fun H1 e1 => ⟨a, rfl, ⟨xs, ex_l (e.trans e1) hx⟩, fun Dl hD => by
  have hlen := hp.length
  refine lc_list (xs := xs) (fun i H' => Ex H1 H' ∧ ∃ ys, H' Dl = some (.lst ys) ∧ ys.length ≤ i ∧ PR r' H' ys (((as.take i).filter q).map g)) ⟨Ex.new hD, [], upd_same, Nat.le_refl _, by rw [List.take_zero]; exact .nil⟩ (fun i H' _ p => ex_l ((e.trans e1).trans p.1) hx) (fun i x H' hi p => ⟨hw x, ?_⟩) fun H' p => ?_
  · obtain ⟨p1, ys, p2, p3, p4⟩ := p
    obtain ⟨b, hb, rb⟩ := pr_get hp hi
    have hmem : b ∈ as := List.mem_of_getElem? hb
    have hil : i < xs.length := (List.getElem?_eq_some_iff.mp hi).1
    have eE := (e.trans e1).trans p1
    refine ht x b H' eE hmem (r.mono eE rb) H' (Ex.refl H') _ fun H3 e3 => ?_
    cases hq : q b with
    | true =>
      show te ((wipe σ vs).set j (some x)) H3 _
      refine he x b H' eE hmem (r.mono eE rb) hq H3 e3 _ fun y H4 e4 ry => ⟨ys, e4.k (e3.k p2), sz_lt (by omega), Ex.mut ((p1.trans e3).trans e4) hD (e4.k (e3.k p2)), ys ++ [y], upd_same, by rw [List.length_append]; exact Nat.succ_le_succ p3, ?_⟩
      have hD4 : H4 Dl = some (.lst ys) := e4.k (e3.k p2)
      rw [take_snoc hb, List.filter_append, List.map_append, List.filter_cons, if_pos hq]
      exact pr_lst hD4 (pr_app (pr_mono (e3.trans e4) p4) (.cons ry .nil))
    | false =>
      show Ex H1 H3 ∧ _
      refine ⟨p1.trans e3, ys, e3.k p2, by omega, ?_⟩
      rw [take_snoc hb, List.filter_append, List.filter_cons, if_neg (by rw [hq]; decide), List.filter_nil, List.append_nil]
      exact pr_mono e3 p4
  · obtain ⟨p1, ys, p2, p3, p4⟩ := p
    refine qq _ H' (e1.trans p1) ⟨Dl, rfl, fresh_back e1 hD, ys, p2, ?_⟩
    rw [hlen, List.take_length] at p4
    exact p4⟩
/-- over range(n) -/
theorem lcRR {ta : TA} {j : Nat} {vs : List Nat} {n : Nat} (q : Nat → Bool) (g : Nat → β) (h : EvA ta σ H [.int (n : Int)]) (hn : n ≤ 40000) (hw : ∀ x, wipe ((wipe σ vs).set j (some x)) vs = wipe σ vs)
    (ht : ∀ (i : Nat) H1, Ex H H1 → i < n → EvT t ((wipe σ vs).set j (some (.int (i : Int)))) H1 (q i))
    (he : ∀ (i : Nat) H1, Ex H H1 → i < n → q i = true → EvR te ((wipe σ vs).set j (some (.int (i : Int)))) H1 (fun H2 v => r'.R H2 v (g i))) :
    EvLR r' (tLc (iRng1 ta) (gName j) t te vs) σ H (((List.range n).filter q).map g) := fun H0 e Q qq => h H0 e _ fun H1 e1 => ⟨(n : Int), rfl, by omega, by omega, fun Dl hD => by
  refine lc_range (lo := 0) (n := n) (fun i H' => Ex H1 H' ∧ ∃ ys, H' Dl = some (.lst ys) ∧ ys.length ≤ i ∧ PR r' H' ys (((List.range i).filter q).map g)) ⟨Ex.new hD, [], upd_same, Nat.le_refl _, .nil⟩ (fun i H' hi p => ?_) fun H' p => ?_
  · obtain ⟨p1, ys, p2, p3, p4⟩ := p
    have e0 : (0 : Int) + (i : Int) = (i : Int) := Int.zero_add _
    rw [e0]
    refine ⟨hw _, ?_⟩
    have eE := (e.trans e1).trans p1
    refine ht i H' eE hi H' (Ex.refl H') _ fun H3 e3 => ?_
    cases hq : q i with
    | true =>
      show te ((wipe σ vs).set j (some (.int (i : Int)))) H3 _
      refine he i H' eE hi hq H3 e3 _ fun y H4 e4 ry => ⟨ys, e4.k (e3.k p2), sz_lt (by omega), Ex.mut ((p1.trans e3).trans e4) hD (e4.k (e3.k p2)), ys ++ [y], upd_same, by rw [List.length_append]; exact Nat.succ_le_succ p3, ?_⟩
      have hD4 : H4 Dl = some (.lst ys) := e4.k (e3.k p2)
      rw [List.range_succ, List.filter_append, List.map_append, List.filter_cons, if_pos hq]
      exact pr_lst hD4 (pr_app (pr_mono (e3.trans e4) p4) (.cons ry .nil))
    | false =>
      show Ex H1 H3 ∧ _
      refine ⟨p1.trans e3, ys, e3.k p2, by omega, ?_⟩
      rw [List.range_succ, List.filter_append, List.filter_cons, if_neg (by rw [hq]; decide), List.filter_nil, List.append_nil]
      exact pr_mono e3 p4
  · obtain ⟨p1, ys, p2, p3, p4⟩ := p
    exact qq _ H' (e1.trans p1) ⟨Dl, rfl, fresh_back e1 hD, ys, p2, p4⟩⟩
theorem q_asgLR {i : Nat} {bs : List β} (h : EvLR r' te σ H bs) (k : ∀ p B, H p = none → Ex H B → LR r' B p bs → tz D (σ.set i (some (.ref p))) B) : tSeq (tAsg te (gName i)) tz D σ H := q_asgG h fun _ B e ⟨p, ev, hp, l⟩ => ev ▸ k p B hp e l
theorem s_retLR {bs : List β} (h : EvLR r' te σ H bs) (k : RetLR r' bs H D.rt) : tRet te D σ H := s_retG h fun _ B e ⟨p, ev, hp, l⟩ => ev ▸ k p B hp e l
/-- a promise that hands back a new list -/
def SpLR (r : Rp β) (sp : Sp) (vs : List V) (H : Hp) (bs : List β) : Prop := ∀ A, Ex H A → ∀ Q : VK, RetLR r bs A Q → ∀ E : XK, sp vs A Q E
theorem ev_callLR {sp : Sp} {dvs vs : List V} {E : XK} {ta : TA} {bs : List β} (h : EvA ta σ H vs) (hs : SpLR r' sp (vs ++ dvs) H bs) : EvLR r' (tCall sp dvs E ta) σ H bs := fun A a Q q =>
  h A a _ fun B b => hs B (a.trans b) Q (fun p C hp c l => q _ C (b.trans c) ⟨p, rfl, fresh_back b hp, l⟩) E
/-- l + m of two lists, both new -/
theorem ev_catLR {as bs : List β} (ha : EvLR r' ta σ H as) (hb : EvLR r' tb σ H bs) (hz : as.length + bs.length ≤ 100000) : EvLR r' (tOp rCat ta tb) σ H (as ++ bs) := fun A a Q q =>
  ha A a _ fun _ B b ⟨p, ev, _, xs, h1, h2⟩ => hb B (a.trans b) _ fun _ C c ⟨p', ev', _, ys, h3, h4⟩ => by
    refine ⟨p, p', xs, ys, ev, ev', c.k h1, h3, ?_, fun l hl => ?_⟩
    · rw [h2.length, h4.length]
      exact sz_of hz
    · exact q _ _ ((b.trans c).trans (.new hl)) ⟨l, rfl, fresh_back (b.trans c) hl, _, upd_same, pr_mono (.new hl) (pr_app (pr_mono c h2) h4)⟩
/-- l + m of two lists that stand -/
theorem ev_catV {as bs : List β} {p p' : Addr} (ha : Ev ta σ H (.ref p)) (hb : Ev tb σ H (.ref p')) (h1 : LR r' H p as) (h2 : LR r' H p' bs) (hz : as.length + bs.length ≤ 100000) : EvLR r' (tOp rCat ta tb) σ H (as ++ bs) := fun A a Q q =>
  ha A a _ fun B b => hb B (a.trans b) _ fun C c => by
    obtain ⟨xs, g1, g2⟩ := h1.mono ((a.trans b).trans c)
    obtain ⟨ys, g3, g4⟩ := h2.mono ((a.trans b).trans c)
    refine ⟨p, p', xs, ys, rfl, rfl, g1, g3, ?_, fun l hl => ?_⟩
    · rw [g2.length, g4.length]
      exact sz_of hz
    · exact q _ _ ((b.trans c).trans (.new hl)) ⟨l, rfl, fresh_back (b.trans c) hl, _, upd_same, pr_mono (.new hl) (pr_app g2 g4)⟩
end
/-! ### data compared -/
def dI (ms : List Int) : PyData := .list (ms.map PyData.int)
def dT (ps : List (Int × Int)) : PyData := .list (ps.map fun p => .tuple [.int p.1, .int p.2])
theorem lay_ints : ∀ ms : List Int, PyData.canLayAll0 (ms.map PyData.int) = true
  | [] => rfl
  | m :: r => by
    show (PyData.canLay0 (.int m) && PyData.canLayAll0 (r.map PyData.int)) = true
    rw [lay_ints r]
    rfl
theorem deep_ints : ∀ ms : List Int, PyData.depthAll (ms.map PyData.int) ≤ 1
  | [] => by simp [PyData.depthAll]
  | m :: r => by
    have := deep_ints r
    show max (PyData.depth (.int m)) (PyData.depthAll (r.map PyData.int)) ≤ 1
    have h0 : PyData.depth (.int m) = 0 := by simp [PyData.depth]
    omega
theorem shaped_dI (ms : List Int) : SeqAt.shaped (dI ms) = true := by
  unfold SeqAt.shaped
  have h1 : (dI ms).canLay0 = true := lay_ints ms
  have h2 : (dI ms).depth ≤ 64 := by
    have := deep_ints ms
    show PyData.depthAll (ms.map PyData.int) + 1 ≤ 64
    omega
  rw [h1, decide_eq_true h2]
  rfl
theorem lay_pairs : ∀ ps : List (Int × Int), PyData.canLayAll0 (ps.map fun p => .tuple [.int p.1, .int p.2]) = true
  | [] => rfl
  | m :: r => by
    show (PyData.canLay0 (.tuple [.int m.1, .int m.2]) && PyData.canLayAll0 (r.map fun p => .tuple [.int p.1, .int p.2])) = true
    rw [lay_pairs r]
    rfl
theorem deep_pairs : ∀ ps : List (Int × Int), PyData.depthAll (ps.map fun p => .tuple [.int p.1, .int p.2]) ≤ 2
  | [] => by simp [PyData.depthAll]
  | m :: r => by
    have := deep_pairs r
    show max (PyData.depth (.tuple [.int m.1, .int m.2])) (PyData.depthAll (r.map fun p => .tuple [.int p.1, .int p.2])) ≤ 2
    have h0 : PyData.depth (.tuple [.int m.1, .int m.2]) ≤ 2 := by simp [PyData.depth, PyData.depthAll]
    omega
theorem shaped_dT (ps : List (Int × Int)) : SeqAt.shaped (dT ps) = true := by
  unfold SeqAt.shaped
  have h1 : (dT ps).canLay0 = true := lay_pairs ps
  have h2 : (dT ps).depth ≤ 64 := by
    have := deep_pairs ps
    show PyData.depthAll (ps.map fun p => .tuple [.int p.1, .int p.2]) + 1 ≤ 64
    omega
  rw [h1, decide_eq_true h2]
  rfl
theorem eqv_pairs : ∀ ps : List (Int × Int), PyData.eqvAll (ps.map fun p => .tuple [.int p.1, .int p.2]) (ps.map fun p => .tuple [.int p.1, .int p.2]) = true
  | [] => by simp [PyData.eqvAll]
  | m :: r => by
    have := eqv_pairs r
    simp only [List.map_cons, PyData.eqvAll, this, Bool.and_true, PyData.eqv, beq_self_eq_true]
theorem eqv_dT (ps : List (Int × Int)) : PyData.eqv (dT ps) (dT ps) = true := by
  have := eqv_pairs ps
  simp only [dT, PyData.eqv, this]
theorem eqv_nil (ms : List Int) : PyData.eqv (dI ms) (.list []) = ms.isEmpty := by
  cases ms <;> simp [dI, PyData.eqv, PyData.eqvAll]
section
variable {K : PySem.W.Frag} {σ : L2.St} {H H' : Hp} {ta tb te : TE}
theorem dp_ints {xs : List V} {ms : List Int} (h : PR rpInt H xs ms) : DpAll K H xs (ms.map PyData.int) := by
  induction h with
  | nil => exact .nil
  | cons a t ih =>
    rw [show _ = V.int _ from a]
    exact .cons (.int _) ih
theorem dp_pairs : ∀ {xs : List V} {ps : List (Int × Int)}, PR rpT H xs ps → DpAll K H xs (ps.map fun p => .tuple [.int p.1, .int p.2])
  | _, _, .nil => .nil
  | _, _, .cons ⟨t, e, h⟩ r => by
    rw [e]
    exact .cons (.tup (st_of h) (.cons (.int _) (.cons (.int _) .nil))) (dp_pairs r)
theorem ev_neNil {p : Addr} {ms : List Int} (ha : Ev ta σ H (.ref p)) (h : LR rpInt H p ms) : Ev (tOp (rNeD K) ta (tLst tNil)) σ H (.bl (!ms.isEmpty)) := by
  obtain ⟨ys, h1, h2⟩ := h
  refine ev_opR ha (eg_lst ea_nil (by decide)) fun A w B a b ⟨q, e, _, hq⟩ C c Q k => ?_
  subst e
  refine ⟨dI ms, .list [], .lst (sq_of (((a.trans b).trans c).k h1)) (dp_ints (pr_mono ((a.trans b).trans c) h2)), .lst (sq_of (c.k hq)) .nil, shaped_dI ms, by decide +kernel, ?_⟩
  rw [eqv_nil]
  exact k C (.refl C)
theorem ev_eqTT {as bs : List (Int × Int)} (ha : EvLR rpT ta σ H as) (hb : EvLR rpT tb σ H bs) (he : as = bs) : Ev (tOp (rEqD K) ta tb) σ H (.bl true) := fun A a Q q =>
  ha A a _ fun _ B b ⟨p, ev, _, xs, h1, h2⟩ => hb B (a.trans b) _ fun _ C c ⟨p', ev', _, ys, h3, h4⟩ => by
    subst he ev ev'
    refine ⟨dT as, dT as, .lst (sq_of (c.k h1)) (dp_pairs (pr_mono c h2)), .lst (sq_of h3) (dp_pairs h4), shaped_dT _, shaped_dT _, ?_⟩
    rw [eqv_dT]
    exact q C (b.trans c)
theorem ev_listLR {α : Type} {r : Rp α} {p : Addr} {as : List α} (ha : Ev ta σ H (.ref p)) (h : LR r H p as) : EvLR r (tCB (rList K) (tCons ta tNil)) σ H as := fun A a Q q =>
  ha A a _ fun B b => by
    obtain ⟨ys, h1, h2⟩ := h.mono (a.trans b)
    exact ⟨p, ys, rfl, .inl (sq_of h1), fun l hl => q _ _ (b.trans (.new hl)) ⟨l, rfl, fresh_back b hl, ys, upd_same, pr_mono (.new hl) h2⟩⟩
theorem el_oneLR {α : Type} {r : Rp α} {b : α} (h : EvR te σ H (fun B v => r.R B v b)) : EvLR r (tLst (tCons te tNil)) σ H [b] := fun A a Q q =>
  h A a _ fun v B e hv => ⟨by show 1 ≤ sizeLine; decide, fun l hl => q _ _ (e.trans (.new hl)) ⟨l, rfl, fresh_back e hl, _, upd_same, .cons (r.mono (.new hl) hv) .nil⟩⟩
end

/-! ### more of what evaluates -/
theorem ev_opL {K : PySem.W.Frag} {σ : L2.St} {H : Hp} {ta tb : TE} {y z : V} {r : R2} {P : Hp → V → Hp → Prop} (ha : EvG ta σ H P) (hb : Ev tb σ H y) (hr : ∀ A w B, Ex H A → Ex A B → P A w B → RV r w y B z) : Ev (tOp r ta tb) σ H z := fun A a Q q =>
  ha A a _ fun w B b p => hb B (a.trans b) _ fun C c => hr A w B a b p C c Q fun D d => q D ((b.trans c).trans d)
theorem el_sortI {K : PySem.W.Frag} {σ : L2.St} {H : Hp} {te : TE} {ns : List Int} (h : EvLR rpInt te σ H ns) : EvG (tCB (rSortedI K) (tCons te tNil)) σ H (fun A v B => ∃ p ms, v = .ref p ∧ A p = none ∧ LR rpInt B p ms ∧ ms.Perm ns ∧ ms.Pairwise (· ≤ ·)) := fun A a Q q =>
  h A a _ fun v B b ⟨p, ev, hp, xs, h1, h2⟩ => ⟨p, ns, by rw [ev], sq_of (by rw [h1, pr_ints_eq h2]), fun ms p' perm pw hp' => q _ _ (b.trans (.new hp')) ⟨p', ms, rfl, fresh_back b hp', ⟨_, upd_same, pr_ints⟩, perm, pw⟩⟩
/-! ### a comprehension over what is told; a slice; sorted pairs -/
section
variable {K : PySem.W.Frag} {σ : L2.St} {H H' : Hp} {ta tb te tl : TE} {t : TT} {g : TG} {vs : List Nat} {P P3 : Hp → V → Hp → Prop}
theorem lcG (h : EvG tl σ H P) (k : ∀ A v B, Ex H A → Ex A B → P A v B → EvG (tLc (iList K (tC v)) g t te vs) σ B (fun _ w C => P3 A w C)) : EvG (tLc (iList K tl) g t te vs) σ H P3 := fun A a Q q =>
  h A a _ fun v B b p => k A v B a b p B (.refl B) Q fun w C c r => q w C (b.trans c) r
theorem ev_callG {sp : Sp} {dvs us : List V} {E : XK} {ta : TA} {R : V → Hp → Prop} (h : EvA ta σ H us) (hs : ∀ B, Ex H B → ∀ Q : VK, (∀ v C, Ex B C → R v C → Q v C) → ∀ E, sp (us ++ dvs) B Q E) : EvG (tCall sp dvs E ta) σ H (fun _ v C => R v C) := fun A a Q q =>
  h A a _ fun B b => hs B (a.trans b) Q (fun v C c r => q v C (b.trans c) r) E
theorem cutV_take (xs : List V) (n : Nat) : cutV xs none (some (n : Int)) = xs.take n := by
  unfold cutV
  rw [HT.sIx_none, HT.sIx_nat, List.drop_zero, Nat.sub_zero]
  rcases Nat.le_total n xs.length with h | h
  · rw [Nat.min_eq_left h]
  · rw [Nat.min_eq_right h, List.take_length, List.take_of_length_le h]
theorem pr_take {α : Type} {r : Rp α} : ∀ (n : Nat) {xs : List V} {as : List α}, PR r H xs as → PR r H (xs.take n) (as.take n)
  | 0, _, _, _ => by
    rw [List.take_zero, List.take_zero]
    exact .nil
  | _ + 1, _, _, .nil => .nil
  | n + 1, _, _, .cons a t => .cons a (pr_take n t)
theorem el_slice {α : Type} {r : Rp α} {as : List α} {p : Addr} {th : TO} (n : Nat) (h : Ev te σ H (.ref p)) (hl : LR r H p as) (hh : EvO th σ H (some (n : Int))) : EvLR r (tSl (rSlL K) te tNoPart th) σ H (as.take n) := fun A a Q q =>
  h A a _ fun B b => hh B (a.trans b) _ fun C c => by
    obtain ⟨xs, h1, h2⟩ := hl.mono ((a.trans b).trans c)
    refine ⟨p, xs, rfl, sq_of h1, fun l hnew => ?_⟩
    rw [cutV_take]
    exact q _ _ ((b.trans c).trans (.new hnew)) ⟨l, rfl, fresh_back (b.trans c) hnew, _, upd_same, pr_mono (.new hnew) (pr_take n h2)⟩
def kH (H : Hp) : V → Int × Int
  | .ref t => (match H t with
    | some (.tup [.int i, .int j]) => (i, j)
    | _ => (0, 0))
  | _ => (0, 0)
theorem kH_is {v : V} {p : Int × Int} (h : Thg H v p) : kH H v = p := by
  obtain ⟨t, rfl, h⟩ := h
  show (match H t with
    | some (.tup [.int i, .int j]) => (i, j)
    | _ => ((0, 0) : Int × Int)) = p
  rw [h]
theorem kH_all : ∀ {xs : List V} {as : List (Int × Int)}, PR rpT H xs as → xs.map (kH H) = as ∧ ∀ x ∈ xs, ∃ t, x = .ref t ∧ H t = some (.tup [.int (kH H x).1, .int (kH H x).2])
  | _, _, .nil => ⟨rfl, by simp⟩
  | _, _, .cons h t => by
    obtain ⟨h1, h2⟩ := kH_all t
    refine ⟨by rw [List.map_cons, kH_is h, h1], fun x hx => ?_⟩
    rcases List.mem_cons.mp hx with e | e
    · obtain ⟨u, e1, e2⟩ := id h
      rw [e, kH_is h]
      exact ⟨u, e1, e2⟩
    · exact h2 x e
theorem kH_pr : ∀ {xs : List V}, (∀ x ∈ xs, ∃ t, x = .ref t ∧ H t = some (.tup [.int (kH H x).1, .int (kH H x).2])) → PR rpT H xs (xs.map (kH H))
  | [], _ => .nil
  | x :: xs, h => .cons (h x List.mem_cons_self) (kH_pr fun y hy => h y (List.mem_cons_of_mem _ hy))
theorem lex_le {a b : Int × Int} (h : SrtO.lexB b a = false) : a.1 ≤ b.1 := by
  unfold SrtO.lexB at h
  by_cases e : b.1 = a.1
  · omega
  · rw [if_neg e] at h
    have := of_decide_eq_false h
    omega
theorem el_sortT {as : List (Int × Int)} (h : EvLR rpT te σ H as) : EvG (tCB (rSortedPO K) (tCons te tNil)) σ H (fun A v B => ∃ p rs, v = .ref p ∧ A p = none ∧ LR rpT B p rs ∧ rs.Perm as ∧ rs.Pairwise (fun a b => a.1 ≤ b.1)) := fun A a Q q =>
  h A a _ fun v B b ⟨p, ev, hp, xs, h1, h2⟩ => by
    obtain ⟨e1, e2⟩ := kH_all h2
    refine ⟨p, xs, kH B, by rw [ev], sq_of h1, e2, fun ys p' srt stb hp' => ?_⟩
    refine q _ _ (b.trans (.new hp')) ⟨p', ys.map (kH B), rfl, fresh_back b hp', ⟨ys, upd_same, pr_mono (.new hp') (kH_pr fun x hx => e2 x (stb.perm.mem_iff.mp hx))⟩, ?_, ?_⟩
    · rw [← e1]
      exact stb.perm.map _
    · rw [List.pairwise_map]
      exact srt.imp fun {x y} hxy => lex_le hxy
end
theorem ev_slS {te : TE} {tl th : TO} {σ : L2.St} {H : Hp} {s : Str} {lo hi : Option Int} (h : Ev te σ H (.str s)) (h1 : EvO tl σ H lo) (h2 : EvO th σ H hi) (hz : s.length ≤ 100000) : Ev (tSl rSlS te tl th) σ H (.str (cutS s lo hi)) := fun A a Q q =>
  h A a _ fun B b => h1 B (a.trans b) _ fun C c => h2 C ((a.trans b).trans c) _ fun D d => ⟨s, rfl, sz_of hz, q D ((b.trans c).trans d)⟩
section
variable {α β : Type} {r : Rp α} {K : PySem.W.Frag} {σ : L2.St} {H : Hp} {ta te : TE} {z : V}
/-- a call with a new list -/
theorem ev_callL1 {sp : Sp} {E : XK} {as : List α} (h : EvLR r te σ H as) (hs : ∀ p B, LR r B p as → SpV sp [.ref p] B z) : Ev (tCall sp [] E (tCons te tNil)) σ H z := fun A a Q q =>
  h A a _ fun _ B b ⟨p, ev, _, l⟩ => by
    subst ev
    exact hs p B l B (.refl B) Q (fun C c => q C (b.trans c)) E
theorem ev_callL2 {sp : Sp} {E : XK} {as : List α} {y : V} (h : EvLR r te σ H as) (ht : Ev ta σ H y) (hs : ∀ p B, Ex H B → LR r B p as → SpV sp [.ref p, y] B z) : Ev (tCall sp [] E (tCons te (tCons ta tNil))) σ H z := fun A a Q q =>
  h A a _ fun _ B b ⟨p, ev, _, l⟩ => ht B (a.trans b) _ fun C c => by
    subst ev
    exact hs p C ((a.trans b).trans c) (l.mono c) C (.refl C) Q (fun D d => q D ((b.trans c).trans d)) E
theorem rv_isB {a b : Bool} : RV rIsB (.bl a) (.bl b) H (.bl (decide (a = b))) := fun A _ _ q => ⟨a, b, rfl, rfl, q A (.refl A)⟩
theorem rv_notB {a b : Bool} : RV rNotB (.bl a) (.bl b) H (.bl (!decide (a = b))) := fun A _ _ q => ⟨a, b, rfl, rfl, q A (.refl A)⟩
theorem tx_bl {b : Bool} : ∀ B, Ex H B → TyX K B (.bl b) (.type "bool") := fun _ _ => .base (.bl b)
end
theorem kb_bb : kitB "bool" "bool" = some true := by decide +kernel
theorem decide_bl (i j : Bool) : decide (V.bl i = V.bl j) = decide (i = j) := by
  by_cases h : i = j
  · rw [h, decide_eq_true rfl, decide_eq_true rfl]
  · rw [decide_eq_false h, decide_eq_false (fun q => h (V.bl.inj q))]
section
variable {α β : Type} {r : Rp α} {r' : Rp β} {K : PySem.W.Frag} {σ : L2.St} {H : Hp} {ta tb te : TE} {z y : V}
/-- a call with two new lists -/
theorem ev_callP2 {sp : Sp} {E : XK} {as : List α} {bs : List β} (ha : EvLR r ta σ H as) (hb : EvLR r' tb σ H bs) (hs : ∀ p q B, LR r B p as → LR r' B q bs → SpV sp [.ref p, .ref q] B z) : Ev (tCall sp [] E (tCons ta (tCons tb tNil))) σ H z := fun A a Q k =>
  ha A a _ fun _ B b ⟨p, ev, _, l⟩ => hb B (a.trans b) _ fun _ C c ⟨q, ev', _, l'⟩ => by
    subst ev ev'
    exact hs p q C (l.mono c) l' C (.refl C) Q (fun D d => k D ((b.trans c).trans d)) E
/-- a call with a new list, that hands back a new list -/
theorem ev_callG1 {sp : Sp} {E : XK} {as : List α} {bs : List β} (ha : EvLR r ta σ H as) (hb : Ev tb σ H y) (hs : ∀ p B, LR r B p as → SpLR r' sp [.ref p, y] B bs) : EvLR r' (tCall sp [] E (tCons ta (tCons tb tNil))) σ H bs := fun A a Q k =>
  ha A a _ fun _ B b ⟨p, ev, _, l⟩ => hb B (a.trans b) _ fun C c => by
    subst ev
    exact hs p C (l.mono c) C (.refl C) Q (fun q D hq d l => k _ D ((b.trans c).trans d) ⟨q, rfl, fresh_back (b.trans c) hq, l⟩) E
end

/-! ### texts of signs, by their length and their number -/
abbrev Code := Nat × Nat
def bl (l k : Nat) : List Nat := (List.range l).map fun t => 48 + k / 2 ^ (l - 1 - t) % 2
def bt (c : Code) : Str := ⟨(bl c.1 c.2).toArray⟩
theorem bl_len (l k : Nat) : (bl l k).length = l := by simp [bl]
theorem bt_len (c : Code) : (bt c).length = c.1 := by
  show (bl c.1 c.2).toArray.size = c.1
  rw [List.size_toArray, bl_len]
theorem bl_get {l t : Nat} (k : Nat) (h : t < l) : (bl l k)[t]? = some (48 + k / 2 ^ (l - 1 - t) % 2) := by
  unfold bl
  rw [List.getElem?_map, List.getElem?_range h]
  rfl
theorem bl_snoc (l k : Nat) : bl (l + 1) k = bl l (k / 2) ++ [48 + k % 2] := by
  unfold bl
  rw [List.range_succ, List.map_append]
  congr 1
  · refine List.map_congr_left fun t ht => ?_
    have ht := List.mem_range.mp ht
    rw [Nat.div_div_eq_div_mul, show l + 1 - 1 - t = (l - 1 - t) + 1 by omega, Nat.pow_succ, Nat.mul_comm (2 ^ _) 2]
  · rw [List.map_cons, List.map_nil, show l + 1 - 1 - l = 0 by omega, Nat.pow_zero, Nat.div_one]
theorem bl_take {j l : Nat} (k : Nat) (h : j ≤ l) : (bl l k).take j = bl j (k / 2 ^ (l - j)) := by
  unfold bl
  rw [← List.map_take, List.take_range, Nat.min_eq_left h]
  refine List.map_congr_left fun t ht => ?_
  have ht := List.mem_range.mp ht
  rw [Nat.div_div_eq_div_mul, ← Nat.pow_add, show l - j + (j - 1 - t) = l - 1 - t by omega]
theorem bl_cons (l k : Nat) : bl (l + 1) k = (48 + k / 2 ^ l % 2) :: bl l (k % 2 ^ l) := by
  apply List.ext_getElem?
  intro t
  cases t with
  | zero => rw [bl_get k (by omega)]; rfl
  | succ t =>
    rw [List.getElem?_cons_succ]
    by_cases h : t < l
    · rw [bl_get k (by omega), bl_get _ h]
      refine congrArg (fun x => some (48 + x)) ?_
      rw [show l + 1 - 1 - (t + 1) = l - 1 - t by omega]
      have e : 2 ^ l = 2 ^ (l - 1 - t) * 2 ^ (t + 1) := by rw [← Nat.pow_add]; congr 1; omega
      rw [e, Nat.mod_mul_right_div_self, Nat.pow_succ, Nat.mul_comm (2 ^ t) 2, Nat.mod_mul_right_mod]
    · rw [List.getElem?_eq_none (by rw [bl_len]; omega), List.getElem?_eq_none (by rw [bl_len]; omega)]
theorem bl_inj : ∀ {l k j : Nat}, k < 2 ^ l → j < 2 ^ l → bl l k = bl l j → k = j
  | 0, k, j, h1, h2, _ => by
    rw [Nat.pow_zero] at h1 h2
    omega
  | l + 1, k, j, h1, h2, e => by
    rw [bl_snoc, bl_snoc] at e
    have e2 := List.append_inj e (by rw [bl_len, bl_len])
    rw [Nat.pow_succ] at h1 h2
    have e3 := bl_inj (l := l) (by omega) (by omega) e2.1
    have e4 : 48 + k % 2 = 48 + j % 2 := List.head_eq_of_cons_eq e2.2
    omega
def Cv (c : Code) : Prop := c.2 < 2 ^ c.1
theorem toL_inj {a b : List Nat} (h : (⟨a.toArray⟩ : Str) = ⟨b.toArray⟩) : a = b := by
  have := congrArg (fun s : Str => s.cps.toList) h
  simpa using this
theorem bt_inj {c d : Code} (hc : Cv c) (hd : Cv d) (e : bt c = bt d) : c = d := by
  have h := toL_inj e
  have hl := congrArg List.length h
  rw [bl_len, bl_len] at hl
  obtain ⟨l, k⟩ := c
  obtain ⟨m, j⟩ := d
  simp only at hl h
  subst hl
  have e4 : k = j := bl_inj hc hd h
  rw [e4]
theorem bt_iff {c d : Code} (hc : Cv c) (hd : Cv d) : bt c = bt d ↔ c = d := ⟨bt_inj hc hd, congrArg bt⟩
theorem bt_ok (c : Code) : PyData.strOk (bt c) = true := by
  show (bl c.1 c.2).toArray.all _ = true
  rw [List.all_toArray]
  refine List.all_eq_true.mpr fun x hx => ?_
  obtain ⟨t, _, rfl⟩ := List.mem_map.mp hx
  refine decide_eq_true ?_
  omega
def c0 (c : Code) : Code := (c.1 + 1, 2 * c.2)
def c1 (c : Code) : Code := (c.1 + 1, 2 * c.2 + 1)
def up (c : Code) : Code := (c.1 - 1, c.2 / 2)
theorem app_one (a : List Nat) (x : Nat) : (⟨a.toArray⟩ : Str) ++ (⟨#[x]⟩ : Str) = ⟨(a ++ [x]).toArray⟩ := by
  show (⟨a.toArray ++ #[x]⟩ : Str) = _
  simp
theorem s0_eq : ("0" : Str) = ⟨#[48]⟩ := by decide +kernel
theorem s1_eq : ("1" : Str) = ⟨#[49]⟩ := by decide +kernel
theorem bt_0 (c : Code) : bt c ++ ("0" : Str) = bt (c0 c) := by
  rw [s0_eq]
  refine (app_one _ _).trans ?_
  show (⟨_⟩ : Str) = ⟨(bl (c.1 + 1) (2 * c.2)).toArray⟩
  rw [bl_snoc, show 2 * c.2 / 2 = c.2 by omega, show 48 + 2 * c.2 % 2 = 48 by omega]
theorem bt_1 (c : Code) : bt c ++ ("1" : Str) = bt (c1 c) := by
  rw [s1_eq]
  refine (app_one _ _).trans ?_
  show (⟨_⟩ : Str) = ⟨(bl (c.1 + 1) (2 * c.2 + 1)).toArray⟩
  rw [bl_snoc, show (2 * c.2 + 1) / 2 = c.2 by omega, show 48 + (2 * c.2 + 1) % 2 = 49 by omega]
theorem cv0 {c : Code} (h : Cv c) : Cv (c0 c) := by
  show 2 * c.2 < 2 ^ (c.1 + 1)
  have h : c.2 < 2 ^ c.1 := h
  rw [Nat.pow_succ]
  omega
theorem cv1 {c : Code} (h : Cv c) : Cv (c1 c) := by
  show 2 * c.2 + 1 < 2 ^ (c.1 + 1)
  have h : c.2 < 2 ^ c.1 := h
  rw [Nat.pow_succ]
  omega
theorem cvu {c : Code} (h : Cv c) (h1 : 0 < c.1) : Cv (up c) := by
  show c.2 / 2 < 2 ^ (c.1 - 1)
  have h : c.2 < 2 ^ c.1 := h
  rw [show c.1 = c.1 - 1 + 1 by omega, Nat.pow_succ] at h
  omega
theorem up0 (c : Code) : up (c0 c) = c := by
  show (c.1 + 1 - 1, 2 * c.2 / 2) = c
  rw [show 2 * c.2 / 2 = c.2 by omega]
  rfl
theorem up1 (c : Code) : up (c1 c) = c := by
  show (c.1 + 1 - 1, (2 * c.2 + 1) / 2) = c
  rw [show (2 * c.2 + 1) / 2 = c.2 by omega]
  rfl
theorem c01 (c : Code) : c0 c ≠ c1 c := fun h => by
  have := congrArg Prod.snd h
  simp only [c0, c1] at this
  omega
theorem cut_len (s : Str) : ∀ l : List Nat, s = ⟨l.toArray⟩ → s.length = l.length := fun l e => by
  rw [e]
  show l.toArray.size = _
  rw [List.size_toArray]
/-- the first j signs -/
theorem bt_pre {D j : Nat} (i : Nat) (h : j ≤ D) : cutS (bt (D, i)) none (some (j : Int)) = bt (j, i / 2 ^ (D - j)) := by
  unfold cutS
  rw [HT.sIx_none, HT.sIx_nat, bt_len]
  show (⟨((((bl D i).toArray.toList).drop 0).take (min j D - 0)).toArray⟩ : Str) = ⟨(bl j _).toArray⟩
  rw [Nat.min_eq_left h, List.drop_zero, Nat.sub_zero, List.toList_toArray, bl_take i h]
theorem sIx_neg1 (n : Nat) : HT.sIx (n + 1) (n + 1) (some (-1)) = n :=
  (show (if (-1 : Int) < 0 then ((-1 : Int) + ((n + 1 : Nat) : Int)).toNat else min (-1 : Int).toNat (n + 1)) = n from (if_pos (by decide)).trans (by omega))
theorem sIx_neg1' (n : Nat) : HT.sIx (n + 1) 0 (some (-1)) = n :=
  (show (if (-1 : Int) < 0 then ((-1 : Int) + ((n + 1 : Nat) : Int)).toNat else min (-1 : Int).toNat (n + 1)) = n from (if_pos (by decide)).trans (by omega))
theorem bt_up (c : Code) (h : 0 < c.1) : cutS (bt c) none (some (-1)) = bt (up c) := by
  obtain ⟨l, k⟩ := c
  obtain ⟨n, rfl⟩ : ∃ n, l = n + 1 := ⟨l - 1, by show l = l - 1 + 1; have h : 0 < l := h; omega⟩
  unfold cutS
  rw [HT.sIx_none, bt_len, sIx_neg1]
  show (⟨((((bl (n + 1) k).toArray.toList).drop 0).take (n - 0)).toArray⟩ : Str) = ⟨(bl n (k / 2)).toArray⟩
  rw [List.drop_zero, Nat.sub_zero, List.toList_toArray, bl_snoc, List.take_append_of_le_length (by rw [bl_len]; exact Nat.le_refl _), List.take_of_length_le (by rw [bl_len]; exact Nat.le_refl _)]
theorem bt_last (c : Code) (h : 0 < c.1) : cutS (bt c) (some (-1)) none = ⟨#[48 + c.2 % 2]⟩ := by
  obtain ⟨l, k⟩ := c
  obtain ⟨n, rfl⟩ : ∃ n, l = n + 1 := ⟨l - 1, by show l = l - 1 + 1; have h : 0 < l := h; omega⟩
  unfold cutS
  rw [HT.sIx_none, bt_len, sIx_neg1']
  show (⟨((((bl (n + 1) k).toArray.toList).drop n).take (n + 1 - n)).toArray⟩ : Str) = _
  rw [List.toList_toArray, bl_snoc, List.drop_append_of_le_length (by rw [bl_len]; exact Nat.le_refl _), List.drop_of_length_le (by rw [bl_len]; exact Nat.le_refl _), List.nil_append, List.take_of_length_le (by simp)]
theorem bt_nil (k : Nat) : bt (0, k) = ("" : Str) := by
  show (⟨(bl 0 k).toArray⟩ : Str) = _
  have : bl 0 k = [] := rfl
  rw [this]
  decide +kernel
/-! ### which code a place has -/
def inB (D i : Nat) (c : Code) : Bool := decide (c.1 ≤ D) && decide (i / 2 ^ (D - c.1) = c.2)
theorem inB_iff {D i : Nat} {c : Code} : inB D i c = true ↔ c.1 ≤ D ∧ i / 2 ^ (D - c.1) = c.2 := by
  unfold inB
  rw [Bool.and_eq_true_iff, decide_eq_true_iff, decide_eq_true_iff]
structure Cov (R : List Code) (D : Nat) : Prop where
  val : ∀ c ∈ R, Cv c ∧ c.1 ≤ D
  ex : ∀ i, i < 2 ^ D → ∃ c ∈ R, inB D i c = true
  uq : ∀ i, i < 2 ^ D → ∀ c ∈ R, ∀ d ∈ R, inB D i c = true → inB D i d = true → c = d
def atC (R : List Code) (D i : Nat) : Code := (R.filter (inB D i)).headD (0, 0)
def boardC (R : List Code) (D : Nat) : List Code := (List.range (2 ^ D)).map (atC R D)
theorem atC_eq {R : List Code} {D i : Nat} {c : Code} (h : Cov R D) (hi : i < 2 ^ D) (hc : c ∈ R) (hb : inB D i c = true) : atC R D i = c := by
  unfold atC
  have hm : c ∈ R.filter (inB D i) := List.mem_filter.mpr ⟨hc, hb⟩
  cases hf : R.filter (inB D i) with
  | nil => rw [hf] at hm; simp at hm
  | cons d t =>
    have hd : d ∈ R.filter (inB D i) := by rw [hf]; exact List.mem_cons_self
    have := List.mem_filter.mp hd
    exact h.uq i hi d this.1 c hc this.2 hb
theorem atC_mem {R : List Code} {D i : Nat} (h : Cov R D) (hi : i < 2 ^ D) : atC R D i ∈ R ∧ inB D i (atC R D i) = true := by
  obtain ⟨c, hc, hb⟩ := h.ex i hi
  rw [atC_eq h hi hc hb]
  exact ⟨hc, hb⟩
theorem atC_iff {R : List Code} {D i : Nat} {c : Code} (h : Cov R D) (hi : i < 2 ^ D) : atC R D i = c ↔ c ∈ R ∧ inB D i c = true :=
  ⟨fun e => e ▸ atC_mem h hi, fun ⟨a, b⟩ => atC_eq h hi a b⟩
def partR (R : List Code) (c : Code) : List Code := R.filter (fun d => decide (d ≠ c)) ++ [c0 c, c1 c]
def joinR (R : List Code) (c : Code) : List Code := R.filter (fun d => decide (d ≠ c0 c) && decide (d ≠ c1 c)) ++ [c]
theorem div_half (i D l : Nat) (h : l < D) : i / 2 ^ (D - l) = i / 2 ^ (D - (l + 1)) / 2 := by
  rw [Nat.div_div_eq_div_mul, ← Nat.pow_succ, show (D - (l + 1)).succ = D - l by omega]
theorem inB_half {D i : Nat} {c : Code} (h : c.1 < D) : inB D i c = true ↔ (inB D i (c0 c) = true ∨ inB D i (c1 c) = true) := by
  rw [inB_iff, inB_iff, inB_iff]
  show _ ↔ (c.1 + 1 ≤ D ∧ i / 2 ^ (D - (c.1 + 1)) = 2 * c.2) ∨ (c.1 + 1 ≤ D ∧ i / 2 ^ (D - (c.1 + 1)) = 2 * c.2 + 1)
  rw [div_half i D c.1 h]
  omega
theorem inB_not {D i : Nat} {c : Code} : ¬ (inB D i (c0 c) = true ∧ inB D i (c1 c) = true) := by
  rw [inB_iff, inB_iff]
  show ¬ ((c.1 + 1 ≤ D ∧ i / 2 ^ (D - (c.1 + 1)) = 2 * c.2) ∧ (c.1 + 1 ≤ D ∧ i / 2 ^ (D - (c.1 + 1)) = 2 * c.2 + 1))
  omega
theorem Cov.part {R : List Code} {D : Nat} {c : Code} (h : Cov R D) (hc : c ∈ R) (hl : c.1 < D) : Cov (partR R c) D := by
  have mem : ∀ d, d ∈ partR R c ↔ (d ∈ R ∧ d ≠ c) ∨ d = c0 c ∨ d = c1 c := fun d => by
    unfold partR
    rw [List.mem_append, List.mem_filter, decide_eq_true_iff]
    simp
  refine ⟨fun d hd => ?_, fun i hi => ?_, fun i hi d hd e he bd be => ?_⟩
  · rcases (mem d).mp hd with ⟨h1, _⟩ | rfl | rfl
    · exact h.val d h1
    · exact ⟨cv0 (h.val c hc).1, hl⟩
    · exact ⟨cv1 (h.val c hc).1, hl⟩
  · obtain ⟨d, hd, hb⟩ := h.ex i hi
    by_cases e : d = c
    · subst e
      rcases (inB_half hl).mp hb with z | z
      · exact ⟨_, (mem _).mpr (.inr (.inl rfl)), z⟩
      · exact ⟨_, (mem _).mpr (.inr (.inr rfl)), z⟩
    · exact ⟨d, (mem d).mpr (.inl ⟨hd, e⟩), hb⟩
  · have half : ∀ d, d = c0 c ∨ d = c1 c → inB D i d = true → inB D i c = true := fun d hd b => (inB_half hl).mpr (hd.elim (fun e => .inl (e ▸ b)) fun e => .inr (e ▸ b))
    rcases (mem d).mp hd with ⟨h1, n1⟩ | h1 <;> rcases (mem e).mp he with ⟨h2, n2⟩ | h2
    · exact h.uq i hi d h1 e h2 bd be
    · exact absurd (h.uq i hi d h1 c hc bd (half e h2 be)) n1
    · exact absurd (h.uq i hi e h2 c hc be (half d h1 bd)) n2
    · rcases h1 with rfl | rfl <;> rcases h2 with rfl | rfl
      · rfl
      · exact absurd ⟨bd, be⟩ inB_not
      · exact absurd ⟨be, bd⟩ inB_not
      · rfl
theorem mem_part {R : List Code} {c d : Code} : d ∈ partR R c ↔ (d ∈ R ∧ d ≠ c) ∨ d = c0 c ∨ d = c1 c := by
  unfold partR
  rw [List.mem_append, List.mem_filter, decide_eq_true_iff]
  simp
theorem mem_join {R : List Code} {c d : Code} : d ∈ joinR R c ↔ (d ∈ R ∧ d ≠ c0 c ∧ d ≠ c1 c) ∨ d = c := by
  unfold joinR
  rw [List.mem_append, List.mem_filter, Bool.and_eq_true_iff, decide_eq_true_iff, decide_eq_true_iff]
  simp
theorem Cov.join {R : List Code} {D : Nat} {c : Code} (h : Cov R D) (hv : Cv c) (h0 : c0 c ∈ R) (h1 : c1 c ∈ R) : Cov (joinR R c) D := by
  have hl : c.1 < D := (h.val _ h0).2
  have key : ∀ i, i < 2 ^ D → inB D i c = true → ∀ d, d ∈ R → inB D i d = true → d = c0 c ∨ d = c1 c := fun i hi b d hd bd => by
    rcases (inB_half hl).mp b with z | z
    · exact .inl (h.uq i hi d hd _ h0 bd z)
    · exact .inr (h.uq i hi d hd _ h1 bd z)
  refine ⟨fun d hd => ?_, fun i hi => ?_, fun i hi d hd e he bd be => ?_⟩
  · rcases mem_join.mp hd with ⟨h1, _⟩ | rfl
    · exact h.val d h1
    · exact ⟨hv, Nat.le_of_lt hl⟩
  · obtain ⟨d, hd, hb⟩ := h.ex i hi
    by_cases e : d = c0 c ∨ d = c1 c
    · exact ⟨c, mem_join.mpr (.inr rfl), (inB_half hl).mpr (e.elim (fun e => .inl (e ▸ hb)) fun e => .inr (e ▸ hb))⟩
    · exact ⟨d, mem_join.mpr (.inl ⟨hd, fun z => e (.inl z), fun z => e (.inr z)⟩), hb⟩
  · rcases mem_join.mp hd with ⟨g1, n1, n1'⟩ | g1 <;> rcases mem_join.mp he with ⟨g2, n2, n2'⟩ | g2
    · exact h.uq i hi d g1 e g2 bd be
    · subst g2
      exact absurd (key i hi be d g1 bd) (fun z => z.elim n1 n1')
    · subst g1
      exact absurd (key i hi bd e g2 be) (fun z => z.elim n2 n2')
    · rw [g1, g2]
/-- a board parted -/
def partGo {α : Type} [DecidableEq α] (b b0 b1 : α) : Nat → List α → List α
  | _, [] => []
  | z, s :: t => if s = b then (if 0 < z then b0 :: partGo b b0 b1 (z - 1) t else b1 :: partGo b b0 b1 z t) else s :: partGo b b0 b1 z t
def joinGo {α : Type} [DecidableEq α] (b b0 b1 : α) (l : List α) : List α := l.map fun s => if s = b0 ∨ s = b1 then b else s
theorem partGo_run {c x0 x1 : Code} {f g : Nat → Code} {st h : Nat} : ∀ n i0 : Nat, (∀ i, i0 ≤ i → i < i0 + n → (f i = c ↔ st ≤ i ∧ i < st + 2 * h)) → (∀ i, i0 ≤ i → i < i0 + n → g i = if f i = c then (if i < st + h then x0 else x1) else f i) →
    partGo c x0 x1 (h - (i0 - st)) ((List.range' i0 n).map f) = (List.range' i0 n).map g
  | 0, _, _, _ => rfl
  | n + 1, i0, hf, hg => by
    rw [List.range'_succ, List.map_cons, List.map_cons]
    have ih := partGo_run (c := c) (x0 := x0) (x1 := x1) (f := f) (g := g) (st := st) (h := h) n (i0 + 1) (fun i a b => hf i (by omega) (by omega)) (fun i a b => hg i (by omega) (by omega))
    have f0 := hf i0 (Nat.le_refl _) (by omega)
    rw [hg i0 (Nat.le_refl _) (by omega), partGo]
    by_cases e : f i0 = c
    · have e2 := f0.mp e
      rw [if_pos e, if_pos e]
      by_cases z : i0 < st + h
      · rw [if_pos z, if_pos (by omega), show h - (i0 - st) - 1 = h - (i0 + 1 - st) by omega, ih]
      · rw [if_neg z, if_neg (by omega), show h - (i0 - st) = h - (i0 + 1 - st) by omega, ih]
    · rw [if_neg e, if_neg e]
      have e2 : ¬ (st ≤ i0 ∧ i0 < st + 2 * h) := fun z => e (f0.mpr z)
      rw [show h - (i0 - st) = h - (i0 + 1 - st) by omega, ih]
theorem count_run {c : Code} {f : Nat → Code} {st h : Nat} : ∀ n i0 : Nat, (∀ i, i0 ≤ i → i < i0 + n → (f i = c ↔ st ≤ i ∧ i < st + 2 * h)) → ((List.range' i0 n).map f).count c = min (i0 + n) (st + 2 * h) - max i0 st
  | 0, i0, _ => by
    show 0 = _
    omega
  | n + 1, i0, hf => by
    rw [List.range'_succ, List.map_cons, List.count_cons]
    rw [count_run (c := c) (f := f) (st := st) (h := h) n (i0 + 1) (fun i a b => hf i (by omega) (by omega))]
    have f0 := hf i0 (Nat.le_refl _) (by omega)
    by_cases e : f i0 = c
    · have e2 := f0.mp e
      rw [if_pos (by rw [e]; exact beq_self_eq_true c)]
      omega
    · have e2 : ¬ (st ≤ i0 ∧ i0 < st + 2 * h) := fun z => e (f0.mpr z)
      rw [if_neg (by rw [beq_iff_eq]; exact e)]
      omega
theorem blk_iff {D i : Nat} {c : Code} (hl : c.1 ≤ D) : inB D i c = true ↔ c.2 * 2 ^ (D - c.1) ≤ i ∧ i < c.2 * 2 ^ (D - c.1) + 2 ^ (D - c.1) := by
  rw [inB_iff, Nat.div_eq_iff (Nat.two_pow_pos _)]
  constructor
  · rintro ⟨_, h1, h2⟩
    have := Nat.two_pow_pos (D - c.1)
    omega
  · rintro ⟨h1, h2⟩
    exact ⟨hl, by omega, by omega⟩
theorem atC_part {R : List Code} {D i : Nat} {c : Code} (h : Cov R D) (hc : c ∈ R) (hl : c.1 < D) (hi : i < 2 ^ D) : atC (partR R c) D i = if atC R D i = c then (if i < c.2 * 2 ^ (D - c.1) + 2 ^ (D - (c.1 + 1)) then c0 c else c1 c) else atC R D i := by
  have h' := h.part hc hl
  have hm := atC_mem h hi
  by_cases e : atC R D i = c
  · rw [if_pos e]
    rw [e] at hm
    have hb := (inB_half hl).mp hm.2
    have b0 := blk_iff (D := D) (i := i) (c := c0 c) hl
    have b1 := blk_iff (D := D) (i := i) (c := c1 c) hl
    have e2 : c.2 * 2 ^ (D - c.1) = 2 * c.2 * 2 ^ (D - (c.1 + 1)) := by
      rw [show D - c.1 = D - (c.1 + 1) + 1 by omega, Nat.pow_succ, Nat.mul_comm 2 c.2, Nat.mul_assoc, Nat.mul_comm 2]
    have e3 : (2 * c.2 + 1) * 2 ^ (D - (c.1 + 1)) = 2 * c.2 * 2 ^ (D - (c.1 + 1)) + 2 ^ (D - (c.1 + 1)) := by rw [Nat.add_mul, Nat.one_mul]
    have b0' : inB D i (c0 c) = true ↔ 2 * c.2 * 2 ^ (D - (c.1 + 1)) ≤ i ∧ i < 2 * c.2 * 2 ^ (D - (c.1 + 1)) + 2 ^ (D - (c.1 + 1)) := b0
    have b1' : inB D i (c1 c) = true ↔ (2 * c.2 + 1) * 2 ^ (D - (c.1 + 1)) ≤ i ∧ i < (2 * c.2 + 1) * 2 ^ (D - (c.1 + 1)) + 2 ^ (D - (c.1 + 1)) := b1
    rw [e2]
    rcases hb with z | z
    · rw [if_pos (b0'.mp z).2]
      exact atC_eq h' hi (mem_part.mpr (.inr (.inl rfl))) z
    · have z2 := b1'.mp z
      rw [if_neg (by omega)]
      exact atC_eq h' hi (mem_part.mpr (.inr (.inr rfl))) z
  · rw [if_neg e]
    exact atC_eq h' hi (mem_part.mpr (.inl ⟨hm.1, e⟩)) hm.2
theorem atC_join {R : List Code} {D i : Nat} {c : Code} (h : Cov R D) (hv : Cv c) (h0 : c0 c ∈ R) (h1 : c1 c ∈ R) (hi : i < 2 ^ D) : atC (joinR R c) D i = if atC R D i = c0 c ∨ atC R D i = c1 c then c else atC R D i := by
  have h' := h.join hv h0 h1
  have hl : c.1 < D := (h.val _ h0).2
  have hm := atC_mem h hi
  by_cases e : atC R D i = c0 c ∨ atC R D i = c1 c
  · rw [if_pos e]
    exact atC_eq h' hi (mem_join.mpr (.inr rfl)) ((inB_half hl).mpr (e.elim (fun e => .inl (e ▸ hm.2)) fun e => .inr (e ▸ hm.2)))
  · rw [if_neg e]
    exact atC_eq h' hi (mem_join.mpr (.inl ⟨hm.1, fun z => e (.inl z), fun z => e (.inr z)⟩)) hm.2
theorem board_f {R : List Code} {D : Nat} {c : Code} (h : Cov R D) (hc : c ∈ R) (hl : c.1 < D) : ∀ i, 0 ≤ i → i < 0 + 2 ^ D → (atC R D i = c ↔ c.2 * 2 ^ (D - c.1) ≤ i ∧ i < c.2 * 2 ^ (D - c.1) + 2 * 2 ^ (D - (c.1 + 1))) := fun i _ hi => by
  have hi : i < 2 ^ D := by omega
  rw [atC_iff h hi, blk_iff (Nat.le_of_lt hl)]
  have e : 2 ^ (D - c.1) = 2 * 2 ^ (D - (c.1 + 1)) := by rw [show D - c.1 = D - (c.1 + 1) + 1 by omega, Nat.pow_succ, Nat.mul_comm]
  rw [← e]
  exact ⟨fun z => z.2, fun z => ⟨hc, z⟩⟩
theorem blk_end {D : Nat} {c : Code} (hv : Cv c) (hl : c.1 ≤ D) : c.2 * 2 ^ (D - c.1) + 2 ^ (D - c.1) ≤ 2 ^ D := by
  have h : c.2 + 1 ≤ 2 ^ c.1 := hv
  have := Nat.mul_le_mul_right (2 ^ (D - c.1)) h
  rw [← Nat.pow_add, show c.1 + (D - c.1) = D by omega, Nat.add_mul, Nat.one_mul] at this
  exact this
theorem part_count {R : List Code} {D : Nat} {c : Code} (h : Cov R D) (hc : c ∈ R) (hl : c.1 < D) : (boardC R D).count c = 2 * 2 ^ (D - (c.1 + 1)) := by
  unfold boardC
  rw [List.range_eq_range', count_run _ _ (board_f h hc hl)]
  have e : 2 ^ (D - c.1) = 2 * 2 ^ (D - (c.1 + 1)) := by rw [show D - c.1 = D - (c.1 + 1) + 1 by omega, Nat.pow_succ, Nat.mul_comm]
  have := blk_end (h.val c hc).1 (Nat.le_of_lt hl)
  omega
theorem part_board {R : List Code} {D : Nat} {c : Code} (h : Cov R D) (hc : c ∈ R) (hl : c.1 < D) : partGo c (c0 c) (c1 c) ((boardC R D).count c / 2) (boardC R D) = boardC (partR R c) D := by
  rw [part_count h hc hl, show 2 * 2 ^ (D - (c.1 + 1)) / 2 = 2 ^ (D - (c.1 + 1)) by omega]
  unfold boardC
  have := partGo_run (x0 := c0 c) (x1 := c1 c) (g := atC (partR R c) D) (2 ^ D) 0 (board_f h hc hl) (fun i _ hi => atC_part h hc hl (by omega))
  rw [Nat.zero_sub, Nat.sub_zero, ← List.range_eq_range'] at this
  exact this
theorem join_board {R : List Code} {D : Nat} {c : Code} (h : Cov R D) (hv : Cv c) (h0 : c0 c ∈ R) (h1 : c1 c ∈ R) : joinGo c (c0 c) (c1 c) (boardC R D) = boardC (joinR R c) D := by
  unfold joinGo boardC
  rw [List.map_map]
  refine List.map_congr_left fun i hi => ?_
  show (if atC R D i = c0 c ∨ atC R D i = c1 c then c else atC R D i) = _
  rw [atC_join h hv h0 h1 (List.mem_range.mp hi)]
/-- the same by texts -/
theorem partGo_bt {c : Code} (hc : Cv c) : ∀ (z : Nat) (L : List Code), (∀ d ∈ L, Cv d) → partGo (bt c) (bt (c0 c)) (bt (c1 c)) z (L.map bt) = (partGo c (c0 c) (c1 c) z L).map bt
  | _, [], _ => rfl
  | z, d :: t, h => by
    have ih := fun z => partGo_bt hc z t fun d hd => h d (List.mem_cons_of_mem _ hd)
    rw [List.map_cons, partGo, partGo]
    have hd := h d List.mem_cons_self
    by_cases e : d = c
    · rw [if_pos (congrArg bt e), if_pos e]
      by_cases hz : 0 < z
      · rw [if_pos hz, if_pos hz, ih, List.map_cons]
      · rw [if_neg hz, if_neg hz, ih, List.map_cons]
    · rw [if_neg fun z => e (bt_inj hd hc z), if_neg e, ih, List.map_cons]
theorem count_bt {c : Code} (hc : Cv c) : ∀ L : List Code, (∀ d ∈ L, Cv d) → (L.map bt).count (bt c) = L.count c
  | [], _ => rfl
  | d :: t, h => by
    have ih := count_bt hc t fun d hd => h d (List.mem_cons_of_mem _ hd)
    have hd := h d List.mem_cons_self
    rw [List.map_cons, List.count_cons, List.count_cons, ih]
    by_cases e : d = c
    · rw [if_pos (by rw [e]; exact beq_self_eq_true _), if_pos (by rw [e]; exact beq_self_eq_true _)]
    · rw [if_neg (by rw [beq_iff_eq]; exact fun z => e (bt_inj hd hc z)), if_neg (by rw [beq_iff_eq]; exact e)]
theorem joinGo_bt {c : Code} (hc : Cv c) (L : List Code) (h : ∀ d ∈ L, Cv d) : joinGo (bt c) (bt (c0 c)) (bt (c1 c)) (L.map bt) = (joinGo c (c0 c) (c1 c) L).map bt := by
  unfold joinGo
  rw [List.map_map, List.map_map]
  refine List.map_congr_left fun d hd => ?_
  show (if bt d = bt (c0 c) ∨ bt d = bt (c1 c) then bt c else bt d) = bt (if d = c0 c ∨ d = c1 c then c else d)
  have k : (bt d = bt (c0 c) ∨ bt d = bt (c1 c)) ↔ (d = c0 c ∨ d = c1 c) := or_congr (bt_iff (h d hd) (cv0 hc)) (bt_iff (h d hd) (cv1 hc))
  by_cases e : d = c0 c ∨ d = c1 c
  · rw [if_pos (k.mpr e), if_pos e]
  · rw [if_neg fun z => e (k.mp z), if_neg e]
theorem board_cv {R : List Code} {D : Nat} (h : Cov R D) : ∀ d ∈ boardC R D, Cv d := fun d hd => by
  obtain ⟨i, hi, rfl⟩ := List.mem_map.mp hd
  exact (h.val _ (atC_mem h (List.mem_range.mp hi)).1).1
theorem board_len (R : List Code) (D : Nat) : (boardC R D).length = 2 ^ D := by
  unfold boardC
  rw [List.length_map, List.length_range]

section
open PyProof.Rows
/-! ### slices by twos -/
def evens {α : Type} : List α → List α
  | [] => []
  | [a] => [a]
  | a :: _ :: t => a :: evens t
theorem evens_len {α : Type} : ∀ l : List α, (evens l).length = (l.length + 1) / 2
  | [] => by simp [evens]
  | [_] => by simp [evens]
  | _ :: _ :: t => by
    show (evens t).length + 1 = (t.length + 1 + 1 + 1) / 2
    rw [evens_len t]
    omega
theorem evens_get {α : Type} : ∀ (l : List α) (k : Nat), (evens l)[k]? = l[2 * k]?
  | [], k => by simp [evens]
  | [a], 0 => rfl
  | [a], k + 1 => by
    rw [show 2 * (k + 1) = (2 * k + 1) + 1 by omega]
    rfl
  | a :: b :: t, 0 => rfl
  | a :: b :: t, k + 1 => by
    rw [show 2 * (k + 1) = (2 * k) + 1 + 1 by omega]
    exact evens_get t k
theorem evens_pick {α : Type} (xs : Array α) (s n : Nat) (hn : n = (xs.size - s + 1) / 2) : ((List.range n).map fun k => s + 2 * k).filterMap (xs[·]?) = evens (xs.toList.drop s) := by
  rw [List.filterMap_map]
  have h := PySem.W.krv_all (evens (xs.toList.drop s)).toArray
  rw [List.size_toArray, evens_len, List.length_drop, Array.length_toList, ← hn] at h
  rw [show ((xs[·]?) ∘ fun k => s + 2 * k) = ((evens (xs.toList.drop s)).toArray[·]?) from funext fun k => ?_, h]
  show xs[s + 2 * k]? = (evens (xs.toList.drop s)).toArray[k]?
  have h2 : (evens (xs.toList.drop s)).toArray[k]? = (evens (xs.toList.drop s))[k]? := by simp
  rw [h2, evens_get, List.getElem?_drop]
  simp
theorem step2_range (s n : Nat) (h : s ≤ n) : sliceRange (s : Int) (n : Int) 2 = (List.range ((n - s + 1) / 2)).map fun k => s + 2 * k := by
  unfold sliceRange
  have h1 : ((2 : Int) > 0) := by decide
  by_cases h2 : (s : Int) < n
  · have e : ((n : Int) - s + 2 - 1) / 2 = (((n - s + 1) / 2 : Nat) : Int) := by omega
    simp only [h1, if_true, h2, e, Int.toNat_natCast]
    apply List.map_congr_left
    intro k _
    omega
  · have e : n - s = 0 := by omega
    simp only [h1, if_true, h2, if_false]
    rw [e]
    rfl
theorem step2_none (items : Array Value) : slicePick items none none (some 2) = (evens items.toList).toArray := by
  unfold slicePick
  have hb : sliceBounds none none (some 2) items.size = (((0 : Nat) : Int), (items.size : Int), 2) := rfl
  rw [hb]
  show ((sliceRange ((0 : Nat) : Int) (items.size : Int) 2).filterMap (items[·]?)).toArray = _
  rw [step2_range 0 items.size (Nat.zero_le _), evens_pick items 0 _ rfl, List.drop_zero]
theorem step2_one (items : Array Value) : slicePick items (some 1) none (some 2) = (evens items.toList.tail).toArray := by
  unfold slicePick
  have hb : sliceBounds (some 1) none (some 2) items.size = (((min 1 items.size : Nat) : Int), (items.size : Int), 2) := by
    unfold sliceBounds
    simp
    omega
  rw [hb]
  show ((sliceRange ((min 1 items.size : Nat) : Int) (items.size : Int) 2).filterMap (items[·]?)).toArray = _
  rw [step2_range _ items.size (Nat.min_le_right _ _), evens_pick items _ _ rfl]
  congr 2
  rcases Nat.eq_zero_or_pos items.size with h | h
  · have e : items.toList = [] := by
      apply List.eq_nil_of_length_eq_zero
      rw [Array.length_toList]
      exact h
    rw [e]
    simp
  · rw [show min 1 items.size = 1 by omega, List.drop_one]
theorem vals_evens : ∀ {xs : List V} {its : List Value}, Vals xs its → Vals (evens xs) (evens its)
  | _, _, .nil => .nil
  | _, _, .cons a .nil => .cons a .nil
  | _, _, .cons a (.cons _ t) => .cons a (vals_evens t)
theorem vals_tail : ∀ {xs : List V} {its : List Value}, Vals xs its → Vals xs.tail its.tail
  | _, _, .nil => .nil
  | _, _, .cons _ t => t
def tEv (K : PySem.W.Frag) (te : TE) : TE := fun σ H Q => te σ H fun x H1 => ∃ a xs, x = .ref a ∧ SqL K H1 a xs ∧ ∀ p, H1 p = none → Q (.ref p) (upd H1 p (.lst (evens xs)))
def tOd (K : PySem.W.Frag) (te : TE) : TE := fun σ H Q => te σ H fun x H1 => ∃ a xs, x = .ref a ∧ SqL K H1 a xs ∧ ∀ p, H1 p = none → Q (.ref p) (upd H1 p (.lst (evens xs.tail)))
section
variable {X : Cx}
theorem pe_evens {e : Expr} {te : TE} {k : Nat} {p1 p3 pos : Pos} (he : PE X e te) : PE X (.Subscript e (.Slice none none (some (.Constant (.int 2) k p1)) p3) pos) (tEv X.K te) := by
  refine ⟨fun pins s σ H Q I h => ?_⟩
  refine Subscript_ (thn (he.run pins s σ H _ I h) fun v s1 ⟨x, H1, I1, r1, q1⟩ => ?_)
  obtain ⟨a, xs, ex, hx, q⟩ := q1
  subst ex
  cases r1
  have hst : PO X (some (.Constant (.int 2) k p1)) (tPart (tC (.int 2))) := po_some pe_int
  refine wpAny_Slice (thn (po_none.run pins s1 σ H1 (fun o H2 => o = none ∧ H2 = H1) I1 ⟨rfl, rfl⟩) fun vl s2 ⟨l, H2, I2, pl, el, e2⟩ => ?_)
  subst el e2
  refine thn (po_none.run pins s2 σ H2 (fun o H3 => o = none ∧ H3 = H2) I2 ⟨rfl, rfl⟩) fun vu s3 ⟨u, H3, I3, pu, eu, e3⟩ => ?_
  subst eu e3
  refine thn (hst.run pins s3 σ H3 (fun o H4 => o = some 2 ∧ H4 = H3) I3 ⟨2, rfl, rfl, rfl⟩) fun vs s4 ⟨o, H4, I4, ps, eo, e4⟩ => ?_
  subst eo e4
  have I5 : Inv X pins σ H4 { s4 with heap := s4.heap.push { cls := .type "slice", data := .fields #[vl, vu, vs] } } := I4.kept (t' := s4.toks) fun b ob q => Heap.get?_push_of_some _ q
  obtain ⟨its, r, ht, hz⟩ := I5.list hx
  have hlen := r.length
  show wpAny (model X.prog X.w) X.A (subscriptTail e (.Slice none none (some (.Constant (.int 2) k p1)) p3) (.ref a) (.ref s4.heap.objs.size)) (EP X pins σ Q) X.xe { s4 with heap := s4.heap.push { cls := .type "slice", data := .fields #[vl, vu, vs] } }
  refine tail_any (ops := [.ref a, .ref s4.heap.objs.size]) ht.isList.typeIs (PySem.slot_list_getitem.lookup) ?_ (by with_unfolding_all rfl)
  refine wpAny_getItem_list_slice ht.isList (Heap.IsSliceOf.new _ vl vu vs) pl pu ps (by decide) ?_ (by rw [List.size_toArray]; omega)
  rw [step2_none]
  refine ⟨.ref _, _, I5.laid (t' := s4.toks) (o := .lst (evens xs)) (fun b ob q => Heap.get?_push_of_some _ q) (Nat.le_refl _) ?_, rfl, q _ (I5.hok.fresh (Nat.le_refl _))⟩
  exact ⟨by rw [evens_len]; omega, _, 0, vals_evens r, Heap.get?_push_size _ rfl⟩
theorem pe_odds {e : Expr} {te : TE} {k k2 : Nat} {p1 p2 p3 pos : Pos} (he : PE X e te) : PE X (.Subscript e (.Slice (some (.Constant (.int 1) k2 p2)) none (some (.Constant (.int 2) k p1)) p3) pos) (tOd X.K te) := by
  refine ⟨fun pins s σ H Q I h => ?_⟩
  refine Subscript_ (thn (he.run pins s σ H _ I h) fun v s1 ⟨x, H1, I1, r1, q1⟩ => ?_)
  obtain ⟨a, xs, ex, hx, q⟩ := q1
  subst ex
  cases r1
  have hst : PO X (some (.Constant (.int 2) k p1)) (tPart (tC (.int 2))) := po_some pe_int
  have hs1 : PO X (some (.Constant (.int 1) k2 p2)) (tPart (tC (.int 1))) := po_some pe_int
  refine wpAny_Slice (thn (hs1.run pins s1 σ H1 (fun o H2 => o = some 1 ∧ H2 = H1) I1 ⟨1, rfl, rfl, rfl⟩) fun vl s2 ⟨l, H2, I2, pl, el, e2⟩ => ?_)
  subst el e2
  refine thn (po_none.run pins s2 σ H2 (fun o H3 => o = none ∧ H3 = H2) I2 ⟨rfl, rfl⟩) fun vu s3 ⟨u, H3, I3, pu, eu, e3⟩ => ?_
  subst eu e3
  refine thn (hst.run pins s3 σ H3 (fun o H4 => o = some 2 ∧ H4 = H3) I3 ⟨2, rfl, rfl, rfl⟩) fun vs s4 ⟨o, H4, I4, ps, eo, e4⟩ => ?_
  subst eo e4
  have I5 : Inv X pins σ H4 { s4 with heap := s4.heap.push { cls := .type "slice", data := .fields #[vl, vu, vs] } } := I4.kept (t' := s4.toks) fun b ob q => Heap.get?_push_of_some _ q
  obtain ⟨its, r, ht, hz⟩ := I5.list hx
  have hlen := r.length
  show wpAny (model X.prog X.w) X.A (subscriptTail e (.Slice (some (.Constant (.int 1) k2 p2)) none (some (.Constant (.int 2) k p1)) p3) (.ref a) (.ref s4.heap.objs.size)) (EP X pins σ Q) X.xe { s4 with heap := s4.heap.push { cls := .type "slice", data := .fields #[vl, vu, vs] } }
  refine tail_any (ops := [.ref a, .ref s4.heap.objs.size]) ht.isList.typeIs (PySem.slot_list_getitem.lookup) ?_ (by with_unfolding_all rfl)
  refine wpAny_getItem_list_slice ht.isList (Heap.IsSliceOf.new _ vl vu vs) pl pu ps (by decide) ?_ (by rw [List.size_toArray]; omega)
  rw [step2_one]
  refine ⟨.ref _, _, I5.laid (t' := s4.toks) (o := .lst (evens xs.tail)) (fun b ob q => Heap.get?_push_of_some _ q) (Nat.le_refl _) ?_, rfl, q _ (I5.hok.fresh (Nat.le_refl _))⟩
  exact ⟨by rw [evens_len, List.length_tail]; omega, _, 0, vals_evens (vals_tail r), Heap.get?_push_size _ rfl⟩
end
section
variable {α : Type} {r : Rp α} {K : PySem.W.Frag} {σ : L2.St} {H : Hp} {te : TE}
theorem pr_evens : ∀ {xs : List V} {as : List α}, PR r H xs as → PR r H (evens xs) (evens as)
  | _, _, .nil => .nil
  | _, _, .cons a .nil => .cons a .nil
  | _, _, .cons a (.cons _ t) => .cons a (pr_evens t)
theorem pr_tail : ∀ {xs : List V} {as : List α}, PR r H xs as → PR r H xs.tail as.tail
  | _, _, .nil => .nil
  | _, _, .cons _ t => t
theorem el_evens {p : Addr} {as : List α} (h : Ev te σ H (.ref p)) (hl : LR r H p as) : EvLR r (tEv K te) σ H (evens as) := fun A a Q q =>
  h A a _ fun B b => by
    obtain ⟨xs, h1, h2⟩ := hl.mono (a.trans b)
    exact ⟨p, xs, rfl, sq_of h1, fun l hl => q _ _ (b.trans (.new hl)) ⟨l, rfl, fresh_back b hl, _, upd_same, pr_evens (pr_mono (.new hl) h2)⟩⟩
theorem el_odds {p : Addr} {as : List α} (h : Ev te σ H (.ref p)) (hl : LR r H p as) : EvLR r (tOd K te) σ H (evens as.tail) := fun A a Q q =>
  h A a _ fun B b => by
    obtain ⟨xs, h1, h2⟩ := hl.mono (a.trans b)
    exact ⟨p, xs, rfl, sq_of h1, fun l hl => q _ _ (b.trans (.new hl)) ⟨l, rfl, fresh_back b hl, _, upd_same, pr_evens (pr_tail (pr_mono (.new hl) h2))⟩⟩
end

end

local macro_rules | `(tactic| walk_at "ev") => `(tactic| ((with_reducible apply ev_slS); walk_at "ev"; walk_at "eo"; walk_at "eo"; walk_at "cond"))
def top (i : Nat) : Stmt := PySem.Challenge.pw_splitrooms_k07_rooms_on_a_board.main.body.getD i (.Pass ⟨0, 0, 0, 0⟩)
abbrev s_parted_at : Stmt := top 1
abbrev n_parted_at : List Str := ["board", "bits", "zeros_left", "told", "text"]
theorem sc_parted_at : FnScope n_parted_at ["board", "bits"] (defScope s_parted_at) := ⟨rfl, rfl, rfl, by decide +kernel, rfl, by decide +kernel, by decide +kernel⟩
abbrev s_joined_at : Stmt := top 2
abbrev n_joined_at : List Str := ["board", "bits", "halves", "text"]
theorem sc_joined_at : FnScope n_joined_at ["board", "bits"] (defScope s_joined_at) := ⟨rfl, rfl, rfl, by decide +kernel, rfl, by decide +kernel, by decide +kernel⟩
abbrev s_l_cell_at : Stmt := top 4
abbrev n_l_cell_at : List Str := ["_law_script", "_law_k"]
theorem sc_l_cell_at : FnScope n_l_cell_at ["_law_script", "_law_k"] (defScope s_l_cell_at) := ⟨rfl, rfl, rfl, by decide +kernel, rfl, by decide +kernel, by decide +kernel⟩
abbrev s_l_rooms : Stmt := top 5
abbrev n_l_rooms : List Str := ["_law_script", "_law_rooms_here", "_law_k", "_law_bits", "_law_one"]
theorem sc_l_rooms : FnScope n_l_rooms ["_law_script"] (defScope s_l_rooms) := ⟨rfl, rfl, rfl, by decide +kernel, rfl, by decide +kernel, by decide +kernel⟩
abbrev s_l_place : Stmt := top 6
abbrev n_l_place : List Str := ["_law_at", "_law_depth", "_law_text", "_law_k"]
theorem sc_l_place : FnScope n_l_place ["_law_at", "_law_depth"] (defScope s_l_place) := ⟨rfl, rfl, rfl, by decide +kernel, rfl, by decide +kernel, by decide +kernel⟩
abbrev s_l_board : Stmt := top 7
abbrev n_l_board : List Str := ["_law_rooms_here", "_law_depth", "_law_found", "_law_at", "_law_text", "_law_one"]
theorem sc_l_board : FnScope n_l_board ["_law_rooms_here", "_law_depth"] (defScope s_l_board) := ⟨rfl, rfl, rfl, by decide +kernel, rfl, by decide +kernel, by decide +kernel⟩
abbrev s_l_alike : Stmt := top 8
abbrev n_l_alike : List Str := ["_law_found", "_law_due", "_law_k"]
theorem sc_l_alike : FnScope n_l_alike ["_law_found", "_law_due"] (defScope s_l_alike) := ⟨rfl, rfl, rfl, by decide +kernel, rfl, by decide +kernel, by decide +kernel⟩
abbrev s_law : Stmt := top 9
abbrev n_law : List Str := ["_law_script", "_law_rooms_here", "_law_depth", "_law_board_here", "_law_handed", "_law_short", "_law_bits", "_law_others", "_law_pairs", "_law_one"]
theorem sc_law : FnScope n_law ["_law_script"] (defScope s_law) := ⟨rfl, rfl, rfl, by decide +kernel, rfl, by decide +kernel, by decide +kernel⟩
structure Top (K : PySem.W.Frag) (mg : Str → Option Value) where
  a_parted_at : Addr
  fd_parted_at : FuncData
  F_parted_at : Fun K "parted_at" "parted_at" s_parted_at a_parted_at fd_parted_at
  g_parted_at : mg "parted_at" = some (.ref a_parted_at)
  b_parted_at : Binds K fd_parted_at ["board", "bits"] []
  a_joined_at : Addr
  fd_joined_at : FuncData
  F_joined_at : Fun K "joined_at" "joined_at" s_joined_at a_joined_at fd_joined_at
  g_joined_at : mg "joined_at" = some (.ref a_joined_at)
  b_joined_at : Binds K fd_joined_at ["board", "bits"] []
  a_l_cell_at : Addr
  fd_l_cell_at : FuncData
  F_l_cell_at : Fun K "_law_cell_at" "_law_cell_at" s_l_cell_at a_l_cell_at fd_l_cell_at
  g_l_cell_at : mg "_law_cell_at" = some (.ref a_l_cell_at)
  b_l_cell_at : Binds K fd_l_cell_at ["_law_script", "_law_k"] []
  a_l_rooms : Addr
  fd_l_rooms : FuncData
  F_l_rooms : Fun K "_law_rooms" "_law_rooms" s_l_rooms a_l_rooms fd_l_rooms
  g_l_rooms : mg "_law_rooms" = some (.ref a_l_rooms)
  b_l_rooms : Binds K fd_l_rooms ["_law_script"] []
  a_l_place : Addr
  fd_l_place : FuncData
  F_l_place : Fun K "_law_place" "_law_place" s_l_place a_l_place fd_l_place
  g_l_place : mg "_law_place" = some (.ref a_l_place)
  b_l_place : Binds K fd_l_place ["_law_at", "_law_depth"] []
  a_l_board : Addr
  fd_l_board : FuncData
  F_l_board : Fun K "_law_board" "_law_board" s_l_board a_l_board fd_l_board
  g_l_board : mg "_law_board" = some (.ref a_l_board)
  b_l_board : Binds K fd_l_board ["_law_rooms_here", "_law_depth"] []
  a_l_alike : Addr
  fd_l_alike : FuncData
  F_l_alike : Fun K "_law_alike" "_law_alike" s_l_alike a_l_alike fd_l_alike
  g_l_alike : mg "_law_alike" = some (.ref a_l_alike)
  b_l_alike : Binds K fd_l_alike ["_law_found", "_law_due"] []
  a_law : Addr
  fd_law : FuncData
  F_law : Fun K "law" "law" s_law a_law fd_law
  g_law : mg "law" = some (.ref a_law)
  b_law : Binds K fd_law ["_law_script"] []
  z_isinstance : mg "isinstance" = none
  z_len : mg "len" = none
  z_list : mg "list" = none
  z_max : mg "max" = none
  z_range : mg "range" = none
  z_str : mg "str" = none
/-! ### xs.count(text) -/
def rCntS (K : PySem.W.Frag) : V → List V → Hp → VK → Prop := fun x xs H Q => ∃ (p : Addr) (ss : List Str) (z : Str), x = .ref p ∧ xs = [.str z] ∧ SqL K H p (ss.map V.str) ∧ Q (.int (ss.count z : Nat)) H
open PySem.Spec in
theorem countIn_strs (k : Str) : ∀ ys : List Str, countIn (.str k) (ys.map PyData.str) = ((ys.count k : Nat) : Int)
  | [] => rfl
  | y :: t => by
    have ih := countIn_strs k t
    show (if same (.str y) (.str k) then 1 else 0) + countIn (.str k) (t.map PyData.str) = _
    rw [ih, List.count_cons]
    have e : same (PyData.str y) (.str k) = (y == k) := rfl
    rw [e]
    by_cases h : (y == k) = true
    · rw [if_pos h, if_pos h]
      omega
    · rw [if_neg h, if_neg h]
      omega
theorem mt_scount {X : Cx} : MtR X "list.count" (rCntS X.K) := by
  intro pins s σ H x xs v us Q I rx rxs h
  obtain ⟨p, ss, z, rfl, rfl, hs, q⟩ := h
  cases rx
  obtain ⟨u, rfl, ru⟩ := rxs.one
  obtain ⟨t, rfl⟩ := ru
  obtain ⟨its, rv, hl, hlen⟩ := I.list hs
  refine PyProof.Rows.count_list_strs hl.isList rv.strs ?_
  rw [countIn_strs]
  exact ⟨.int (ss.count z : Nat), H, I.tok _, ⟨s.toks, rfl⟩, q⟩

theorem w8_at (k : Nat) (h : k < 8) : atI [V.int 1, .int 2, .int 4, .int 8, .int 16, .int 32, .int 64, .int 128] (k : Int) = some (.int ((2 ^ k : Nat) : Int)) := by
  rcases (by omega : k = 0 ∨ k = 1 ∨ k = 2 ∨ k = 3 ∨ k = 4 ∨ k = 5 ∨ k = 6 ∨ k = 7) with h | h | h | h | h | h | h | h <;> subst h <;> rfl

/-! ### the law's own -/
def cellN (ns : List Int) (k : Nat) : Int := ns.getD k 0
def spCell (K : PySem.W.Frag) : Sp := fun vs H Q _ => ∃ (a : Addr) (ns : List Int) (k : Nat), vs = [.ref a, .int (k : Int)] ∧ SqL K H a (ns.map V.int) ∧ RetV (.int (cellN ns k)) H Q
section
variable {P : Program} {w : World} {K : PySem.W.Frag} {mg : Str → Option Value} {base : Heap}
theorem ok_l_cell_at (T : Top K mg) : FnOk P w K mg base CX0 1 T.a_l_cell_at T.fd_l_cell_at ["_law_script", "_law_k"] (spCell K) := by
  refine T.F_l_cell_at.ok sc_l_cell_at (fun vs H Q E h => ?_) (fun cdv A outer s H vs Q E hr h => ?_)
  · obtain ⟨a, ns, k, rfl, _⟩ := h
    rfl
  · obtain ⟨a, ns, i, rfl, hS, k⟩ := h
    refine ⟨_, (pss_cons (ps_if (pt_cmpR op_lt (pv 1) (pe_callB (r := rLen K) call_len_seq (by rfl) T.z_len (by decide +kernel) (pa_cons (pv 0) pa_nil)) (nomark _)) (pss_one (ps_ret (pe_ix (r := rIxL K) ix_list (pv 0) (pv 1) (fun _ _ => rfl)))) pss_nil)
      (pss_one (ps_ret pe_int))), ?_⟩
    walk_at "when"
    · intro hb H1 e1
      have hlt : i < ns.length := by simpa using hb
      refine s_retk (v := .int (cellN ns i)) (ev_op (by walk_at "ev") (by walk_at "ev") (rv_ixL (ex_l e1 hS) (atI_nat ?_))) (RetV.mono e1 k)
      unfold cellN
      rw [List.getElem?_map, List.getD_eq_getElem?_getD, List.getElem?_eq_getElem hlt]
      rfl
    · intro hb H1 e1
      have hlt : ns.length ≤ i := by simpa using hb
      walk_at "ret"
      have e0 : cellN ns i = 0 := by
        unfold cellN
        rw [List.getD_eq_getElem?_getD, List.getElem?_eq_none hlt]
        rfl
      rw [e0] at k
      exact RetV.mono e1 k
theorem spv_cell {a : Addr} {ns : List Int} {H : Hp} (hS : SqL K H a (ns.map V.int)) (i : Int) (hi : 0 ≤ i) : SpV (spCell K) [.ref a, .int i] H (.int (cellN ns i.toNat)) := fun A e Q q E => ⟨a, ns, i.toNat, by rw [Int.toNat_of_nonneg hi], ex_l e hS, q⟩
end
local macro_rules | `(tactic| walk_at "spv") => `(tactic| (apply spv_cell; walk_at "seq"; decide))
theorem nat_mod (i : Int) (m : Int) (hm : 0 < m) : ∃ n : Nat, i % m = (n : Int) ∧ (n : Int) < m := ⟨(i % m).toNat, (Int.toNat_of_nonneg (Int.emod_nonneg _ (by omega))).symm, by rw [Int.toNat_of_nonneg (Int.emod_nonneg _ (by omega))]; exact Int.emod_lt_of_pos _ hm⟩

/-! ### lists of texts compared -/
def dS (ss : List Str) : PyData := .list (ss.map PyData.str)
def OkL (ss : List Str) : Prop := ∀ s ∈ ss, PyData.strOk s = true
theorem lay_strs : ∀ ms : List Str, OkL ms → PyData.canLayAll0 (ms.map PyData.str) = true
  | [], _ => rfl
  | m :: r, h => by
    show (PyData.strOk m && PyData.canLayAll0 (r.map PyData.str)) = true
    rw [lay_strs r fun s hs => h s (List.mem_cons_of_mem _ hs), h m List.mem_cons_self]
    rfl
theorem deep_strs : ∀ ms : List Str, PyData.depthAll (ms.map PyData.str) ≤ 1
  | [] => by simp [PyData.depthAll]
  | m :: r => by
    have := deep_strs r
    show max (PyData.depth (.str m)) (PyData.depthAll (r.map PyData.str)) ≤ 1
    have h0 : PyData.depth (.str m) = 0 := by simp [PyData.depth]
    omega
theorem shaped_dS (ms : List Str) (ho : OkL ms) : SeqAt.shaped (dS ms) = true := by
  unfold SeqAt.shaped
  have h1 : (dS ms).canLay0 = true := lay_strs ms ho
  have h2 : (dS ms).depth ≤ 64 := by
    have := deep_strs ms
    show PyData.depthAll (ms.map PyData.str) + 1 ≤ 64
    omega
  rw [h1, decide_eq_true h2]
  rfl
theorem eqv_strs : ∀ as bs : List Str, PyData.eqvAll (as.map PyData.str) (bs.map PyData.str) = decide (as = bs)
  | [], [] => by simp [PyData.eqvAll]
  | [], _ :: _ => by simp [PyData.eqvAll]
  | _ :: _, [] => by simp [PyData.eqvAll]
  | a :: as, b :: bs => by
    have := eqv_strs as bs
    simp only [List.map_cons, PyData.eqvAll, this, PyData.eqv]
    by_cases h : a = b
    · subst h
      simp
    · simp [h]
theorem eqv_dS (as bs : List Str) : PyData.eqv (dS as) (dS bs) = decide (as = bs) := by
  simp only [dS, PyData.eqv, eqv_strs]
theorem dp_strs {K : PySem.W.Frag} {H : Hp} : ∀ {xs : List V} {ss : List Str}, PR rpStr H xs ss → DpAll K H xs (ss.map PyData.str)
  | _, _, .nil => .nil
  | _, _, .cons a t => by
    rw [show _ = V.str _ from a]
    exact .cons (.str _) (dp_strs t)
section
variable {K : PySem.W.Frag} {σ : L2.St} {H H' : Hp} {ta tb te : TE}
theorem ev_eqSS {as bs : List Str} (ha : EvLR rpStr ta σ H as) (hb : EvLR rpStr tb σ H bs) (oa : OkL as) (ob : OkL bs) : Ev (tOp (rEqD K) ta tb) σ H (.bl (decide (as = bs))) := fun A a Q q =>
  ha A a _ fun _ B b ⟨p, ev, _, xs, h1, h2⟩ => hb B (a.trans b) _ fun _ C c ⟨p', ev', _, ys, h3, h4⟩ => by
    subst ev ev'
    refine ⟨dS as, dS bs, .lst (sq_of (c.k h1)) (dp_strs (pr_mono c h2)), .lst (sq_of h3) (dp_strs h4), shaped_dS _ oa, shaped_dS _ ob, ?_⟩
    rw [eqv_dS]
    exact q C (b.trans c)
theorem ev_eqSV {as bs : List Str} {p p' : Addr} (ha : Ev ta σ H (.ref p)) (hb : Ev tb σ H (.ref p')) (h1 : LR rpStr H p as) (h2 : LR rpStr H p' bs) (oa : OkL as) (ob : OkL bs) : Ev (tOp (rEqD K) ta tb) σ H (.bl (decide (as = bs))) := fun A a Q q =>
  ha A a _ fun B b => hb B (a.trans b) _ fun C c => by
    obtain ⟨xs, g1, g2⟩ := h1.mono ((a.trans b).trans c)
    obtain ⟨ys, g3, g4⟩ := h2.mono ((a.trans b).trans c)
    refine ⟨dS as, dS bs, .lst (sq_of g1) (dp_strs g2), .lst (sq_of g3) (dp_strs g4), shaped_dS _ oa, shaped_dS _ ob, ?_⟩
    rw [eqv_dS]
    exact q C (b.trans c)
end
section
variable {P : Program} {w : World} {K : PySem.W.Frag} {mg : Str → Option Value} {base : Heap}
def spAlikeS : Sp := fun vs H Q _ => ∃ (a b : Addr) (ps qs : List Str), vs = [.ref a, .ref b] ∧ LR rpStr H a ps ∧ LR rpStr H b qs ∧ ps.length ≤ 1000 ∧ qs.length ≤ 1000 ∧ RetV (.bl (decide (ps = qs))) H Q
theorem ok_l_alike (T : Top K mg) : FnOk P w K mg base CX0 1 T.a_l_alike T.fd_l_alike ["_law_found", "_law_due"] spAlikeS := by
  refine T.F_l_alike.ok sc_l_alike (fun vs H Q E h => ?_) (fun cdv A outer s H vs Q E hr h => ?_)
  · obtain ⟨a, b, ps, qs, rfl, _⟩ := h
    rfl
  · obtain ⟨a, b, ps, qs, rfl, ⟨xs, hx, px⟩, ⟨ys, hy, py⟩, lx, ly, k⟩ := h
    refine ⟨_, (pss_cons (ps_if (PW.pt (pw_or (pt_not (pt_val (pe_callB (r := rIsi K) call_isi (by rfl) T.z_isinstance (by decide +kernel) (pa_cons (pv 0) (pa_cons (pe_bltn (v := .ty "list") (by rfl) T.z_list (by decide +kernel) rfl) pa_nil))))) (pw_or1 (pt_cmpR op_ne (pe_callB (r := rLen K) call_len_seq (by rfl) T.z_len (by decide +kernel) (pa_cons (pv 0) pa_nil)) (pe_callB (r := rLen K) call_len_seq (by rfl) T.z_len (by decide +kernel) (pa_cons (pv 1) pa_nil)) (nomark _))))) (pss_one (ps_ret pe_bl)) pss_nil)
      (pss_cons (ps_for PassesOwn.never rfl (pi_range1 (by rfl) T.z_range (pa_cons (pe_callB (r := rLen K) call_len_seq (by rfl) T.z_len (by decide +kernel) (pa_cons (pv 1) pa_nil)) pa_nil)) (pg_name (i := 2) sc_l_alike.nd rfl (Or.inl rfl)) (pss_one (ps_if (PW.pt (pw_or (pt_not (pt_val (pe_callB (r := rIsi K) call_isi (by rfl) T.z_isinstance (by decide +kernel) (pa_cons (pe_ix (r := rIxL K) ix_list (pv 0) (pv 2) (fun _ _ => rfl)) (pa_cons (pe_bltn (v := .ty "str") (by rfl) T.z_str (by decide +kernel) rfl) pa_nil))))) (pw_or1 (pt_cmpR op_ne (pe_ix (r := rIxL K) ix_list (pv 0) (pv 2) (fun _ _ => rfl)) (pe_ix (r := rIxL K) ix_list (pv 1) (pv 2) (fun _ _ => rfl)) (nomark _))))) (pss_one (ps_ret pe_bl)) pss_nil)))
      (pss_one (ps_ret pe_bl)))), ?_⟩
    have lxs := px.length
    have lys := py.length
    walk_at "when"
    · intro hb H1 e1
      walk_at "ret"
      have hne : ¬ ps = qs := by
        rintro rfl
        rw [lxs, lys] at hb
        simp at hb
      rw [decide_eq_false hne] at k
      exact RetV.mono e1 k
    intro hb H1 e1
    have hlen : ps.length = qs.length := by
      have : (xs.length : Int) = ys.length := by simpa [decide_int] using hb
      omega
    refine q_forR1 (n := ys.length) ?_ (by omega) (fun i σ H' => Ex H H' ∧ ps.take i = qs.take i ∧ ∃ u, σ = [some (.ref a), some (.ref b), u]) ?_ ?_ ?_
    · have hy1 := sq_of (K := K) (e1.k hy)
      walk_at "ea"
    · intro H2 e2
      exact ⟨e1.trans e2, rfl, none, rfl⟩
    · rintro i σ' H' hi ⟨e2, ht, u, rfl⟩
      have hiq : i < qs.length := by omega
      have hip : i < ps.length := by omega
      obtain ⟨x, hx1, rfl⟩ := pr_at px (List.getElem?_eq_getElem hip)
      obtain ⟨y, hy1, rfl⟩ := pr_at py (List.getElem?_eq_getElem hiq)
      have ixp : ∀ {B : Hp}, Ex H' B → RV (rIxL K) (.ref a) (.int (i : Int)) B (.str ps[i]) := fun e => rv_ixL (sq_of (e.k (e2.k hx))) (atI_nat hx1)
      have ixq : ∀ {B : Hp}, Ex H' B → RV (rIxL K) (.ref b) (.int (i : Int)) B (.str qs[i]) := fun e => rv_ixL (sq_of (e.k (e2.k hy))) (atI_nat hy1)
      refine s_when (b := !true || !decide (V.str ps[i] = V.str qs[i])) ?_ ?_ ?_
      · exact et_or (et_not (et_test (ev_cb (ea_cons (ev_op (by walk_at "ev") (by walk_at "ev") (ixp (.refl _))) (by walk_at "ea")) (rc_isi tx_str kb_ss)))) fun _ => et_test (ev_op (ev_op (by walk_at "ev") (by walk_at "ev") (ixp (.refl _))) (ev_op (by walk_at "ev") (by walk_at "ev") (ixq (.refl _))) (rv_ne rfl))
      · intro hb H5 e5
        walk_at "ret"
        have hne : ¬ ps = qs := by
          rintro rfl
          simp at hb
        rw [decide_eq_false hne] at k
        exact RetV.mono (e2.trans e5) k
      · intro hb H5 e5
        refine ⟨e2.trans e5, ?_, _, rfl⟩
        have h1 : ps[i] = qs[i] := by simpa [decide_str] using hb
        rw [take_snoc (List.getElem?_eq_getElem hip), take_snoc (List.getElem?_eq_getElem hiq), ht, h1]
    · rintro σ' H' ⟨e2, ht, u, rfl⟩
      walk_at "ret"
      have he : ps = qs := by
        have e5 : ys.length = qs.length := by omega
        rw [e5, List.take_length, ← hlen, List.take_length] at ht
        exact ht
      rw [decide_eq_true he] at k
      exact RetV.mono e2 k
theorem spv_alike {a b : Addr} {ps qs : List Str} {H : Hp} (h1 : LR rpStr H a ps) (h2 : LR rpStr H b qs) (l1 : ps.length ≤ 1000) (l2 : qs.length ≤ 1000) : SpV spAlikeS [.ref a, .ref b] H (.bl (decide (ps = qs))) := fun A e Q q E => ⟨a, b, ps, qs, rfl, h1.mono e, h2.mono e, l1, l2, q⟩
end

/-! ### lists of codes -/
def rpC : Rp Code := ⟨fun _ v c => v = .str (bt c), fun _ h => h, fun _ h => h⟩
theorem prC_str {H : Hp} : ∀ {xs : List V} {R : List Code}, PR rpC H xs R → PR rpStr H xs (R.map bt)
  | _, _, .nil => .nil
  | _, _, .cons a t => .cons a (prC_str t)
theorem prS_C {H : Hp} : ∀ {xs : List V} {R : List Code}, PR rpStr H xs (R.map bt) → PR rpC H xs R
  | [], [], .nil => .nil
  | _ :: _, _ :: _, .cons a t => .cons a (prS_C t)
theorem lrC_str {H : Hp} {p : Addr} {R : List Code} (h : LR rpC H p R) : LR rpStr H p (R.map bt) := by
  obtain ⟨ys, h1, h2⟩ := h
  exact ⟨ys, h1, prC_str h2⟩
theorem lrS_C {H : Hp} {p : Addr} {R : List Code} (h : LR rpStr H p (R.map bt)) : LR rpC H p R := by
  obtain ⟨ys, h1, h2⟩ := h
  exact ⟨ys, h1, prS_C h2⟩
theorem okC (R : List Code) : OkL (R.map bt) := fun s hs => by
  obtain ⟨c, _, rfl⟩ := List.mem_map.mp hs
  exact bt_ok c
theorem pr_map_eq {H : Hp} : ∀ {xs : List V} {R : List Code}, PR rpC H xs R → xs = R.map fun c => V.str (bt c)
  | _, _, .nil => rfl
  | _, _, .cons a t => by
    rw [pr_map_eq t, show _ = V.str _ from a]
    rfl
theorem prs_eq {H : Hp} : ∀ {xs : List V} {ss : List Str}, PR rpStr H xs ss → xs = ss.map V.str
  | _, _, .nil => rfl
  | _, _, .cons a t => by
    rw [prs_eq t, show _ = V.str _ from a]
    rfl
theorem pr_strs {H : Hp} : ∀ {ss : List Str}, PR rpStr H (ss.map V.str) ss
  | [] => .nil
  | _ :: _ => .cons rfl pr_strs
theorem flat_strs (ss : List Str) : (ss.map V.str).all flatV = true := by
  rw [List.all_map]
  exact List.all_eq_true.mpr fun _ _ => rfl
theorem in_strs (s : Str) (ss : List Str) : inV (.str s) (ss.map V.str) = decide (s ∈ ss) := by
  unfold inV
  rw [List.any_map]
  induction ss with
  | nil => simp
  | cons a t ih =>
    rw [List.any_cons, ih]
    show ((a == s) || _) = _
    by_cases h : a = s
    · subst h
      simp
    · rw [beq_false_of_ne h, Bool.false_or]
      refine decide_eq_decide.mpr ⟨fun z => List.mem_cons_of_mem _ z, fun z => ?_⟩
      rcases List.mem_cons.mp z with z | z
      · exact absurd z.symm h
      · exact z
theorem eqv_nilS (ss : List Str) : PyData.eqv (dS ss) (.list []) = ss.isEmpty := by
  cases ss <;> simp [dS, PyData.eqv, PyData.eqvAll]
section
variable {K : PySem.W.Frag} {σ : L2.St} {H H' : Hp} {ta tb te : TE} {D : Ends} {tz : TS}
theorem ev_neNilS {p : Addr} {ss : List Str} (ha : Ev ta σ H (.ref p)) (h : LR rpStr H p ss) (ho : OkL ss) : Ev (tOp (rNeD K) ta (tLst tNil)) σ H (.bl (!ss.isEmpty)) := by
  obtain ⟨ys, h1, h2⟩ := h
  refine ev_opR ha (eg_lst ea_nil (by decide)) fun A w B a b ⟨q, e, _, hq⟩ C c Q k => ?_
  subst e
  refine ⟨dS ss, .list [], .lst (sq_of (((a.trans b).trans c).k h1)) (dp_strs (pr_mono ((a.trans b).trans c) h2)), .lst (sq_of (c.k hq)) .nil, shaped_dS ss ho, by decide +kernel, ?_⟩
  rw [eqv_nilS]
  exact k C (.refl C)
theorem q_whenM {b : Bool} {t : TT} {tu : TS} (M : L2.St → Hp → Prop) (h : EvT t σ H b) (h1 : b = true → (∀ σ' B, M σ' B → tz D σ' B) → ∀ B, Ex H B → tu { D with nx := tz D } σ B) (h2 : b = false → ∀ B, Ex H B → M σ B) (hM : ∀ σ' B, M σ' B → tz D σ' B) : tSeq (tIfS t tu tNext) tz D σ H :=
  q_when h (fun hb B e => h1 hb hM B e) fun hb B e => hM _ _ (h2 hb B e)
theorem q_aug {i : Nat} {f : Int → Int → Int} {x y : Int} (hx : σ[i]? = some (some (.int x))) (h : Ev te σ H (.int y)) (k : ∀ B, Ex H B → tz D (σ.set i (some (.int (f x y)))) B) : tSeq (tAug i te (ipI f)) tz D σ H := ⟨_, hx, h H (.refl H) _ fun B e => ⟨x, y, rfl, rfl, k B e⟩⟩
theorem s_aug {i : Nat} {f : Int → Int → Int} {x y : Int} (hx : σ[i]? = some (some (.int x))) (h : Ev te σ H (.int y)) (k : ∀ B, Ex H B → D.nx (σ.set i (some (.int (f x y)))) B) : tAug i te (ipI f) D σ H := ⟨_, hx, h H (.refl H) _ fun B e => ⟨x, y, rfl, rfl, k B e⟩⟩
/-- the greatest of a new list of numbers -/
theorem ev_max {ns : List Int} (h : EvLR rpInt te σ H ns) (h0 : 0 < ns.length) {m : Int} (hm : m ∈ ns) (ha : ∀ y ∈ ns, y ≤ m) : Ev (tCB (rMax K) (tCons te tNil)) σ H (.int m) := fun A a Q q =>
  h A a _ fun _ B b ⟨p, ev, _, xs, h1, h2⟩ => by
    subst ev
    refine ⟨p, ns, rfl, sq_of (by rw [h1, pr_ints_eq h2]), h0, fun k hk hka => ?_⟩
    rw [show k = m from Int.le_antisymm (ha k hk) (hka m hm)]
    exact q B b
/-- l + m, the right one new -/
theorem ev_catVN {α : Type} {r : Rp α} {as bs : List α} {p : Addr} (ha : Ev ta σ H (.ref p)) (h1 : LR r H p as) (hb : EvLR r tb σ H bs) (hz : as.length + bs.length ≤ 100000) : EvLR r (tOp rCat ta tb) σ H (as ++ bs) := fun A a Q q =>
  ha A a _ fun B b => hb B (a.trans b) _ fun _ C c ⟨p', ev', _, ys, h3, h4⟩ => by
    obtain ⟨xs, g1, g2⟩ := h1.mono ((a.trans b).trans c)
    subst ev'
    refine ⟨p, p', xs, ys, rfl, rfl, g1, h3, ?_, fun l hl => ?_⟩
    · rw [g2.length, h4.length]
      exact sz_of hz
    · exact q _ _ ((b.trans c).trans (.new hl)) ⟨l, rfl, fresh_back (b.trans c) hl, _, upd_same, pr_mono (.new hl) (pr_app g2 h4)⟩
/-- an item of a new list -/
theorem ev_ixN {α : Type} {r : Rp α} {as : List α} {i : Int} {v : V} (ha : EvLR r ta σ H as) (hb : Ev tb σ H (.int i)) (hv : ∀ B ys, PR r B ys as → atI ys i = some v) : Ev (tOp (rIxL K) ta tb) σ H v :=
  ev_opL (K := K) ha hb fun A w B _ _ ⟨p, e, _, ys, h1, h2⟩ => e ▸ rv_ixL (sq_of h1) (hv B ys h2)
theorem ev_ixV {α : Type} {r : Rp α} {as : List α} {p : Addr} {i : Int} {v : V} (ha : Ev ta σ H (.ref p)) (hl : LR r H p as) (hb : Ev tb σ H (.int i)) (hv : ∀ ys, PR r H ys as → atI ys i = some v) : Ev (tOp (rIxL K) ta tb) σ H v := by
  obtain ⟨ys, h1, h2⟩ := hl
  exact ev_op ha hb (rv_ixL (sq_of h1) (hv ys h2))
theorem ev_count {p : Addr} {ss : List Str} {z : Str} {t : TA} (h : Ev te σ H (.ref p)) (hl : LR rpStr H p ss) (ha : EvA t σ H [.str z]) : Ev (tBM K "list" (rCntS K) te t) σ H (.int (ss.count z : Nat)) := fun A a Q q => by
  obtain ⟨ys, h1, h2⟩ := hl.mono a
  refine h A a _ fun B b => ⟨.inl ⟨rfl, ys, sq_of (b.k h1)⟩, ha B (a.trans b) _ fun C c => ⟨p, ss, z, rfl, rfl, sq_of (by rw [c.k (b.k h1), prs_eq h2]), q C (b.trans c)⟩⟩
theorem prC_at {xs : List V} {R : List Code} {i : Nat} (h : PR rpC H xs R) (hi : i < R.length) : atI xs (i : Int) = some (.str (bt R[i])) := by
  obtain ⟨x, h1, h2⟩ := pr_at h (List.getElem?_eq_getElem hi)
  rw [atI_nat h1]
  exact congrArg some h2
end

section
variable {P : Program} {w : World} {K : PySem.W.Frag} {mg : Str → Option Value} {base : Heap}
def spParted : Sp := fun vs H Q _ => ∃ (a : Addr) (ss : List Str) (b : Str), vs = [.ref a, .str b] ∧ LR rpStr H a ss ∧ ss.length ≤ 1000 ∧ b.length ≤ 100 ∧ RetLR rpStr (partGo b (b ++ ("0" : Str)) (b ++ ("1" : Str)) (ss.count b / 2) ss) H Q
theorem ok_parted_at (T : Top K mg) : FnOk P w K mg base CX0 1 T.a_parted_at T.fd_parted_at ["board", "bits"] spParted := by
  refine T.F_parted_at.ok sc_parted_at (fun vs H Q E h => ?_) (fun cdv A outer s H vs Q E hr h => ?_)
  · obtain ⟨a, ss, b, rfl, _⟩ := h
    rfl
  · obtain ⟨a, ss, b, rfl, hL, hz, hbz, k⟩ := h
    refine ⟨_, (pss_cons (ps_set (i := 2) sc_parted_at.nd rfl (Or.inl rfl) (pe_op op_fdiv (pe_bm PySem.F.plainAttrs_list PySem.F.slot_list_count PySem.F.type_list_count mt_scount (pv 0) (pa_cons (pv 1) pa_nil)) pe_int))
      (pss_cons (ps_set (i := 3) sc_parted_at.nd rfl (Or.inl rfl) (pe_lst pa_nil))
      (pss_cons (ps_for PassesOwn.never rfl (pi_list (pv 0)) (pg_name (i := 4) sc_parted_at.nd rfl (Or.inl rfl)) (pss_one (ps_if (pt_cmpR op_ne (pv 4) (pv 1) (nomark _)) (pss_one (ps_expr (pe_bm PySem.F.plainAttrs_list PySem.F.slot_list_append PySem.F.type_list_append mt_append (pv 3) (pa_cons (pv 4) pa_nil)))) (pss_one (ps_if (pt_cmpR op_gt (pv 2) pe_int (nomark _)) (pss_cons (ps_expr (pe_bm PySem.F.plainAttrs_list PySem.F.slot_list_append PySem.F.type_list_append mt_append (pv 3) (pa_cons (pe_op op_add_str (pv 1) pe_str) pa_nil)))
      (pss_one (ps_aug (i := 2) sc_parted_at.nd rfl (Or.inl rfl) pe_int ip_sub))) (pss_one (ps_expr (pe_bm PySem.F.plainAttrs_list PySem.F.slot_list_append PySem.F.type_list_append mt_append (pv 3) (pa_cons (pe_op op_add_str (pv 1) pe_str) pa_nil)))))))))
      (pss_one (ps_ret (pv 3)))))), ?_⟩
    refine q_asg (v := .int ((ss.count b / 2 : Nat) : Int)) (ev_is (ev_op (ev_count (by walk_at "ev") hL (by walk_at "ea")) ev_c (rv_I ⟨by decide, by decide⟩)) (congrArg V.int (by omega))) ?_
    intro H1 e1
    show tSeq _ _ _ [some (.ref a), some (.str b), some (.int ((ss.count b / 2 : Nat) : Int)), none, none] H1
    generalize hz0 : ss.count b / 2 = z0 at k
    refine q_asgG (eg_lst ea_nil (by decide)) ?_
    rintro v H2 e2 ⟨pd, rfl, hpd, hd⟩
    have h0 := fresh_back e1 hpd
    show tSeq _ _ _ [some (.ref a), some (.str b), some (.int (z0 : Int)), some (.ref pd), none] H2
    obtain ⟨xs, hx, px⟩ := hL.mono (e1.trans e2)
    have hxl := px.length
    refine q_forL (a := a) (xs := xs) (by walk_at "ev") (sq_of hx) (fun i σ' B => Ex H B ∧ i ≤ ss.length ∧ ∃ (z : Nat) (acc : List Str) (u : Option V), B pd = some (.lst (acc.map V.str)) ∧ acc.length = i ∧ acc ++ partGo b (b ++ ("0" : Str)) (b ++ ("1" : Str)) z (ss.drop i) = partGo b (b ++ ("0" : Str)) (b ++ ("1" : Str)) z0 ss ∧ σ' = [some (.ref a), some (.str b), some (.int (z : Int)), some (.ref pd), u]) ?_ ?_ ?_ ?_
    · intro B e
      exact ⟨(e1.trans e2).trans e, Nat.zero_le _, z0, [], none, e.k hd, rfl, rfl, rfl⟩
    · rintro i σ' B hi ⟨e, _⟩
      obtain ⟨ys, hy, py⟩ := hL.mono e
      rw [prs_eq px, ← prs_eq py]
      exact sq_of hy
    · rintro i x σ' B hi ⟨e, _, z, acc, u, hB, hal, hpg, rfl⟩
      obtain ⟨s, hs, rfl⟩ := pr_get px hi
      obtain ⟨hil, hsi⟩ := List.getElem?_eq_some_iff.mp hs
      rw [List.drop_eq_getElem_cons hil, hsi, partGo] at hpg
      show tIfS _ _ _ _ [some (.ref a), some (.str b), some (.int (z : Int)), some (.ref pd), some (.str s)] B
      have app : ∀ (y : Str) (z' : Nat) (te : TE) (D : Ends) (σ2 : L2.St), acc ++ y :: partGo b (b ++ ("0" : Str)) (b ++ ("1" : Str)) z' (ss.drop (i + 1)) = partGo b (b ++ ("0" : Str)) (b ++ ("1" : Str)) z0 ss → ∀ B1, Ex B B1 → Ev (tVar 3) σ2 B1 (.ref pd) → Ev te σ2 B1 (.str y) →
          (∀ B2, Ex H B2 → B2 pd = some (.lst ((acc ++ [y]).map V.str)) → D.nx σ2 B2) → tDrop (tBM K "list" rAppend (tVar 3) (tCons te tNil)) D σ2 B1 := fun y z' te D σ2 _ B1 b1 hv hy kk =>
        s_app (P := fun _ v _ => v = .str y) (b1.k hB) hv (hy.g fun _ _ _ _ => rfl) (by rw [List.length_map]; omega) fun A v C a c ev => by
          subst ev
          have hC := c.k (a.k (b1.k hB))
          refine kk _ ?_ ?_
          · exact (((e.trans b1).trans a).trans c).mut h0 hC
          · rw [upd_same, List.map_append]
            rfl
      refine s_if (b := !decide (V.str s = V.str b)) (et_test (ev_op (by walk_at "ev") (by walk_at "ev") (rv_ne rfl))) ?_ ?_
      · intro hb B1 b1
        have hne : ¬ s = b := by simpa [decide_str] using hb
        rw [if_neg hne] at hpg
        refine app s z _ _ _ hpg B1 b1 (by walk_at "ev") (by walk_at "ev") fun B2 e2 h2 => ⟨e2, hil, z, acc ++ [s], some (.str s), h2, by rw [List.length_append, hal]; rfl, by rw [List.append_assoc]; exact hpg, rfl⟩
      · intro hb B1 b1
        have he : s = b := by simpa [decide_str] using hb
        rw [if_pos he] at hpg
        refine s_if (b := decide ((0 : Int) < (z : Int))) (et_test (ev_op (by walk_at "ev") ev_c rv_I0)) ?_ ?_
        · intro hb2 B2 b2
          have hz : 0 < z := by have : (0 : Int) < (z : Int) := of_decide_eq_true hb2; omega
          rw [if_pos hz] at hpg
          refine app (b ++ ("0" : Str)) (z - 1) _ _ _ hpg B2 (b1.trans b2) (by walk_at "ev") (ev_op (by walk_at "ev") ev_c (rv_add_str (by show b.length + 1 ≤ _; omega))) fun B3 e3 h3 => ?_
          refine s_aug (x := (z : Int)) (y := 1) rfl ev_c fun B4 e4 => ⟨e3.trans e4, hil, z - 1, acc ++ [b ++ ("0" : Str)], some (.str s), e4.k h3, by rw [List.length_append, hal]; rfl, by rw [List.append_assoc]; exact hpg, ?_⟩
          show [_, _, some (V.int ((z : Int) - 1)), _, _] = _
          rw [show ((z : Int) - 1) = ((z - 1 : Nat) : Int) by omega]
        · intro hb2 B2 b2
          have hz : ¬ 0 < z := by have : ¬ (0 : Int) < (z : Int) := of_decide_eq_false hb2; omega
          rw [if_neg hz] at hpg
          refine app (b ++ ("1" : Str)) z _ _ _ hpg B2 (b1.trans b2) (by walk_at "ev") (ev_op (by walk_at "ev") ev_c (rv_add_str (by show b.length + 1 ≤ _; omega))) fun B3 e3 h3 => ⟨e3, hil, z, acc ++ [b ++ ("1" : Str)], some (.str s), h3, by rw [List.length_append, hal]; rfl, by rw [List.append_assoc]; exact hpg, rfl⟩
    · rintro σ' B ⟨e, _, z, acc, u, hB, hal, hpg, rfl⟩
      rw [hxl, List.drop_length, partGo, List.append_nil] at hpg
      subst hpg
      walk_at "ret"
      exact fun C c => k pd C h0 (e.trans c) ⟨_, c.k hB, pr_strs⟩
def spJoined7 : Sp := fun vs H Q _ => ∃ (a : Addr) (ss : List Str) (b : Str), vs = [.ref a, .str b] ∧ LR rpStr H a ss ∧ ss.length ≤ 1000 ∧ b.length ≤ 100 ∧ RetLR rpStr (joinGo b (b ++ ("0" : Str)) (b ++ ("1" : Str)) ss) H Q
theorem ok_joined_at (T : Top K mg) : FnOk P w K mg base CX0 1 T.a_joined_at T.fd_joined_at ["board", "bits"] spJoined7 := by
  refine T.F_joined_at.ok sc_joined_at (fun vs H Q E h => ?_) (fun cdv A outer s H vs Q E hr h => ?_)
  · obtain ⟨a, ss, b, rfl, _⟩ := h
    rfl
  · obtain ⟨a, ss, b, rfl, hL, hz, hbz, k⟩ := h
    refine ⟨_, (pss_cons (ps_set (i := 2) sc_joined_at.nd rfl (Or.inr rfl) (pe_tup (pa_cons (pe_op op_add_str (pv 1) pe_str) (pa_cons (pe_op op_add_str (pv 1) pe_str) pa_nil))))
      (pss_one (ps_ret (pe_lc (own := [("text", 3)]) (g := gName 3) (tt := tYes) rfl sc_joined_at.nd (pi_list (pv 0)) (blkOk_by (N := n_joined_at) (sc := defScope s_joined_at) (by decide +kernel)) (fun _ _ _ _ _ => pg_name (i := 3) sc_joined_at.nd rfl (Or.inl rfl)) (fun _ _ _ _ _ => pts_nil) (fun _ _ _ _ _ => (pe_ifExp (pt_cmpR (r := rIn K false) op_in_seq (pv 3) (pv 2) (by rfl)) (pv 1) (pv 3))))))), ?_⟩
    have h0 : ∀ {σ : L2.St} {A : Hp}, σ[1]? = some (some (.str b)) → Ev (tOp (fun x y H Q => ∃ i j, x = V.str i ∧ y = V.str j ∧ i.length + j.length ≤ sizeLine ∧ Q (.str (i ++ j)) H) (tVar 1) (tC (.str "0"))) σ A (.str (b ++ ("0" : Str))) := fun h => ev_op (ev_var h) ev_c (rv_add_str (by show b.length + 1 ≤ _; omega))
    have h1 : ∀ {σ : L2.St} {A : Hp}, σ[1]? = some (some (.str b)) → Ev (tOp (fun x y H Q => ∃ i j, x = V.str i ∧ y = V.str j ∧ i.length + j.length ≤ sizeLine ∧ Q (.str (i ++ j)) H) (tVar 1) (tC (.str "1"))) σ A (.str (b ++ ("1" : Str))) := fun h => ev_op (ev_var h) ev_c (rv_add_str (by show b.length + 1 ≤ _; omega))
    refine q_asgG (eg_tup (vs := [.str (b ++ ("0" : Str)), .str (b ++ ("1" : Str))]) (ea_cons (h0 rfl) (ea_cons (h1 rfl) ea_nil)) (by show 2 ≤ 100000; decide)) ?_
    rintro v H1 e1 ⟨t, rfl, _, ht⟩
    show tRet _ _ [some (.ref a), some (.str b), some (.ref t), none] H1
    obtain ⟨xs, hx, px⟩ := hL.mono e1
    refine s_retLR (r' := rpStr) (bs := (ss.filter fun _ => true).map fun s => if s = b ++ ("0" : Str) ∨ s = b ++ ("1" : Str) then b else s) (lcLR (K := K) (r := rpStr) (r' := rpStr) (fun _ => true) _ (by walk_at "ev") (sq_of hx) px (by omega) (fun _ => rfl) ?_ ?_) ?_
    · intro v s B e _ _
      exact fun H5 e5 Q' q' => q' H5 (.refl H5)
    · rintro v s B e _ rfl _
      refine ev_R (v := .str (if s = b ++ ("0" : Str) ∨ s = b ++ ("1" : Str) then b else s)) (ev_if (b := decide (s = b ++ ("0" : Str) ∨ s = b ++ ("1" : Str))) (et_is (et_test (ev_op (by walk_at "ev") (by walk_at "ev") (rv_in (neg := false) (xs := [b ++ ("0" : Str), b ++ ("1" : Str)].map V.str) (.inr (st_of (e.k ht))) rfl (flat_strs _)))) ?_) ?_ ?_) fun _ _ => rfl
      · rw [in_strs]
        refine decide_eq_decide.mpr ?_
        simp
      · intro hb
        rw [if_pos (of_decide_eq_true hb)]
        walk_at "ev"
      · intro hb
        rw [if_neg (of_decide_eq_false hb)]
        walk_at "ev"
    · rw [List.filter_eq_self.mpr (fun _ _ => rfl)]
      exact k.mono e1
def spPlace : Sp := fun vs H Q _ => ∃ i D : Nat, vs = [.int (i : Int), .int (D : Int)] ∧ D ≤ 8 ∧ i < 2 ^ D ∧ RetV (.str (bt (D, i))) H Q
theorem str_bit (i : Nat) : (toString ((i : Int) % 2) : Str) = ⟨#[48 + i % 2]⟩ := by
  rcases Nat.mod_two_eq_zero_or_one i with h | h
  · rw [show (i : Int) % 2 = 0 by omega, h]
    decide +kernel
  · rw [show (i : Int) % 2 = 1 by omega, h]
    decide +kernel
theorem app_front (x : Nat) (a : List Nat) : (⟨#[x]⟩ : Str) ++ (⟨a.toArray⟩ : Str) = ⟨(x :: a).toArray⟩ := by
  show (⟨#[x] ++ a.toArray⟩ : Str) = _
  simp
theorem place_step (i j : Nat) : (⟨#[48 + i / 2 ^ j % 2]⟩ : Str) ++ bt (j, i % 2 ^ j) = bt (j + 1, i % 2 ^ (j + 1)) := by
  refine (app_front _ _).trans ?_
  show (⟨_⟩ : Str) = ⟨(bl (j + 1) (i % 2 ^ (j + 1))).toArray⟩
  rw [bl_cons, Nat.pow_succ, Nat.mod_mul_right_mod, Nat.mod_mul_right_div_self, Nat.mod_mod]
theorem ok_l_place (T : Top K mg) : FnOk P w K mg base CX0 1 T.a_l_place T.fd_l_place ["_law_at", "_law_depth"] spPlace := by
  refine T.F_l_place.ok sc_l_place (fun vs H Q E h => ?_) (fun cdv A outer s H vs Q E hr h => ?_)
  · obtain ⟨i, D, rfl, _⟩ := h
    rfl
  · obtain ⟨i, D, rfl, hD, hi, k⟩ := h
    refine ⟨_, (pss_cons (ps_set (i := 2) sc_l_place.nd rfl (Or.inl rfl) pe_str)
      (pss_cons (ps_for PassesOwn.never rfl (pi_range1 (by rfl) T.z_range (pa_cons (pv 1) pa_nil)) (pg_name (i := 3) sc_l_place.nd rfl (Or.inl rfl)) (pss_cons (ps_set (i := 2) sc_l_place.nd rfl (Or.inl rfl) (pe_op op_add_str (pe_callTy call_str_int (by rfl) T.z_str (by decide +kernel) (pa_cons (pe_op op_mod (pv 0) pe_int) pa_nil)) (pv 2)))
      (pss_one (ps_set (i := 0) sc_l_place.nd rfl (Or.inl rfl) (pe_op op_fdiv (pv 0) pe_int)))))
      (pss_one (ps_ret (pv 2))))), ?_⟩
    walk_at "asg"
    intro H1 e1
    refine q_forR1 (n := D) (by walk_at "ea") (by omega) (fun j σ H' => Ex H H' ∧ j ≤ D ∧ ∃ u, σ = [some (.int ((i / 2 ^ j : Nat) : Int)), some (.int (D : Int)), some (.str (bt (j, i % 2 ^ j))), u]) ?_ ?_ ?_
    · intro H2 e2
      refine ⟨e1.trans e2, Nat.zero_le _, none, ?_⟩
      show [some (V.int ((i : Nat) : Int)), _, some (V.str ""), _] = _
      rw [Nat.pow_zero, Nat.div_one, bt_nil]
    · rintro j σ' B hj ⟨e, _, u, rfl⟩
      show tSeq _ _ _ [some (.int ((i / 2 ^ j : Nat) : Int)), some (.int (D : Int)), some (.str (bt (j, i % 2 ^ j))), some (.int (j : Int))] B
      have hlog : (((i / 2 ^ j : Nat) : Int) % 2).natAbs.log2 < 1920 := by
        have : (((i / 2 ^ j : Nat) : Int) % 2).natAbs = 0 ∨ (((i / 2 ^ j : Nat) : Int) % 2).natAbs = 1 := by omega
        rcases this with h | h <;> rw [h] <;> decide
      refine q_asg (v := .str (bt (j + 1, i % 2 ^ (j + 1)))) (ev_is (ev_op (ev_cb (ea_cons (ev_op (by walk_at "ev") ev_c (rv_I (by decide))) ea_nil) (rc_strI hlog)) (by walk_at "ev") (rv_add_str ?_)) ?_) ?_
      · rw [str_bit, bt_len]
        show 1 + j ≤ 100000
        omega
      · rw [str_bit, place_step]
      intro B2 b2
      show tAsg _ _ _ [some (.int ((i / 2 ^ j : Nat) : Int)), some (.int (D : Int)), some (.str (bt (j + 1, i % 2 ^ (j + 1)))), some (.int (j : Int))] B2
      refine s_asg (v := .int ((i / 2 ^ (j + 1) : Nat) : Int)) (ev_is (ev_op (by walk_at "ev") ev_c (rv_I ⟨by decide, by decide⟩)) (congrArg V.int ?_)) ?_
      · rw [Nat.pow_succ, ← Nat.div_div_eq_div_mul]
        omega
      · intro B3 b3
        exact ⟨(e.trans b2).trans b3, hj, _, rfl⟩
    · rintro σ' B ⟨e, _, u, rfl⟩
      walk_at "ret"
      rw [Nat.mod_eq_of_lt hi]
      exact RetV.mono e k
theorem spv_place {i D : Nat} {H : Hp} (hD : D ≤ 8) (hi : i < 2 ^ D) : SpV spPlace [.int (i : Int), .int (D : Int)] H (.str (bt (D, i))) := fun A e Q q E => ⟨i, D, rfl, hD, hi, q⟩
/-- the law's board: at each place the one whose bits it begins with -/
def spBoardC : Sp := fun vs H Q _ => ∃ (a : Addr) (R : List Code) (D : Nat), vs = [.ref a, .int (D : Int)] ∧ LR rpC H a R ∧ R.length ≤ 1000 ∧ D ≤ 7 ∧ Cov R D ∧ RetLR rpC (boardC R D) H Q
theorem pre_is {R : List Code} {D i : Nat} (h : Cov R D) (hi : i < 2 ^ D) {c : Code} (hc : c ∈ R) : decide (V.str (cutS (bt (D, i)) none (some ((bt c).length : Int))) = V.str (bt c)) = inB D i c := by
  have hv := h.val c hc
  rw [bt_len, bt_pre i hv.2, decide_str]
  have hl : i / 2 ^ (D - c.1) < 2 ^ c.1 := by
    rw [Nat.div_lt_iff_lt_mul (Nat.two_pow_pos _), ← Nat.pow_add, show c.1 + (D - c.1) = D by omega]
    exact hi
  have e : (bt (c.1, i / 2 ^ (D - c.1)) = bt c) ↔ inB D i c = true := by
    rw [bt_iff (show Cv (c.1, i / 2 ^ (D - c.1)) from hl) hv.1, inB_iff]
    exact ⟨fun z => ⟨hv.2, congrArg Prod.snd z⟩, fun z => Prod.ext rfl z.2⟩
  by_cases z : inB D i c = true
  · rw [z, decide_eq_true (e.mpr z)]
  · rw [decide_eq_false (fun y => z (e.mp y))]
    exact (Bool.eq_false_iff.mpr z).symm
theorem ok_l_board (T : Top K mg) : FnOk P w K mg base CX0 2 T.a_l_board T.fd_l_board ["_law_rooms_here", "_law_depth"] spBoardC := by
  refine T.F_l_board.ok sc_l_board (fun vs H Q E h => ?_) (fun cdv A outer s H vs Q E hr h => ?_)
  · obtain ⟨a, R, D, rfl, _⟩ := h
    rfl
  · obtain ⟨a, R, D, rfl, hL, hz, hD, hC, k⟩ := h
    refine ⟨_, (pss_cons (ps_set (i := 2) sc_l_board.nd rfl (Or.inl rfl) (pe_lst pa_nil))
      (pss_cons (ps_for PassesOwn.never rfl (pi_range1 (by rfl) T.z_range (pa_cons (pe_ix (r := rIxL K) ix_list (pe_lst (pa_cons pe_int (pa_cons pe_int (pa_cons pe_int (pa_cons pe_int (pa_cons pe_int (pa_cons pe_int (pa_cons pe_int (pa_cons pe_int pa_nil))))))))) (pv 1) (fun _ _ => rfl)) pa_nil)) (pg_name (i := 3) sc_l_board.nd rfl (Or.inl rfl)) (pss_cons (ps_set (i := 4) sc_l_board.nd rfl (Or.inr rfl) (pe_call (ok_l_place T) (hr.mono (by decide)) rfl T.g_l_place T.F_l_place.kp T.b_l_place .nil pass0 (pa_cons (pv 3) (pa_cons (pv 1) pa_nil))))
      (pss_one (ps_expr (pe_bm PySem.F.plainAttrs_list PySem.F.slot_list_append PySem.F.type_list_append mt_append (pv 2) (pa_cons (pe_ix (r := rIxL K) ix_list (pe_lc (own := [("_law_one", 5)]) (g := gName 5) rfl sc_l_board.nd (pi_list (pv 0)) (blkOk_by (N := n_l_board) (sc := defScope s_l_board) (by decide +kernel)) (fun _ _ _ _ _ => pg_name (i := 5) sc_l_board.nd rfl (Or.inl rfl)) (fun _ _ _ _ _ => (pts_one (pt_cmpR op_eq (pe_slice sl_str (pv 4) po_none (po_some (pe_callB call_len_str (by rfl) T.z_len (by decide +kernel) (pa_cons (pv 5) pa_nil)))) (pv 5) (nomark _)))) (fun _ _ _ _ _ => (pv 5))) pe_int (fun _ _ => rfl)) pa_nil))))))
      (pss_one (ps_ret (pv 2))))), ?_⟩
    have hp : 2 ^ D ≤ 2 ^ 7 := Nat.pow_le_pow_right (by decide) hD
    refine q_asgG (eg_lst ea_nil (by decide)) ?_
    rintro v H1 e1 ⟨pf, rfl, hpf, hf⟩
    show tSeq _ _ _ [some (.ref a), some (.int (D : Int)), some (.ref pf), none, none, none] H1
    refine q_forR1 (n := 2 ^ D) (ea_cons (ev_opL (K := K) (P := NewL [V.int 1, .int 2, .int 4, .int 8, .int 16, .int 32, .int 64, .int 128]) (y := .int (D : Int)) (z := .int ((2 ^ D : Nat) : Int)) (eg_lst (by walk_at "ea") (by decide)) (by walk_at "ev") ?_) ea_nil) (by omega) (fun i σ B => Ex H B ∧ i ≤ 2 ^ D ∧ ∃ u v, B pf = some (.lst (((List.range i).map (atC R D)).map fun c => V.str (bt c))) ∧ σ = [some (.ref a), some (.int (D : Int)), some (.ref pf), u, v, none]) ?_ ?_ ?_
    · rintro A w B _ _ ⟨p, rfl, _, hp⟩
      exact rv_ixL (sq_of hp) (w8_at D (by omega))
    · intro B e
      exact ⟨e1.trans e, Nat.zero_le _, none, none, e.k hf, rfl⟩
    · rintro i σ' B hi ⟨e, _, u, v, hB, rfl⟩
      show tSeq _ _ _ [some (.ref a), some (.int (D : Int)), some (.ref pf), some (.int (i : Int)), v, none] B
      refine q_asg (v := .str (bt (D, i))) (ev_call (by walk_at "ea") (spv_place (by omega) hi)) ?_
      intro B2 b2
      show tDrop _ _ [some (.ref a), some (.int (D : Int)), some (.ref pf), some (.int (i : Int)), some (.str (bt (D, i))), none] B2
      obtain ⟨xs, hx, px⟩ := hL.mono (e.trans b2)
      refine s_app (P := fun _ v _ => v = .str (bt (atC R D i))) (b2.k hB) (by walk_at "ev") ((ev_ixN (r := rpC) (as := (R.filter (inB D i)).map id) (lcLR (K := K) (r := rpC) (r' := rpC) (inB D i) id (by walk_at "ev") (sq_of hx) px (by omega) (fun _ => rfl) ?_ ?_) ev_c ?_).g fun _ _ _ _ => rfl) (by rw [List.length_map, List.length_map, List.length_range]; omega) ?_
      · rintro v c B3 b3 hc rfl
        refine et_is (et_test (ev_op (ev_slS (s := bt (D, i)) (by walk_at "ev") (by walk_at "eo") (eo_some (ev_cb (by walk_at "ea") (rc_lenS (by rw [bt_len]; have := (hC.val c hc).2; omega)))) (by rw [bt_len]; show D ≤ 100000; omega)) (by walk_at "ev") (rv_eq rfl))) (pre_is hC hi hc)
      · rintro v c B3 b3 hc rfl _
        exact ev_R (v := .str (bt c)) (by walk_at "ev") fun _ _ => rfl
      · intro B3 ys hy
        have hm := atC_mem hC hi
        have hl : 0 < ((R.filter (inB D i)).map id).length := by
          rw [List.length_map]
          exact List.length_pos_of_mem (List.mem_filter.mpr hm)
        rw [show ((0 : Int)) = ((0 : Nat) : Int) from rfl, prC_at hy hl]
        refine congrArg (fun c => some (V.str (bt c))) ?_
        have hmem : ((R.filter (inB D i)).map id)[0] ∈ R.filter (inB D i) := by
          obtain ⟨x, hx1, hx2⟩ := List.mem_map.mp (List.getElem_mem hl)
          rw [← hx2]
          exact hx1
        obtain ⟨g1, g2⟩ := List.mem_filter.mp hmem
        exact (atC_eq hC hi g1 g2).symm
      · rintro A v2 C a' c rfl
        have hCf := c.k (a'.k (b2.k hB))
        refine ⟨(((e.trans b2).trans a').trans c).mut hpf hCf, hi, some (.int (i : Int)), some (.str (bt (D, i))), ?_, rfl⟩
        rw [upd_same, List.range_succ, List.map_append, List.map_append]
        rfl
    · rintro σ' B ⟨e, _, u, v, hB, rfl⟩
      walk_at "ret"
      refine fun C c => k pf C hpf (e.trans c) ⟨_, c.k hB, ?_⟩
      have : ∀ L : List Code, PR rpC C (L.map fun c => V.str (bt c)) L := fun L => by
        induction L with
        | nil => exact .nil
        | cons a t ih => exact .cons rfl ih
      exact this _
end

theorem Cov.lift {R : List Code} {D N : Nat} (h : Cov R D) (hN : D ≤ N) : Cov R N := by
  have key : ∀ m, m < 2 ^ N → ∀ c ∈ R, (inB N m c = true ↔ inB D (m / 2 ^ (N - D)) c = true) := fun m _ c hc => by
    have hv := (h.val c hc).2
    rw [inB_iff, inB_iff, Nat.div_div_eq_div_mul, ← Nat.pow_add, show N - D + (D - c.1) = N - c.1 by omega]
    exact ⟨fun z => ⟨hv, z.2⟩, fun z => ⟨by omega, z.2⟩⟩
  have hlt : ∀ m, m < 2 ^ N → m / 2 ^ (N - D) < 2 ^ D := fun m hm => by
    rw [Nat.div_lt_iff_lt_mul (Nat.two_pow_pos _), ← Nat.pow_add, show D + (N - D) = N by omega]
    exact hm
  refine ⟨fun c hc => ⟨(h.val c hc).1, Nat.le_trans (h.val c hc).2 hN⟩, fun m hm => ?_, fun m hm c hc d hd bc bd => ?_⟩
  · obtain ⟨c, hc, hb⟩ := h.ex _ (hlt m hm)
    exact ⟨c, hc, (key m hm c hc).mpr hb⟩
  · exact h.uq _ (hlt m hm) c hc d hd ((key m hm c hc).mp bc) ((key m hm d hd).mp bd)
theorem Cov.down {R : List Code} {D N : Nat} (h : Cov R N) (hN : D ≤ N) (hl : ∀ c ∈ R, c.1 ≤ D) : Cov R D := by
  have key : ∀ i, i < 2 ^ D → ∀ c ∈ R, (inB N (i * 2 ^ (N - D)) c = true ↔ inB D i c = true) := fun i _ c hc => by
    have hv := hl c hc
    rw [inB_iff, inB_iff, show N - c.1 = (N - D) + (D - c.1) by omega, Nat.pow_add, ← Nat.div_div_eq_div_mul, Nat.mul_div_cancel _ (Nat.two_pow_pos _)]
    exact ⟨fun z => ⟨hv, z.2⟩, fun z => ⟨by omega, z.2⟩⟩
  have hlt : ∀ i, i < 2 ^ D → i * 2 ^ (N - D) < 2 ^ N := fun i hi => by
    have e : 2 ^ N = 2 ^ D * 2 ^ (N - D) := by rw [← Nat.pow_add, show D + (N - D) = N by omega]
    rw [e]
    exact Nat.mul_lt_mul_of_pos_right hi (Nat.two_pow_pos _)
  refine ⟨fun c hc => ⟨(h.val c hc).1, hl c hc⟩, fun i hi => ?_, fun i hi c hc d hd bc bd => ?_⟩
  · obtain ⟨c, hc, hb⟩ := h.ex _ (hlt i hi)
    exact ⟨c, hc, (key i hi c hc).mp hb⟩
  · exact h.uq _ (hlt i hi) c hc d hd ((key i hi c hc).mpr bc) ((key i hi d hd).mpr bd)
theorem cov_one (D : Nat) : Cov [(0, 0)] D := by
  refine ⟨fun c hc => ?_, fun i hi => ⟨(0, 0), List.mem_singleton.mpr rfl, ?_⟩, fun i hi c hc d hd _ _ => ?_⟩
  · rw [List.mem_singleton.mp hc]
    exact ⟨by show 0 < 2 ^ 0; decide, Nat.zero_le _⟩
  · rw [inB_iff]
    exact ⟨Nat.zero_le _, by rw [Nat.sub_zero]; exact Nat.div_eq_of_lt hi⟩
  · rw [List.mem_singleton.mp hc, List.mem_singleton.mp hd]
theorem cov_pos {R : List Code} {D : Nat} (h : Cov R D) : 0 < R.length := by
  obtain ⟨c, hc, _⟩ := h.ex 0 (Nat.two_pow_pos D)
  exact List.length_pos_of_mem hc
theorem part_len (R : List Code) (c : Code) : (partR R c).length ≤ R.length + 2 := by
  unfold partR
  rw [List.length_append]
  have := List.length_filter_le (fun d => decide (d ≠ c)) R
  show _ + 2 ≤ _
  omega
theorem exists_max : ∀ (ns : List Nat), 0 < ns.length → ∃ m ∈ ns, ∀ y ∈ ns, y ≤ m
  | [], h => absurd h (by simp)
  | [a], _ => ⟨a, List.mem_singleton.mpr rfl, fun y hy => Nat.le_of_eq (List.mem_singleton.mp hy)⟩
  | a :: b :: t, _ => by
    obtain ⟨m, hm, ha⟩ := exists_max (b :: t) (by simp)
    by_cases h : m ≤ a
    · exact ⟨a, List.mem_cons_self, fun y hy => (List.mem_cons.mp hy).elim (fun e => Nat.le_of_eq e) fun z => Nat.le_trans (ha y z) h⟩
    · exact ⟨m, List.mem_cons_of_mem _ hm, fun y hy => (List.mem_cons.mp hy).elim (fun e => by omega) fun z => ha y z⟩
/-- rooms of up to six bits that take each place once -/
def Six (R : List Code) (n : Nat) : Prop := Cov R 6 ∧ R.length ≤ n
section
variable {P : Program} {w : World} {K : PySem.W.Frag} {mg : Str → Option Value} {base : Heap}
def spRooms7 (K : PySem.W.Frag) : Sp := fun vs H Q _ => ∃ (a : Addr) (ns : List Int), vs = [.ref a] ∧ SqL K H a (ns.map V.int) ∧ ∀ R : List Code, Six R 40 → RetLR rpC R H Q
theorem prC_all {H : Hp} : ∀ R : List Code, PR rpC H (R.map fun c => V.str (bt c)) R
  | [] => .nil
  | _ :: t => .cons rfl (prC_all t)
theorem ne_dec {c d : Code} (hc : Cv c) (hd : Cv d) : (!decide (V.str (bt c) = V.str (bt d))) = decide (c ≠ d) := by
  rw [decide_str]
  by_cases h : c = d
  · rw [decide_eq_true (congrArg bt h), decide_eq_false (fun z => z h)]
    rfl
  · rw [decide_eq_false (fun z => h (bt_inj hc hd z)), decide_eq_true h]
    rfl
theorem ev_b0 {σ : L2.St} {H : Hp} {te : TE} {c : Code} (h : Ev te σ H (.str (bt c))) (hl : c.1 ≤ 1000) : Ev (tOp (fun x y H Q => ∃ i j, x = V.str i ∧ y = V.str j ∧ i.length + j.length ≤ sizeLine ∧ Q (.str (i ++ j)) H) te (tC (.str "0"))) σ H (.str (bt (c0 c))) :=
  ev_is (ev_op h ev_c (rv_add_str (by rw [bt_len]; show c.1 + 1 ≤ _; omega))) (by rw [bt_0])
theorem ev_b1 {σ : L2.St} {H : Hp} {te : TE} {c : Code} (h : Ev te σ H (.str (bt c))) (hl : c.1 ≤ 1000) : Ev (tOp (fun x y H Q => ∃ i j, x = V.str i ∧ y = V.str j ∧ i.length + j.length ≤ sizeLine ∧ Q (.str (i ++ j)) H) te (tC (.str "1"))) σ H (.str (bt (c1 c))) :=
  ev_is (ev_op h ev_c (rv_add_str (by rw [bt_len]; show c.1 + 1 ≤ _; omega))) (by rw [bt_1])
theorem el_two {σ : L2.St} {H : Hp} {ta tb : TE} {c d : Code} (ha : Ev ta σ H (.str (bt c))) (hb : Ev tb σ H (.str (bt d))) : EvLR rpC (tLst (tCons ta (tCons tb tNil))) σ H [c, d] :=
  (eg_lst (ea_cons ha (ea_cons hb ea_nil)) (by show 2 ≤ 100000; decide)).imp fun A v B _ _ ⟨p, e, hp, h⟩ => ⟨p, e, hp, _, h, .cons rfl (.cons rfl .nil)⟩
theorem ok_l_rooms (T : Top K mg) : FnOk P w K mg base CX0 2 T.a_l_rooms T.fd_l_rooms ["_law_script"] (spRooms7 K) := by
  refine T.F_l_rooms.ok sc_l_rooms (fun vs H Q E h => ?_) (fun cdv A outer s H vs Q E hr h => ?_)
  · obtain ⟨a, ns, rfl, _⟩ := h
    rfl
  · obtain ⟨a, ns, rfl, hS, k⟩ := h
    refine ⟨_, (pss_cons (ps_set (i := 1) sc_l_rooms.nd rfl (Or.inl rfl) (pe_lst (pa_cons pe_str pa_nil)))
      (pss_cons (ps_for PassesOwn.never rfl (pi_range1 (by rfl) T.z_range (pa_cons (pe_op op_mod (pe_call (ok_l_cell_at T) (hr.mono (by decide)) rfl T.g_l_cell_at T.F_l_cell_at.kp T.b_l_cell_at .nil pass0 (pa_cons (pv 0) (pa_cons pe_int pa_nil))) pe_int) pa_nil)) (pg_name (i := 2) sc_l_rooms.nd rfl (Or.inl rfl)) (pss_cons (ps_set (i := 3) sc_l_rooms.nd rfl (Or.inr rfl) (pe_ix (r := rIxL K) ix_list (pv 1) (pe_op op_mod (pe_call (ok_l_cell_at T) (hr.mono (by decide)) rfl T.g_l_cell_at T.F_l_cell_at.kp T.b_l_cell_at .nil pass0 (pa_cons (pv 0) (pa_cons (pe_op op_add pe_int (pv 2)) pa_nil))) (pe_callB (r := rLen K) call_len_seq (by rfl) T.z_len (by decide +kernel) (pa_cons (pv 1) pa_nil))) (fun _ _ => rfl)))
      (pss_one (ps_if (pt_cmpR op_lt (pe_callB call_len_str (by rfl) T.z_len (by decide +kernel) (pa_cons (pv 3) pa_nil)) pe_int (nomark _)) (pss_one (ps_set (i := 1) sc_l_rooms.nd rfl (Or.inl rfl) (pe_op op_cat (pe_lc (own := [("_law_one", 4)]) (g := gName 4) rfl sc_l_rooms.nd (pi_list (pv 1)) (blkOk_by (N := n_l_rooms) (sc := defScope s_l_rooms) (by decide +kernel)) (fun _ _ _ _ _ => pg_name (i := 4) sc_l_rooms.nd rfl (Or.inl rfl)) (fun _ _ _ _ _ => (pts_one (pt_cmpR op_ne (pv 4) (pv 3) (nomark _)))) (fun _ _ _ _ _ => (pv 4))) (pe_lst (pa_cons (pe_op op_add_str (pv 3) pe_str) (pa_cons (pe_op op_add_str (pv 3) pe_str) pa_nil)))))) pss_nil))))
      (pss_one (ps_ret (pv 1))))), ?_⟩
    refine q_asgG (eg_lst (vs := [.str ""]) (by walk_at "ea") (by show 1 ≤ 100000; decide)) ?_
    rintro v H1 e1 ⟨p0, rfl, hp0, h0⟩
    have hS1 := ex_l e1 hS
    show tSeq _ _ _ [some (.ref a), some (.ref p0), none, none, none] H1
    obtain ⟨n, hn, ln⟩ := nat_mod (cellN ns (0 : Int).toNat) 13 (by decide)
    refine q_forR1 (n := n) (ea_cons (ev_is (by walk_at "ev") (congrArg V.int hn)) ea_nil) (by omega) (fun i σ B => Ex H B ∧ ∃ p R u v, H p = none ∧ LR rpC B p R ∧ Six R (1 + 2 * i) ∧ σ = [some (.ref a), some (.ref p), u, v, none]) ?_ ?_ ?_
    · intro B e
      refine ⟨e1.trans e, p0, [(0, 0)], none, none, hp0, ⟨_, e.k h0, .cons ?_ .nil⟩, ⟨cov_one 6, by decide⟩, rfl⟩
      show V.str "" = V.str (bt (0, 0))
      rw [bt_nil]
    · rintro i σ' B hi ⟨e, p, R, u, v, hp, hL, ⟨hC, hz⟩, rfl⟩
      show tSeq _ _ _ [some (.ref a), some (.ref p), some (.int (i : Int)), v, none] B
      have hSB := ex_l e hS
      obtain ⟨xs, hx, px⟩ := id hL
      have hxl := px.length
      have hpos := cov_pos hC
      obtain ⟨t, ht, lt⟩ := nat_mod (cellN ns ((4 : Int) + (i : Int)).toNat) (xs.length : Int) (by omega)
      have htl : t < R.length := by omega
      refine q_asg (v := .str (bt R[t])) (ev_ixV (by walk_at "ev") hL (ev_is (ev_op (ev_call (by walk_at "ea") (spv_cell hSB ((4 : Int) + (i : Int)) (by omega))) (by walk_at "ev") (rv_I (by show (0 : Int) < _; omega))) (congrArg V.int ht)) fun ys hy => prC_at hy htl) ?_
      intro B2 b2
      have hcm := List.getElem_mem htl
      have hcv := hC.val _ hcm
      generalize R[t] = c at hcm hcv
      show tIfS _ _ _ _ [some (.ref a), some (.ref p), some (.int (i : Int)), some (.str (bt c)), none] B2
      have hL2 := hL.mono b2
      refine s_when (b := decide (((bt c).length : Int) < 6)) (et_test (ev_op (ev_cb (by walk_at "ea") (rc_lenS (by rw [bt_len]; omega))) ev_c rv_I0)) ?_ ?_
      · intro hb B3 b3
        have hc6 : c.1 < 6 := by
          have := of_decide_eq_true hb
          rw [bt_len] at this
          omega
        obtain ⟨ys, hy, py⟩ := hL2.mono b3
        refine s_asgG (P := fun A v B => ∃ p, v = .ref p ∧ A p = none ∧ LR rpC B p (partR R c)) ?_ ?_
        · refine (ev_catLR (r' := rpC) (as := (R.filter fun d => decide (d ≠ c)).map id) (bs := [c0 c, c1 c]) (lcLR (K := K) (r := rpC) (r' := rpC) _ id (by walk_at "ev") (sq_of hy) py (by omega) (fun _ => rfl) ?_ ?_) (el_two (ev_b0 (by walk_at "ev") (by omega)) (ev_b1 (by walk_at "ev") (by omega))) ?_).imp ?_
          · rintro v d B4 b4 hd rfl
            exact et_is (et_test (ev_op (by walk_at "ev") (by walk_at "ev") (rv_ne rfl))) (ne_dec (hC.val d hd).1 hcv.1)
          · rintro v d B4 b4 hd rfl _
            exact ev_R (v := .str (bt d)) (by walk_at "ev") fun _ _ => rfl
          · rw [List.length_map]
            have := List.length_filter_le (fun d => decide (d ≠ c)) R
            show _ + 2 ≤ _
            omega
          · rintro A v B' _ _ ⟨q, rfl, hq, l⟩
            rw [List.map_id] at l
            exact ⟨q, rfl, hq, l⟩
        · rintro v B4 b4 ⟨q, rfl, hq, l⟩
          refine ⟨((e.trans b2).trans b3).trans b4, q, partR R c, _, _, fresh_back ((e.trans b2).trans b3) hq, l, ⟨hC.part hcm hc6, ?_⟩, rfl⟩
          have := part_len R c
          omega
      · intro _ B3 b3
        exact ⟨(e.trans b2).trans b3, p, R, _, _, hp, hL2.mono b3, ⟨hC, by omega⟩, rfl⟩
    · rintro σ' B ⟨e, p, R, u, v, hp, hL, ⟨hC, hz⟩, rfl⟩
      walk_at "ret"
      exact fun C c => k R ⟨hC, by omega⟩ p C hp (e.trans c) (hL.mono c)
/-- the codes whose two halves are there -/
def hasPair (R : List Code) (c : Code) : Bool := decide (0 < c.1) && (decide (c.2 % 2 = 1) && decide (c0 (up c) ∈ R))
theorem last_dec (c : Code) : decide (V.str (cutS (bt c) (some (-1)) none) = V.str "1") = (decide (0 < c.1) && decide (c.2 % 2 = 1)) := by
  rw [decide_str]
  by_cases h : 0 < c.1
  · rw [bt_last c h, decide_eq_true h, Bool.true_and, s1_eq]
    refine decide_eq_decide.mpr ⟨fun z => ?_, fun z => by rw [z]⟩
    have := List.head_eq_of_cons_eq (toL_inj (a := [48 + c.2 % 2]) (b := [49]) z)
    omega
  · obtain ⟨l, k⟩ := c
    obtain rfl : l = 0 := by show l = 0; have h : ¬ 0 < l := h; omega
    rw [bt_nil, decide_eq_false h, Bool.false_and]
    decide +kernel
set_option maxHeartbeats 2000000 in
theorem ok_law (T : Top K mg) : FnOk P w K mg base CX0 4 T.a_law T.fd_law ["_law_script"] (spLaw K) := by
  refine T.F_law.ok sc_law (fun vs H Q E h => ?_) (fun cdv A outer s H vs Q E hr h => ?_)
  · obtain ⟨a, ns, rfl, _⟩ := h
    rfl
  · obtain ⟨a, ns, rfl, hS, hl, k⟩ := h
    refine ⟨_, (pss_cons (ps_set (i := 1) sc_law.nd rfl (Or.inr rfl) (pe_call (ok_l_rooms T) (hr.mono (by decide)) rfl T.g_l_rooms T.F_l_rooms.kp T.b_l_rooms .nil pass0 (pa_cons (pv 0) pa_nil)))
      (pss_cons (ps_set (i := 2) sc_law.nd rfl (Or.inr rfl) (pe_op op_add (pe_callB (r := rMax K) (cr_max rfl) (by rfl) T.z_max (by decide +kernel) (pa_cons (pe_lc (own := [("_law_one", 9)]) (g := gName 9) (tt := tYes) rfl sc_law.nd (pi_list (pv 1)) (blkOk_by (N := n_law) (sc := defScope s_law) (by decide +kernel)) (fun _ _ _ _ _ => pg_name (i := 9) sc_law.nd rfl (Or.inl rfl)) (fun _ _ _ _ _ => pts_nil) (fun _ _ _ _ _ => (pe_callB call_len_str (by rfl) T.z_len (by decide +kernel) (pa_cons (pv 9) pa_nil)))) pa_nil)) (pe_op op_mod (pe_call (ok_l_cell_at T) (hr.mono (by decide)) rfl T.g_l_cell_at T.F_l_cell_at.kp T.b_l_cell_at .nil pass0 (pa_cons (pv 0) (pa_cons pe_int pa_nil))) pe_int)))
      (pss_cons (ps_set (i := 3) sc_law.nd rfl (Or.inl rfl) (pe_call (ok_l_board T) (hr.mono (by decide)) rfl T.g_l_board T.F_l_board.kp T.b_l_board .nil pass0 (pa_cons (pv 1) (pa_cons (pv 2) pa_nil))))
      (pss_cons (ps_set (i := 4) sc_law.nd rfl (Or.inl rfl) (pe_callTy (r := rList K) call_list_of (by rfl) T.z_list (by decide +kernel) (pa_cons (pv 3) pa_nil)))
      (pss_cons (ps_setLc (i := 5) (own := [("_law_one", 9)]) (g := gName 9) rfl sc_law.nd rfl rfl (sw_true rfl rfl rfl (by decide +kernel)) (pi_list (pv 1)) (blkOk_by (N := n_law) (sc := defScope s_law) (by decide +kernel)) (fun _ _ _ _ _ => pg_name (i := 9) sc_law.nd rfl (Or.inl rfl)) (fun _ _ _ _ _ => (pts_one (pt_cmpR op_lt (pe_callB call_len_str (by rfl) T.z_len (by decide +kernel) (pa_cons (pv 9) pa_nil)) (pv 2) (nomark _)))) (fun _ _ _ _ _ => (pv 9)))
      (pss_cons (ps_if (pt_cmpR (r := rNeD K) (op_neD hr.units) (pv 5) (pe_lst pa_nil) (nomark _)) (pss_cons (ps_set (i := 6) sc_law.nd rfl (Or.inr rfl) (pe_ix (r := rIxL K) ix_list (pv 5) (pe_op op_mod (pe_call (ok_l_cell_at T) (hr.mono (by decide)) rfl T.g_l_cell_at T.F_l_cell_at.kp T.b_l_cell_at .nil pass0 (pa_cons (pv 0) (pa_cons pe_int pa_nil))) (pe_callB (r := rLen K) call_len_seq (by rfl) T.z_len (by decide +kernel) (pa_cons (pv 5) pa_nil))) (fun _ _ => rfl)))
      (pss_cons (ps_setLc (i := 7) (own := [("_law_one", 9)]) (g := gName 9) rfl sc_law.nd rfl rfl (sw_true rfl rfl rfl (by decide +kernel)) (pi_list (pv 1)) (blkOk_by (N := n_law) (sc := defScope s_law) (by decide +kernel)) (fun _ _ _ _ _ => pg_name (i := 9) sc_law.nd rfl (Or.inl rfl)) (fun _ _ _ _ _ => (pts_one (pt_cmpR op_ne (pv 9) (pv 6) (nomark _)))) (fun _ _ _ _ _ => (pv 9)))
      (pss_one (ps_if (pt_not (pt_val (pe_call (ok_l_alike T) (hr.mono (by decide)) rfl T.g_l_alike T.F_l_alike.kp T.b_l_alike .nil pass0 (pa_cons (pe_call (ok_parted_at T) (hr.mono (by decide)) rfl T.g_parted_at T.F_parted_at.kp T.b_parted_at .nil pass0 (pa_cons (pv 4) (pa_cons (pv 6) pa_nil))) (pa_cons (pe_call (ok_l_board T) (hr.mono (by decide)) rfl T.g_l_board T.F_l_board.kp T.b_l_board .nil pass0 (pa_cons (pe_op op_cat (pv 7) (pe_lst (pa_cons (pe_op op_add_str (pv 6) pe_str) (pa_cons (pe_op op_add_str (pv 6) pe_str) pa_nil)))) (pa_cons (pv 2) pa_nil))) pa_nil))))) (pss_one (ps_ret pe_bl)) pss_nil)))) pss_nil)
      (pss_cons (ps_setLc (i := 8) (own := [("_law_one", 9)]) (g := gName 9) rfl sc_law.nd rfl rfl (sw_true rfl rfl rfl (by decide +kernel)) (pi_list (pv 1)) (blkOk_by (N := n_law) (sc := defScope s_law) (by decide +kernel)) (fun _ _ _ _ _ => pg_name (i := 9) sc_law.nd rfl (Or.inl rfl)) (fun _ _ _ _ _ => (pts_one (PW.pt (pw_and (pt_cmpR op_eq (pe_slice sl_str (pv 9) (po_some (pe_un un_neg pe_int)) po_none) pe_str (nomark _)) (pw_and1 (pt_cmpR (r := rIn K false) op_in_seq (pe_op op_add_str (pe_slice sl_str (pv 9) po_none (po_some (pe_un un_neg pe_int))) pe_str) (pv 1) (by rfl))))))) (fun _ _ _ _ _ => (pe_slice sl_str (pv 9) po_none (po_some (pe_un un_neg pe_int)))))
      (pss_cons (ps_if (pt_cmpR (r := rNeD K) (op_neD hr.units) (pv 8) (pe_lst pa_nil) (nomark _)) (pss_cons (ps_set (i := 6) sc_law.nd rfl (Or.inr rfl) (pe_ix (r := rIxL K) ix_list (pv 8) (pe_op op_mod (pe_call (ok_l_cell_at T) (hr.mono (by decide)) rfl T.g_l_cell_at T.F_l_cell_at.kp T.b_l_cell_at .nil pass0 (pa_cons (pv 0) (pa_cons pe_int pa_nil))) (pe_callB (r := rLen K) call_len_seq (by rfl) T.z_len (by decide +kernel) (pa_cons (pv 8) pa_nil))) (fun _ _ => rfl)))
      (pss_cons (ps_setLc (i := 7) (own := [("_law_one", 9)]) (g := gName 9) rfl sc_law.nd rfl rfl (sw_true rfl rfl rfl (by decide +kernel)) (pi_list (pv 1)) (blkOk_by (N := n_law) (sc := defScope s_law) (by decide +kernel)) (fun _ _ _ _ _ => pg_name (i := 9) sc_law.nd rfl (Or.inl rfl)) (fun _ _ _ _ _ => (pts_one (PW.pt (pw_and (pt_cmpR op_ne (pv 9) (pe_op op_add_str (pv 6) pe_str) (nomark _)) (pw_and1 (pt_cmpR op_ne (pv 9) (pe_op op_add_str (pv 6) pe_str) (nomark _))))))) (fun _ _ _ _ _ => (pv 9)))
      (pss_one (ps_if (pt_not (pt_val (pe_call (ok_l_alike T) (hr.mono (by decide)) rfl T.g_l_alike T.F_l_alike.kp T.b_l_alike .nil pass0 (pa_cons (pe_call (ok_joined_at T) (hr.mono (by decide)) rfl T.g_joined_at T.F_joined_at.kp T.b_joined_at .nil pass0 (pa_cons (pv 4) (pa_cons (pv 6) pa_nil))) (pa_cons (pe_call (ok_l_board T) (hr.mono (by decide)) rfl T.g_l_board T.F_l_board.kp T.b_l_board .nil pass0 (pa_cons (pe_op op_cat (pv 7) (pe_lst (pa_cons (pv 6) pa_nil))) (pa_cons (pv 2) pa_nil))) pa_nil))))) (pss_one (ps_ret pe_bl)) pss_nil)))) pss_nil)
      (pss_one (ps_ret (pe_call (ok_l_alike T) (hr.mono (by decide)) rfl T.g_l_alike T.F_l_alike.kp T.b_l_alike .nil pass0 (pa_cons (pv 4) (pa_cons (pv 3) pa_nil))))))))))))), ?_⟩
    refine q_asgG (P := fun _ v C => ∃ p R, v = .ref p ∧ LR rpC C p R ∧ Six R 40) (ev_callG (R := fun v C => ∃ p R, v = .ref p ∧ LR rpC C p R ∧ Six R 40) (us := [.ref a]) (by walk_at "ea") ?_) ?_
    · intro B b Q' q' E'
      exact ⟨a, ns, rfl, ex_l b hS, fun R hR p C _ e l => q' _ C e ⟨p, R, rfl, l, hR⟩⟩
    rintro v H1 e1 ⟨pr, R, rfl, L1, hC6, hz⟩
    have hS1 := ex_l e1 hS
    show tSeq _ _ _ [some (.ref a), some (.ref pr), none, none, none, none, none, none, none, none] H1
    obtain ⟨n1, hn1, ln1⟩ := nat_mod (cellN ns (1 : Int).toNat) 2 (by decide)
    obtain ⟨m, hm, hmax⟩ := exists_max (R.map (·.1)) (by rw [List.length_map]; exact cov_pos hC6)
    obtain ⟨cm, hcm, hcm2⟩ := List.mem_map.mp hm
    have hm6 : m ≤ 6 := by
      rw [← hcm2]
      exact (hC6.val cm hcm).2
    have hle : ∀ c ∈ R, c.1 ≤ m := fun c hc => hmax _ (List.mem_map_of_mem hc)
    obtain ⟨xs, hx, px⟩ := id L1
    refine q_asg (v := .int ((m + n1 : Nat) : Int)) (ev_is (ev_op (ev_max (K := K) (ns := (R.filter fun _ => true).map fun c => (c.1 : Int)) (m := (m : Int)) (lcLR (K := K) (r := rpC) (r' := rpInt) (fun _ => true) (fun c => (c.1 : Int)) (by walk_at "ev") (sq_of hx) px (by omega) (fun _ => rfl) ?_ ?_) ?_ ?_ ?_) (ev_is (ev_op (ev_call (by walk_at "ea") (spv_cell hS1 1 (by decide))) ev_c (rv_I (by decide))) (congrArg V.int hn1)) rv_I0) (congrArg V.int (by omega))) ?_
    · intro v c B e _ _
      exact fun H5 e5 Q' q' => q' H5 (.refl H5)
    · rintro v c B e hc rfl _
      have := (hC6.val c hc).2
      exact ev_R (v := .int (c.1 : Int)) (ev_is (ev_cb (by walk_at "ea") (rc_lenS (by rw [bt_len]; omega))) (by rw [bt_len])) fun _ _ => rfl
    · rw [List.filter_eq_self.mpr (fun _ _ => rfl), List.length_map]
      exact cov_pos hC6
    · rw [List.filter_eq_self.mpr (fun _ _ => rfl)]
      exact List.mem_map.mpr ⟨cm, hcm, by rw [hcm2]⟩
    · rw [List.filter_eq_self.mpr (fun _ _ => rfl)]
      intro y hy
      obtain ⟨c, hc, rfl⟩ := List.mem_map.mp hy
      have := hle c hc
      show (c.1 : Int) ≤ (m : Int)
      omega
    intro H2 e2
    have hD7 : m + n1 ≤ 7 := by omega
    generalize hDe : m + n1 = D at hD7
    have hleD : ∀ c ∈ R, c.1 ≤ D := fun c hc => by have := hle c hc; omega
    have hC : Cov R D := (hC6.lift (by decide : 6 ≤ 7)).down hD7 hleD
    have hS2 := ex_l e2 hS1
    have L2' := L1.mono e2
    show tSeq _ _ _ [some (.ref a), some (.ref pr), some (.int (D : Int)), none, none, none, none, none, none, none] H2
    have hp7 : 2 ^ D ≤ 2 ^ 7 := Nat.pow_le_pow_right (by decide) hD7
    have hbl := board_len R D
    -- a call of the law's board, of a new list of codes
    have spB : ∀ {p : Addr} {B : Hp} {S : List Code}, LR rpC B p S → S.length ≤ 1000 → Cov S D → SpLR rpC spBoardC [.ref p, .int (D : Int)] B (boardC S D) := fun l hz hC A e Q q E => ⟨_, _, D, rfl, l.mono e, hz, hD7, hC, q⟩
    refine q_asgLR (r' := rpC) (bs := boardC R D) (ev_callLR (by walk_at "ea") (spB L2' (by omega) hC)) ?_
    intro pb H3 hpb e3 B3
    have L3 := L2'.mono e3
    have hS3 := ex_l e3 hS2
    show tSeq _ _ _ [some (.ref a), some (.ref pr), some (.int (D : Int)), some (.ref pb), none, none, none, none, none, none] H3
    refine q_asgLR (r' := rpC) (bs := boardC R D) (ev_listLR (by walk_at "ev") B3) ?_
    intro ph H4 hph e4 G4
    have L4 := L3.mono e4
    have B4 := B3.mono e4
    have hS4 := ex_l e4 hS3
    show tSeq _ _ _ [some (.ref a), some (.ref pr), some (.int (D : Int)), some (.ref pb), some (.ref ph), none, none, none, none, none] H4
    obtain ⟨ys, hy, py⟩ := id L4
    refine q_asgLR (r' := rpC) (bs := (R.filter fun c => decide (c.1 < D)).map id) (lcLR (K := K) (r := rpC) (r' := rpC) _ id (by walk_at "ev") (sq_of hy) py (by omega) (fun _ => rfl) ?_ ?_) ?_
    · rintro v c B e hc rfl
      have := (hC.val c hc).2
      refine et_is (a := decide (((bt c).length : Int) < (D : Int))) (et_test (ev_op (ev_cb (by walk_at "ea") (rc_lenS (by rw [bt_len]; omega))) (by walk_at "ev") rv_I0)) ?_
      rw [bt_len]
      exact decide_eq_decide.mpr (by omega)
    · rintro v c B e hc rfl _
      exact ev_R (v := .str (bt c)) (by walk_at "ev") fun _ _ => rfl
    rw [List.map_id]
    intro psh H5 hpsh e5 S5
    have L5 := L4.mono e5
    have B5 := B4.mono e5
    have G5 := G4.mono e5
    have hS5 := ex_l e5 hS4
    show tSeq _ _ _ [some (.ref a), some (.ref pr), some (.int (D : Int)), some (.ref pb), some (.ref ph), some (.ref psh), none, none, none, none] H5
    have bcv := board_cv hC
    -- what the parted and the joined board are
    have cmp : ∀ {S : List Code} {p q : Addr} {B : Hp}, LR rpC B p (boardC S D) → LR rpC B q (boardC S D) → SpV spAlikeS [.ref p, .ref q] B (.bl true) := fun {S p q B} l1 l2 A e Q q' E => by
      have hl := board_len S D
      refine ⟨p, q, _, _, rfl, lrC_str (l1.mono e), lrC_str (l2.mono e), by rw [List.length_map]; omega, by rw [List.length_map]; omega, ?_⟩
      rw [decide_eq_true rfl]
      exact q'
    have hnil : ∀ {S : List Code}, (!(S.map bt).isEmpty) = true → 0 < S.length := fun {S} h => by
      cases S with
      | nil => simp at h
      | cons _ _ => exact Nat.zero_lt_succ _
    refine q_whenM (M := fun σ' B => Ex H5 B ∧ ∃ u v, σ' = [some (.ref a), some (.ref pr), some (.int (D : Int)), some (.ref pb), some (.ref ph), some (.ref psh), u, v, none, none]) (et_test (ev_neNilS (by walk_at "ev") (lrC_str S5) (okC _))) ?_ ?_ ?_
    · intro hb go H6 e6
      have hpos := hnil hb
      have S6 := S5.mono e6
      have L6 := L5.mono e6
      have B6 := B5.mono e6
      have G6 := G5.mono e6
      have hS6 := ex_l e6 hS5
      obtain ⟨zs, hzs, pz⟩ := id S6
      have hzl := pz.length
      obtain ⟨t, ht, lt⟩ := nat_mod (cellN ns (2 : Int).toNat) (zs.length : Int) (by omega)
      refine q_asg (v := .str (bt (R.filter fun c => decide (c.1 < D))[t])) (ev_ixV (by walk_at "ev") S6 (ev_is (ev_op (ev_call (by walk_at "ea") (spv_cell hS6 2 (by decide))) (by walk_at "ev") (rv_I (by show (0 : Int) < _; omega))) (congrArg V.int ht)) fun ys hy => prC_at hy (by omega)) ?_
      intro H7 e7
      obtain ⟨hcm, hcl⟩ := List.mem_filter.mp (List.getElem_mem (l := R.filter fun c => decide (c.1 < D)) (n := t) (by omega))
      generalize (R.filter fun c => decide (c.1 < D))[t] = c at hcm hcl
      have hcl := of_decide_eq_true hcl
      have hcv := hC.val c hcm
      show tSeq _ _ _ [some (.ref a), some (.ref pr), some (.int (D : Int)), some (.ref pb), some (.ref ph), some (.ref psh), some (.str (bt c)), none, none, none] H7
      obtain ⟨ws, hw, pw⟩ := L6.mono e7
      refine q_asgLR (r' := rpC) (bs := (R.filter fun d => decide (d ≠ c)).map id) (lcLR (K := K) (r := rpC) (r' := rpC) _ id (by walk_at "ev") (sq_of hw) pw (by omega) (fun _ => rfl) ?_ ?_) ?_
      · rintro v d B4 b4 hd rfl
        exact et_is (et_test (ev_op (by walk_at "ev") (by walk_at "ev") (rv_ne rfl))) (ne_dec (hC.val d hd).1 hcv.1)
      · rintro v d B4 b4 hd rfl _
        exact ev_R (v := .str (bt d)) (by walk_at "ev") fun _ _ => rfl
      rw [List.map_id]
      intro po H8 hpo e8 O8
      have G8 := (G6.mono e7).mono e8
      show tIfS _ _ _ _ [some (.ref a), some (.ref pr), some (.int (D : Int)), some (.ref pb), some (.ref ph), some (.ref psh), some (.str (bt c)), some (.ref po), none, none] H8
      have hpC := hC.part hcm hcl
      have hpl := part_len R c
      have hfl := List.length_filter_le (fun d => decide (d ≠ c)) R
      have hpb' : (partGo (bt c) (bt c ++ ("0" : Str)) (bt c ++ ("1" : Str)) (((boardC R D).map bt).count (bt c) / 2) ((boardC R D).map bt)) = (boardC (partR R c) D).map bt := by
        rw [bt_0, bt_1, count_bt hcv.1 _ bcv, partGo_bt hcv.1 _ _ bcv, part_board hC hcm hcl]
      refine s_when (b := !true) (et_not (et_test (ev_callP2 (r := rpC) (r' := rpC) (as := boardC (partR R c) D) (bs := boardC (partR R c) D) ?_ ?_ fun p q B => cmp))) ?_ ?_
      · refine ev_callLR (r' := rpC) (vs := [.ref ph, .str (bt c)]) (by walk_at "ea") fun A e Q q E => ⟨ph, _, bt c, rfl, lrC_str (G8.mono e), by rw [List.length_map]; omega, by rw [bt_len]; omega, ?_⟩
        rw [hpb']
        exact fun p B hp e' l => q p B hp e' (lrS_C l)
      · exact ev_callG1 (ev_catVN (by walk_at "ev") O8 (el_two (ev_b0 (by walk_at "ev") (by omega)) (ev_b1 (by walk_at "ev") (by omega))) (by show _ + 2 ≤ _; omega)) (by walk_at "ev") fun p B l => spB l (by omega) hpC
      · intro hb
        exact absurd hb (by decide)
      · intro _ H9 e9
        exact go _ _ ⟨((e6.trans e7).trans e8).trans e9, _, _, rfl⟩
    · intro _ H6 e6
      exact ⟨e6, _, _, rfl⟩
    rintro σ' H6 ⟨e6, u6, u7, rfl⟩
    have L6 := L5.mono e6
    have B6 := B5.mono e6
    have G6 := G5.mono e6
    have hS6 := ex_l e6 hS5
    obtain ⟨ks, hks, pks⟩ := id L6
    show tSeq _ _ _ [some (.ref a), some (.ref pr), some (.int (D : Int)), some (.ref pb), some (.ref ph), some (.ref psh), u6, u7, none, none] H6
    have cut1 : ∀ {σ : L2.St} {B : Hp} {te : TE} {c : Code}, c ∈ R → Ev te σ B (.str (bt c)) → Ev (tSl rSlS te tNoPart (tPart (tUn (rU fun i => .int (-i)) (tC (.int 1))))) σ B (.str (cutS (bt c) none (some (-1)))) := fun {σ B te c} hc h => by
      have := (hC.val c hc).2
      exact ev_slS h (by walk_at "eo") (show EvO _ _ _ (some (-1)) from eo_some (ev_neg ev_c)) (by rw [bt_len]; omega)
    refine q_asgLR (r' := rpC) (bs := (R.filter (hasPair R)).map up) (lcLR (K := K) (r := rpC) (r' := rpC) _ up (by walk_at "ev") (sq_of hks) pks (by omega) (fun _ => rfl) ?_ ?_) ?_
    · rintro v c B e hc rfl
      have hcv := hC.val c hc
      have hin : ∀ {B'}, Ex B B' → SqL K B' pr ((R.map bt).map V.str) := fun e' => by
        obtain ⟨zs, hz, pz⟩ := L6.mono (e.trans e')
        rw [List.map_map, show (V.str ∘ bt) = fun c => V.str (bt c) from rfl, ← pr_map_eq pz]
        exact sq_of hz
      refine et_is (et_and (et_test (ev_op (ev_slS (s := bt c) (by walk_at "ev") (show EvO _ _ _ (some (-1)) from eo_some (ev_neg ev_c)) (by walk_at "eo") (by rw [bt_len]; omega)) ev_c (rv_eq rfl))) (b := decide (c0 (up c) ∈ R)) fun hb => ?_) ?_
      · rw [last_dec] at hb
        have h0 : 0 < c.1 := of_decide_eq_true (Bool.and_eq_true_iff.mp hb).1
        refine et_is (et_test (ev_op (ev_b0 (c := up c) (ev_is (cut1 hc (by walk_at "ev")) (congrArg V.str (bt_up c h0))) (by show c.1 - 1 ≤ _; omega)) (by walk_at "ev") (rv_in (neg := false) (.inl (hin (.refl B))) rfl (flat_strs _)))) ?_
        rw [in_strs]
        refine decide_eq_decide.mpr ⟨fun z => ?_, fun z => List.mem_map_of_mem z⟩
        obtain ⟨d, hd, he⟩ := List.mem_map.mp z
        rw [← bt_inj (hC.val d hd).1 (cv0 (cvu hcv.1 h0)) he]
        exact hd
      · rw [last_dec]
        unfold hasPair
        rw [Bool.and_assoc]
    · rintro v c B e hc rfl hp
      have h0 : 0 < c.1 := of_decide_eq_true (Bool.and_eq_true_iff.mp hp).1
      exact ev_R (v := .str (bt (up c))) (ev_is (cut1 hc (by walk_at "ev")) (congrArg V.str (bt_up c h0))) fun _ _ => rfl
    intro pp H7 hpp e7 P7
    have L7 := L6.mono e7
    have B7 := B6.mono e7
    have G7 := G6.mono e7
    have hS7 := ex_l e7 hS6
    show tSeq _ _ _ [some (.ref a), some (.ref pr), some (.int (D : Int)), some (.ref pb), some (.ref ph), some (.ref psh), u6, u7, some (.ref pp), none] H7
    refine q_whenM (M := fun σ' B => Ex H7 B ∧ ∃ u v, σ' = [some (.ref a), some (.ref pr), some (.int (D : Int)), some (.ref pb), some (.ref ph), some (.ref psh), u, v, some (.ref pp), none]) (et_test (ev_neNilS (by walk_at "ev") (lrC_str P7) (okC _))) ?_ ?_ ?_
    · intro hb go H8 e8
      have hpos := hnil hb
      have P8 := P7.mono e8
      have L8 := L7.mono e8
      have G8 := G7.mono e8
      have hS8 := ex_l e8 hS7
      obtain ⟨zs, hzs, pz⟩ := id P8
      have hzl := pz.length
      obtain ⟨t, ht, lt⟩ := nat_mod (cellN ns (3 : Int).toNat) (zs.length : Int) (by omega)
      refine q_asg (v := .str (bt ((R.filter (hasPair R)).map up)[t])) (ev_ixV (by walk_at "ev") P8 (ev_is (ev_op (ev_call (by walk_at "ea") (spv_cell hS8 3 (by decide))) (by walk_at "ev") (rv_I (by show (0 : Int) < _; omega))) (congrArg V.int ht)) fun ys hy => prC_at hy (by omega)) ?_
      intro H9 e9
      obtain ⟨d, hd, hdc⟩ := List.mem_map.mp (List.getElem_mem (l := (R.filter (hasPair R)).map up) (n := t) (by omega))
      generalize ((R.filter (hasPair R)).map up)[t] = c at hdc
      obtain ⟨hdR, hdp⟩ := List.mem_filter.mp hd
      obtain ⟨hd0, hd12⟩ := Bool.and_eq_true_iff.mp hdp
      obtain ⟨hd1, hd2⟩ := Bool.and_eq_true_iff.mp hd12
      have hd0 := of_decide_eq_true hd0
      have hd1 := of_decide_eq_true hd1
      have hd2 := of_decide_eq_true hd2
      have hdv := hC.val d hdR
      rw [hdc] at hd2
      have hcv : Cv c := hdc ▸ cvu hdv.1 hd0
      have hc1 : c1 c ∈ R := by
        rw [← hdc]
        rw [show c1 (up d) = d from Prod.ext (show d.1 - 1 + 1 = d.1 by omega) (show 2 * (d.2 / 2) + 1 = d.2 by omega)]
        exact hdR
      have hcl : c.1 ≤ 6 := by
        rw [← hdc]
        show d.1 - 1 ≤ 6
        omega
      show tSeq _ _ _ [some (.ref a), some (.ref pr), some (.int (D : Int)), some (.ref pb), some (.ref ph), some (.ref psh), some (.str (bt c)), u7, some (.ref pp), none] H9
      obtain ⟨ws, hw, pw⟩ := L8.mono e9
      refine q_asgLR (r' := rpC) (bs := (R.filter fun d => decide (d ≠ c0 c) && decide (d ≠ c1 c)).map id) (lcLR (K := K) (r := rpC) (r' := rpC) _ id (by walk_at "ev") (sq_of hw) pw (by omega) (fun _ => rfl) ?_ ?_) ?_
      · rintro v d B4 b4 hd rfl
        refine et_and (et_is (et_test (ev_op (by walk_at "ev") (ev_b0 (by walk_at "ev") (by omega)) (rv_ne rfl))) (ne_dec (hC.val d hd).1 (cv0 hcv))) fun _ => et_is (et_test (ev_op (by walk_at "ev") (ev_b1 (by walk_at "ev") (by omega)) (rv_ne rfl))) (ne_dec (hC.val d hd).1 (cv1 hcv))
      · rintro v d B4 b4 hd rfl _
        exact ev_R (v := .str (bt d)) (by walk_at "ev") fun _ _ => rfl
      rw [List.map_id]
      intro po H10 hpo e10 O10
      have G10 := (G8.mono e9).mono e10
      show tIfS _ _ _ _ [some (.ref a), some (.ref pr), some (.int (D : Int)), some (.ref pb), some (.ref ph), some (.ref psh), some (.str (bt c)), some (.ref po), some (.ref pp), none] H10
      have hjC := hC.join hcv hd2 hc1
      have hfl := List.length_filter_le (fun d => decide (d ≠ c0 c) && decide (d ≠ c1 c)) R
      have hjl : (joinR R c).length ≤ 1000 := by
        unfold joinR
        rw [List.length_append]
        show _ + 1 ≤ _
        omega
      have hjb : joinGo (bt c) (bt c ++ ("0" : Str)) (bt c ++ ("1" : Str)) ((boardC R D).map bt) = (boardC (joinR R c) D).map bt := by
        rw [bt_0, bt_1, joinGo_bt hcv _ bcv, join_board hC hcv hd2 hc1]
      refine s_when (b := !true) (et_not (et_test (ev_callP2 (r := rpC) (r' := rpC) (as := boardC (joinR R c) D) (bs := boardC (joinR R c) D) ?_ ?_ fun p q B => cmp))) ?_ ?_
      · refine ev_callLR (r' := rpC) (vs := [.ref ph, .str (bt c)]) (by walk_at "ea") fun A e Q q E => ⟨ph, _, bt c, rfl, lrC_str (G10.mono e), by rw [List.length_map]; omega, by rw [bt_len]; omega, ?_⟩
        rw [hjb]
        exact fun p B hp e' l => q p B hp e' (lrS_C l)
      · exact ev_callG1 (ev_catVN (by walk_at "ev") O10 ((eg_lst (vs := [.str (bt c)]) (by walk_at "ea") (by show 1 ≤ 100000; decide)).imp fun A v B _ _ ⟨p, e, hp, h⟩ => ⟨p, e, hp, _, h, .cons rfl .nil⟩) (by show _ + 1 ≤ _; omega)) (by walk_at "ev") fun p B l => spB l hjl hjC
      · intro hb
        exact absurd hb (by decide)
      · intro _ H11 e11
        exact go _ _ ⟨((e8.trans e9).trans e10).trans e11, _, _, rfl⟩
    · intro _ H8 e8
      exact ⟨e8, _, _, rfl⟩
    rintro σ' H8 ⟨e8, w6, w7, rfl⟩
    have B8 := B7.mono e8
    have G8 := G7.mono e8
    refine s_retk (v := .bl true) (ev_call (by walk_at "ea") (cmp G8 B8)) fun B _ => k B
end

theorem all_mk {l : PySem.W.OpenLaw} {w : World} {K : PySem.W.Frag} {h : Heap} {mg : Str → Option Value} {fa : Addr} (X : K.In h) (G : h.Ns mainGlobals mg) (hfa : mg "law" = some (.ref fa))
    {f0 : Addr} {od0 an0 : Option Addr} {sl0 : Array (Option Value)} {oc0 kV0 dc0 pm0 cd0 ct0 : Value}
    {f1 : Addr} {od1 an1 : Option Addr} {sl1 : Array (Option Value)} {oc1 kV1 dc1 pm1 cd1 ct1 : Value}
    {f2 : Addr} {od2 an2 : Option Addr} {sl2 : Array (Option Value)} {oc2 kV2 dc2 pm2 cd2 ct2 : Value}
    {f3 : Addr} {od3 an3 : Option Addr} {sl3 : Array (Option Value)} {oc3 kV3 dc3 pm3 cd3 ct3 : Value}
    {f4 : Addr} {od4 an4 : Option Addr} {sl4 : Array (Option Value)} {oc4 kV4 dc4 pm4 cd4 ct4 : Value}
    {f5 : Addr} {od5 an5 : Option Addr} {sl5 : Array (Option Value)} {oc5 kV5 dc5 pm5 cd5 ct5 : Value}
    {f6 : Addr} {od6 an6 : Option Addr} {sl6 : Array (Option Value)} {oc6 kV6 dc6 pm6 cd6 ct6 : Value}
    {f7 : Addr} {od7 an7 : Option Addr} {sl7 : Array (Option Value)} {oc7 kV7 dc7 pm7 cd7 ct7 : Value}
    (a0 : PySem.W.nsIn K mainGlobals "parted_at" = some (some (.ref f0)))
    (l0 : K.lookup f0 = some ⟨oc0, od0, .func (PySem.W.fnOf "parted_at" "parted_at" (defArgs s_parted_at) (defBody s_parted_at) (defScope s_parted_at) .none kV0 dc0 pm0 an0 cd0 ct0), sl0⟩)
    (c0 : PySem.W.codeIn K cd0 "parted_at" = true) (k0 : PySem.W.keepIn K (.ref f0) = true)
    (a1 : PySem.W.nsIn K mainGlobals "joined_at" = some (some (.ref f1)))
    (l1 : K.lookup f1 = some ⟨oc1, od1, .func (PySem.W.fnOf "joined_at" "joined_at" (defArgs s_joined_at) (defBody s_joined_at) (defScope s_joined_at) .none kV1 dc1 pm1 an1 cd1 ct1), sl1⟩)
    (c1 : PySem.W.codeIn K cd1 "joined_at" = true) (k1 : PySem.W.keepIn K (.ref f1) = true)
    (a2 : PySem.W.nsIn K mainGlobals "_law_cell_at" = some (some (.ref f2)))
    (l2 : K.lookup f2 = some ⟨oc2, od2, .func (PySem.W.fnOf "_law_cell_at" "_law_cell_at" (defArgs s_l_cell_at) (defBody s_l_cell_at) (defScope s_l_cell_at) .none kV2 dc2 pm2 an2 cd2 ct2), sl2⟩)
    (c2 : PySem.W.codeIn K cd2 "_law_cell_at" = true) (k2 : PySem.W.keepIn K (.ref f2) = true)
    (a3 : PySem.W.nsIn K mainGlobals "_law_rooms" = some (some (.ref f3)))
    (l3 : K.lookup f3 = some ⟨oc3, od3, .func (PySem.W.fnOf "_law_rooms" "_law_rooms" (defArgs s_l_rooms) (defBody s_l_rooms) (defScope s_l_rooms) .none kV3 dc3 pm3 an3 cd3 ct3), sl3⟩)
    (c3 : PySem.W.codeIn K cd3 "_law_rooms" = true) (k3 : PySem.W.keepIn K (.ref f3) = true)
    (a4 : PySem.W.nsIn K mainGlobals "_law_place" = some (some (.ref f4)))
    (l4 : K.lookup f4 = some ⟨oc4, od4, .func (PySem.W.fnOf "_law_place" "_law_place" (defArgs s_l_place) (defBody s_l_place) (defScope s_l_place) .none kV4 dc4 pm4 an4 cd4 ct4), sl4⟩)
    (c4 : PySem.W.codeIn K cd4 "_law_place" = true) (k4 : PySem.W.keepIn K (.ref f4) = true)
    (a5 : PySem.W.nsIn K mainGlobals "_law_board" = some (some (.ref f5)))
    (l5 : K.lookup f5 = some ⟨oc5, od5, .func (PySem.W.fnOf "_law_board" "_law_board" (defArgs s_l_board) (defBody s_l_board) (defScope s_l_board) .none kV5 dc5 pm5 an5 cd5 ct5), sl5⟩)
    (c5 : PySem.W.codeIn K cd5 "_law_board" = true) (k5 : PySem.W.keepIn K (.ref f5) = true)
    (a6 : PySem.W.nsIn K mainGlobals "_law_alike" = some (some (.ref f6)))
    (l6 : K.lookup f6 = some ⟨oc6, od6, .func (PySem.W.fnOf "_law_alike" "_law_alike" (defArgs s_l_alike) (defBody s_l_alike) (defScope s_l_alike) .none kV6 dc6 pm6 an6 cd6 ct6), sl6⟩)
    (c6 : PySem.W.codeIn K cd6 "_law_alike" = true) (k6 : PySem.W.keepIn K (.ref f6) = true)
    (a7 : PySem.W.nsIn K mainGlobals "law" = some (some (.ref f7)))
    (l7 : K.lookup f7 = some ⟨oc7, od7, .func (PySem.W.fnOf "law" "law" (defArgs s_law) (defBody s_law) (defScope s_law) .none kV7 dc7 pm7 an7 cd7 ct7), sl7⟩)
    (c7 : PySem.W.codeIn K cd7 "law" = true) (k7 : PySem.W.keepIn K (.ref f7) = true)
    (z0 : PySem.W.nsIn K mainGlobals "isinstance" = some none)
    (z1 : PySem.W.nsIn K mainGlobals "len" = some none)
    (z2 : PySem.W.nsIn K mainGlobals "list" = some none)
    (z3 : PySem.W.nsIn K mainGlobals "max" = some none)
    (z4 : PySem.W.nsIn K mainGlobals "range" = some none)
    (z5 : PySem.W.nsIn K mainGlobals "str" = some none) :
    ∃ fd : FuncData, (∀ (s : Shared) (v : Value), BindsTo s fd ⟨[v], []⟩ [("_law_script", v)]) ∧ ∀ base : Heap, K.In base → base.Ns mainGlobals mg → FnOk l.prog w K mg base CX0 4 fa fd ["_law_script"] (spLaw K) := by
  have e := hfa.symm.trans (PySem.W.mg_of X G a7)
  cases e
  let T : Top K mg := { a_parted_at := f0, fd_parted_at := _, F_parted_at := fun_mk (st := s_parted_at) l0 c0 k0, g_parted_at := PySem.W.mg_of X G a0, b_parted_at := (fun_mk (st := s_parted_at) l0 c0 k0).binds (ps := ["board", "bits"]) fun _ _ _ _ _ _ us hl => (match us, hl with | [_, _], _ => rfl), a_joined_at := f1, fd_joined_at := _, F_joined_at := fun_mk (st := s_joined_at) l1 c1 k1, g_joined_at := PySem.W.mg_of X G a1, b_joined_at := (fun_mk (st := s_joined_at) l1 c1 k1).binds (ps := ["board", "bits"]) fun _ _ _ _ _ _ us hl => (match us, hl with | [_, _], _ => rfl), a_l_cell_at := f2, fd_l_cell_at := _, F_l_cell_at := fun_mk (st := s_l_cell_at) l2 c2 k2, g_l_cell_at := PySem.W.mg_of X G a2, b_l_cell_at := (fun_mk (st := s_l_cell_at) l2 c2 k2).binds (ps := ["_law_script", "_law_k"]) fun _ _ _ _ _ _ us hl => (match us, hl with | [_, _], _ => rfl), a_l_rooms := f3, fd_l_rooms := _, F_l_rooms := fun_mk (st := s_l_rooms) l3 c3 k3, g_l_rooms := PySem.W.mg_of X G a3, b_l_rooms := (fun_mk (st := s_l_rooms) l3 c3 k3).binds (ps := ["_law_script"]) fun _ _ _ _ _ _ us hl => (match us, hl with | [_], _ => rfl), a_l_place := f4, fd_l_place := _, F_l_place := fun_mk (st := s_l_place) l4 c4 k4, g_l_place := PySem.W.mg_of X G a4, b_l_place := (fun_mk (st := s_l_place) l4 c4 k4).binds (ps := ["_law_at", "_law_depth"]) fun _ _ _ _ _ _ us hl => (match us, hl with | [_, _], _ => rfl), a_l_board := f5, fd_l_board := _, F_l_board := fun_mk (st := s_l_board) l5 c5 k5, g_l_board := PySem.W.mg_of X G a5, b_l_board := (fun_mk (st := s_l_board) l5 c5 k5).binds (ps := ["_law_rooms_here", "_law_depth"]) fun _ _ _ _ _ _ us hl => (match us, hl with | [_, _], _ => rfl), a_l_alike := f6, fd_l_alike := _, F_l_alike := fun_mk (st := s_l_alike) l6 c6 k6, g_l_alike := PySem.W.mg_of X G a6, b_l_alike := (fun_mk (st := s_l_alike) l6 c6 k6).binds (ps := ["_law_found", "_law_due"]) fun _ _ _ _ _ _ us hl => (match us, hl with | [_, _], _ => rfl), a_law := fa, fd_law := _, F_law := fun_mk (st := s_law) l7 c7 k7, g_law := PySem.W.mg_of X G a7, b_law := (fun_mk (st := s_law) l7 c7 k7).binds (ps := ["_law_script"]) fun _ _ _ _ _ _ us hl => (match us, hl with | [_], _ => rfl), z_isinstance := PySem.W.mg_none_of X G z0, z_len := PySem.W.mg_none_of X G z1, z_list := PySem.W.mg_none_of X G z2, z_max := PySem.W.mg_none_of X G z3, z_range := PySem.W.mg_none_of X G z4, z_str := PySem.W.mg_none_of X G z5 }
  exact ⟨_, fun s v => .of_eq rfl, fun base _ _ => ok_law (P := l.prog) (w := w) (base := base) T⟩
theorem walk {l : PySem.W.OpenLaw} {q : Program} {loose : List Str} {XP : (Str → Option Value) → Heap → Prop} {YP : World → Heap → Prop} {d : DefRec} {K : Params → PySem.W.Frag} (hn : l.most = some 63) (hdf : d.params.defaults = [])
    (hY : ∀ (w : World) (h : Heap), YP w h → (K w.params).In h)
    (F : ∀ (w : World) (mg : Str → Option Value) (fa : Addr) (h : Heap), (K w.params).In h → h.Ns mainGlobals mg → mg d.name = some (.ref fa) →
      ∃ fd : FuncData, (∀ (s : Shared) (u : Value), BindsTo s fd ⟨[u], []⟩ [("_law_script", u)]) ∧ ∀ base : Heap, (K w.params).In base → base.Ns mainGlobals mg → FnOk l.prog w (K w.params) mg base CX0 4 fa fd ["_law_script"] (spLaw (K w.params))) :
    PySem.W.WalkO q loose XP YP l.row.toRowW d [] (fun f vs => PySem.call f vs) :=
  L2.walk_of (n := 63) (k := 4) (x := "_law_script") (CX := fun _ => CX0) (sp := fun w => spLaw (K w.params)) hn (by decide) hdf ⟨rfl, by decide, by decide⟩ hY F (fun _ _ a ns hl _ hS => ⟨a, ns, rfl, hS, hl, fun _ => rfl⟩) fun _ _ _ _ _ z => z
end Vf
open PySem PySem.W PyProof.Rows
set_option maxRecDepth 100000 in
set_option maxHeartbeats 0 in
theorem PySem.Challenge.cw_splitrooms_k07_rooms_on_a_board_holds : PySem.Challenge.rw_splitrooms_k07_rooms_on_a_board.Holds := by
  w_on; o_law; k_head; (case hw => w_witness2)
  k_fill
  refine Vf.walk (l := PySem.Challenge.rw_splitrooms_k07_rooms_on_a_board) rfl rfl (fun w h Y => PySem.W.kIn_of Y) ?F
  case F =>
    intro w mg fa h KX G hmg
    refine' Vf.all_mk KX G hmg ?a0 ?l0 ?c0 ?k0 ?a1 ?l1 ?c1 ?k1 ?a2 ?l2 ?c2 ?k2 ?a3 ?l3 ?c3 ?k3 ?a4 ?l4 ?c4 ?k4 ?a5 ?l5 ?c5 ?k5 ?a6 ?l6 ?c6 ?k6 ?a7 ?l7 ?c7 ?k7 ?z0 ?z1 ?z2 ?z3 ?z4 ?z5
    (case a0 => k_is)
    (case l0 => k_is)
    (case c0 => k_is)
    (case k0 => k_is)
    (case a1 => k_is)
    (case l1 => k_is)
    (case c1 => k_is)
    (case k1 => k_is)
    (case a2 => k_is)
    (case l2 => k_is)
    (case c2 => k_is)
    (case k2 => k_is)
    (case a3 => k_is)
    (case l3 => k_is)
    (case c3 => k_is)
    (case k3 => k_is)
    (case a4 => k_is)
    (case l4 => k_is)
    (case c4 => k_is)
    (case k4 => k_is)
    (case a5 => k_is)
    (case l5 => k_is)
    (case c5 => k_is)
    (case k5 => k_is)
    (case a6 => k_is)
    (case l6 => k_is)
    (case c6 => k_is)
    (case k6 => k_is)
    (case a7 => k_is)
    (case l7 => k_is)
    (case c7 => k_is)
    (case k7 => k_is)
    (case z0 => k_is)
    (case z1 => k_is)
    (case z2 => k_is)
    (case z3 => k_is)
    (case z4 => k_is)
    (case z5 => k_is)
