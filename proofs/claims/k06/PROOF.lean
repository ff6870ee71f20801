import PyProof.Rows.All
import Wide.All
import OpenK.AllK
import Wide.FinOn
import HandS.ForMost
import HandS.Lambda
import HandS.More
import HandS.IsInst
import HandS.FStr
import HandS.StrMore
import HandS.Walk
import HandS.Star
import HandS.SortInts
import HandS.SortRule
import HandS.EndTab
import HandS.Style
import KE.KRevSl
import PySem.Challenge.RW_splitrooms_k06_boards_doubled
set_option Elab.async false
set_option linter.all false
set_option maxRecDepth 100000
namespace Vf
open PySem L2
/-! ### heaps that grow: what stood stands; a table of code objects that was known is known -/
def lamQ : Str := Str.ofString "joined" ++ Str.ofString ".<locals>." ++ Str.ofString "<lambda>"
structure Ex (H H' : Hp) : Prop where
  keep : ∀ (a : Addr) (o : HO), H a = some o → (∀ ps, o ≠ .tbl ps) → H' a = some o
  dom : ∀ a : Addr, H' a = none → H a = none
  tabs : ∀ P : Addr, LamX.TabS H P lamQ → LamX.TabS H' P lamQ
theorem Ex.k {H H' : Hp} {a : Addr} {o : HO} (e : Ex H H') (h : H a = some o) (n : ∀ ps, o ≠ .tbl ps := by intro _ z; cases z) : H' a = some o := e.keep a o h n
theorem Ex.refl (H : Hp) : Ex H H := ⟨fun _ _ h _ => h, fun _ h => h, fun _ h => h⟩
theorem Ex.trans {H H1 H2 : Hp} (a : Ex H H1) (b : Ex H1 H2) : Ex H H2 :=
  ⟨fun x o h n => b.keep x o (a.keep x o h n) n, fun x h => a.dom x (b.dom x h), fun P h => b.tabs P (a.tabs P h)⟩
theorem Ex.of {H H' : Hp} (e : ∀ a o, H a = some o → H' a = some o) : Ex H H' := by
  refine ⟨fun a o h _ => e a o h, fun a h => ?_, fun P t => LamX.TabS.ext t e⟩
  cases q : H a with
  | none => rfl
  | some o =>
    rw [e a o q] at h
    cases h
theorem Ex.new {H : Hp} {p : Addr} {o : HO} (h : H p = none) : Ex H (upd H p o) := .of fun a u q => by
  rw [upd_ne (ne_of_none q h)]
  exact q
/-- a list that was not there ahead may change -/
theorem Ex.mut {H H' : Hp} {p : Addr} {o : HO} {xs : List V} (e : Ex H H') (h : H p = none) (hp : H' p = some (.lst xs)) : Ex H (upd H' p o) := by
  refine ⟨fun a u q n => ?_, fun a q => ?_, fun P t => ?_⟩
  · rw [upd_ne (ne_of_none q h)]
    exact e.keep a u q n
  · by_cases ha : a = p
    · rw [ha]
      exact h
    · rw [upd_ne ha] at q
      exact e.dom a q
  · obtain ⟨ps, h1, h2, h3⟩ := e.tabs P t
    refine ⟨ps, by rw [upd_ne (ne_of h1 hp (by intro z; cases z))]; exact h1, h2, fun pos cv hc => ?_⟩
    obtain ⟨c, e1, e2⟩ := h3 pos cv hc
    exact ⟨c, e1, by rw [upd_ne (ne_of e2 hp (by intro z; unfold LamX.CodeO at z; cases z))]; exact e2⟩
theorem fresh_back {H H' : Hp} {p : Addr} (e : Ex H H') (h : H' p = none) : H p = none := e.dom p h
theorem ex_l {K : PySem.W.Frag} {H H' : Hp} {a : Addr} {xs : List V} (e : Ex H H') (h : SqL K H a xs) : SqL K H' a xs :=
  h.elim (fun r => .inl (r.elim (fun r => .inl (e.k r)) fun ⟨o, r⟩ => .inr ⟨o, e.k r⟩)) .inr
theorem ex_t {K : PySem.W.Frag} {H H' : Hp} {a : Addr} {xs : List V} (e : Ex H H') (h : SqT K H a xs) : SqT K H' a xs :=
  h.elim (fun r => .inl (r.elim (fun r => .inl (e.k r)) fun ⟨o, r⟩ => .inr ⟨o, e.k r⟩)) .inr
theorem sq_of {K : PySem.W.Frag} {H : Hp} {a : Addr} {xs : List V} (h : H a = some (.lst xs)) : SqL K H a xs := SqL.of h
theorem st_of {K : PySem.W.Frag} {H : Hp} {a : Addr} {xs : List V} (h : H a = some (.tup xs)) : SqT K H a xs := SqT.of h
theorem sz_of {n : Nat} (h : n ≤ 100000) : n ≤ sizeLine := Nat.le_trans h (by decide)
theorem sz_lt {n : Nat} (h : n < 100000) : n < sizeLine := Nat.lt_of_lt_of_le h (by decide)

/-! ### what a reading comes to, in every heap that has grown out of this one -/
/-- P: the heap ahead, the value, the heap behind -/
def EvG (te : TE) (σ : L2.St) (H : Hp) (P : Hp → V → Hp → Prop) : Prop := ∀ A, Ex H A → ∀ Q : VK, (∀ v B, Ex A B → P A v B → Q v B) → te σ A Q
def Ev (te : TE) (σ : L2.St) (H : Hp) (v : V) : Prop := ∀ A, Ex H A → ∀ Q : VK, (∀ B, Ex A B → Q v B) → te σ A Q
def EvT (t : TT) (σ : L2.St) (H : Hp) (b : Bool) : Prop := ∀ A, Ex H A → ∀ Q : Bool → Hp → Prop, (∀ B, Ex A B → Q b B) → t σ A Q
def EvA (t : TA) (σ : L2.St) (H : Hp) (vs : List V) : Prop := ∀ A, Ex H A → ∀ Q : List V → Hp → Prop, (∀ B, Ex A B → Q vs B) → t σ A Q
def EvO (t : TO) (σ : L2.St) (H : Hp) (o : Option Int) : Prop := ∀ A, Ex H A → ∀ Q : Option Int → Hp → Prop, (∀ B, Ex A B → Q o B) → t σ A Q
def RV (r : R2) (x y : V) (H : Hp) (z : V) : Prop := ∀ A, Ex H A → ∀ Q : VK, (∀ B, Ex A B → Q z B) → r x y A Q
def RC (r : List V → Hp → VK → Prop) (vs : List V) (H : Hp) (z : V) : Prop := ∀ A, Ex H A → ∀ Q : VK, (∀ B, Ex A B → Q z B) → r vs A Q
def RetV (v : V) (H : Hp) (Q : VK) : Prop := ∀ B, Ex H B → Q v B
def SpV (sp : Sp) (vs : List V) (H : Hp) (z : V) : Prop := ∀ A, Ex H A → ∀ Q : VK, RetV z A Q → ∀ E : XK, sp vs A Q E
/-- a new tuple, a new list, of just these -/
abbrev NewT (xs : List V) : Hp → V → Hp → Prop := fun A v B => ∃ p, v = .ref p ∧ A p = none ∧ B p = some (.tup xs)
abbrev NewL (xs : List V) : Hp → V → Hp → Prop := fun A v B => ∃ p, v = .ref p ∧ A p = none ∧ B p = some (.lst xs)
section
variable {K : PySem.W.Frag} {σ : L2.St} {H H' : Hp} {ta tb tc te tx : TE} {t u : TT} {x y z v : V} {r r' : R2} {P P' : Hp → V → Hp → Prop}
theorem Ev.mono (e : Ex H H') (h : Ev te σ H v) : Ev te σ H' v := fun A a => h A (e.trans a)
theorem EvT.mono {b : Bool} (e : Ex H H') (h : EvT t σ H b) : EvT t σ H' b := fun A a => h A (e.trans a)
theorem EvA.mono {ta : TA} {vs : List V} (e : Ex H H') (h : EvA ta σ H vs) : EvA ta σ H' vs := fun A a => h A (e.trans a)
theorem EvG.mono (e : Ex H H') (h : EvG te σ H P) : EvG te σ H' P := fun A a => h A (e.trans a)
theorem RetV.mono {Q : VK} (e : Ex H H') (k : RetV v H Q) : RetV v H' Q := fun B b => k B (e.trans b)
theorem EvG.imp (h : EvG te σ H P) (i : ∀ A v B, Ex H A → Ex A B → P A v B → P' A v B) : EvG te σ H P' := fun A a Q q => h A a Q fun v B b p => q v B b (i A v B a b p)
theorem Ev.g (h : Ev te σ H v) (i : ∀ A B, Ex H A → Ex A B → P A v B) : EvG te σ H P := fun A a Q q => h A a _ fun B b => q v B b (i A B a b)
theorem ev_var {i : Nat} (h : σ[i]? = some (some v)) : Ev (tVar i) σ H v := fun A _ _ q => ⟨v, h, q A (.refl A)⟩
theorem ev_c : Ev (tC v) σ H v := fun A _ _ q => q A (.refl A)
theorem ev_op (ha : Ev ta σ H x) (hb : Ev tb σ H y) (hr : RV r x y H z) : Ev (tOp r ta tb) σ H z := fun A a Q q =>
  ha A a _ fun B b => hb B (a.trans b) _ fun C c => hr C ((a.trans b).trans c) Q fun D d => q D ((b.trans c).trans d)
theorem ev_un {r : V → Hp → VK → Prop} (ha : Ev ta σ H x) (hr : ∀ A, Ex H A → ∀ Q : VK, (∀ B, Ex A B → Q z B) → r x A Q) : Ev (tUn r ta) σ H z := fun A a Q q =>
  ha A a _ fun B b => hr B (a.trans b) Q fun C c => q C (b.trans c)
/-- the right operand is told by P -/
theorem ev_opR (ha : Ev ta σ H x) (hb : EvG tb σ H P) (hr : ∀ A w B, Ex H A → Ex A B → P A w B → RV r x w B z) : Ev (tOp r ta tb) σ H z := fun A a Q q =>
  ha A a _ fun B b => hb B (a.trans b) _ fun w C c p => hr B w C (a.trans b) c p C (.refl C) Q fun D d => q D ((b.trans c).trans d)
theorem ev_cb {r : List V → Hp → VK → Prop} {ta : TA} {vs : List V} (ha : EvA ta σ H vs) (hr : RC r vs H z) : Ev (tCB r ta) σ H z := fun A a Q q =>
  ha A a _ fun B b => hr B (a.trans b) Q fun C c => q C (b.trans c)
theorem ev_call {sp : Sp} {dvs vs : List V} {E : XK} {ta : TA} (ha : EvA ta σ H vs) (hs : SpV sp (vs ++ dvs) H z) : Ev (tCall sp dvs E ta) σ H z := fun A a Q q =>
  ha A a _ fun B b => hs B (a.trans b) Q (fun C c => q C (b.trans c)) E
theorem ev_is {w : V} (h : Ev te σ H v) (e : v = w) : Ev te σ H w := e ▸ h
theorem ev_notV {a : Bool} (h : Ev ta σ H (.bl a)) : Ev (tNotV ta) σ H (.bl (!a)) := fun A e _ q => h A e _ fun B b => ⟨a, rfl, q B b⟩
theorem ev_andV {a b : Bool} (h : Ev ta σ H (.bl a)) (i : a = true → Ev tb σ H (.bl b)) : Ev (tAndV ta tb) σ H (.bl (a && b)) := fun A e Q q => h A e _ fun B f => ⟨a, rfl, by
  cases a with
  | false => exact q B f
  | true => exact i rfl B (e.trans f) Q fun C g => q C (f.trans g)⟩
theorem ev_orV {a b : Bool} (h : Ev ta σ H (.bl a)) (i : a = false → Ev tb σ H (.bl b)) : Ev (tOrV ta tb) σ H (.bl (a || b)) := fun A e Q q => h A e _ fun B f => ⟨a, rfl, by
  cases a with
  | true => exact q B f
  | false => exact i rfl B (e.trans f) Q fun C g => q C (f.trans g)⟩
theorem ev_if {b : Bool} (h : EvT t σ H b) (h1 : b = true → Ev ta σ H v) (h2 : b = false → Ev tb σ H v) : Ev (tIf t ta tb) σ H v := fun A e Q q => h A e _ fun B f => by
  cases b with
  | true => exact h1 rfl B (e.trans f) Q fun C g => q C (f.trans g)
  | false => exact h2 rfl B (e.trans f) Q fun C g => q C (f.trans g)
theorem rv_I0 {g : Int → Int → V} {i j : Int} : RV (rI0 g) (.int i) (.int j) H (g i j) := fun A _ _ q => ⟨i, j, rfl, rfl, q A (.refl A)⟩
theorem rv_I {C : Int → Int → Prop} {g : Int → Int → V} {i j : Int} (h : C i j) : RV (rI C g) (.int i) (.int j) H (g i j) := fun A _ _ q => ⟨i, j, rfl, rfl, h, q A (.refl A)⟩
theorem rv_eq (h : scal x y = true) : RV rEq x y H (.bl (decide (x = y))) := fun A _ _ q => ⟨h, q A (.refl A)⟩
theorem rv_ne (h : scal x y = true) : RV rNe x y H (.bl (!decide (x = y))) := fun A _ _ q => ⟨h, q A (.refl A)⟩
theorem rv_ixL {p : Addr} {xs : List V} {i : Int} (h : SqL K H p xs) (ha : atI xs i = some v) : RV (rIxL K) (.ref p) (.int i) H v := fun A a _ q => ⟨p, xs, i, v, rfl, rfl, ex_l a h, ha, q A (.refl A)⟩
theorem rv_ixT {p : Addr} {xs : List V} {i : Int} (h : SqT K H p xs) (ha : atI xs i = some v) : RV (rIxT K) (.ref p) (.int i) H v := fun A a _ q => ⟨p, xs, i, v, rfl, rfl, ex_t a h, ha, q A (.refl A)⟩
theorem rv_ixS {s : Str} {i : Int} {c : Nat} (h : s.length ≤ 100000) (ha : atI s.cps.toList i = some c) : RV rIxS (.str s) (.int i) H (.str ⟨#[c]⟩) := fun A _ _ q => ⟨s, i, c, rfl, rfl, sz_of h, ha, q A (.refl A)⟩
theorem rv_in {neg : Bool} {p : Addr} {xs : List V} (h : SqL K H p xs ∨ SqT K H p xs) (hx : flatV x = true) (hf : xs.all flatV = true) : RV (rIn K neg) x (.ref p) H (.bl (if neg then !inV x xs else inV x xs)) :=
  fun A a _ q => ⟨p, xs, rfl, h.elim (fun h => .inl (ex_l a h)) (fun h => .inr (ex_t a h)), hx, hf, q A (.refl A)⟩
theorem et_is {a b : Bool} (h : EvT t σ H a) (e : a = b) : EvT t σ H b := e ▸ h
theorem et_test {b : Bool} (h : Ev te σ H (.bl b)) : EvT (tTest te) σ H b := fun A a _ q => h A a _ fun B f => ⟨b, rfl, q B f⟩
theorem et_B {b : Bool} (h : Ev te σ H (.bl b)) : EvT (tB te) σ H b := fun A a _ q => h A a _ fun B f => ⟨b, rfl, q B f⟩
theorem et_not {a : Bool} (h : EvT t σ H a) : EvT (tNot t) σ H (!a) := fun A e _ q => h A e _ fun B f => q B f
theorem et_and {a b : Bool} (h : EvT t σ H a) (i : a = true → EvT u σ H b) : EvT (tAnd t u) σ H (a && b) := fun A e Q q => h A e _ fun B f => by
  cases a with
  | false => exact q B f
  | true => exact i rfl B (e.trans f) Q fun C g => q C (f.trans g)
theorem et_or {a b : Bool} (h : EvT t σ H a) (i : a = false → EvT u σ H b) : EvT (tOr t u) σ H (a || b) := fun A e Q q => h A e _ fun B f => by
  cases a with
  | true => exact q B f
  | false => exact i rfl B (e.trans f) Q fun C g => q C (f.trans g)
theorem et_chain {a b : Bool} (ha : Ev ta σ H x) (hb : Ev tb σ H y) (hr : RV r x y H (.bl a)) (hc : a = true → Ev tc σ H z) (hr2 : a = true → RV r' y z H (.bl b)) : EvT (tTest (tChain r r' ta tb tc)) σ H (a && b) := fun A e Q q =>
  ha A e _ fun B f => hb B (e.trans f) _ fun C g => hr C ((e.trans f).trans g) _ fun D d => ⟨a, rfl, by
    cases a with
    | false => exact ⟨false, rfl, q D ((f.trans g).trans d)⟩
    | true => exact hc rfl D (((e.trans f).trans g).trans d) _ fun G i => hr2 rfl G ((((e.trans f).trans g).trans d).trans i) _ fun J j => ⟨b, rfl, q J ((((f.trans g).trans d).trans i).trans j)⟩⟩
theorem ea_nil : EvA tNil σ H [] := fun A _ _ q => q A (.refl A)
theorem ea_cons {tr : TA} {vs : List V} (h : Ev ta σ H x) (i : EvA tr σ H vs) : EvA (tCons ta tr) σ H (x :: vs) := fun A e _ q => h A e _ fun B f => i B (e.trans f) _ fun C g => q C (f.trans g)
theorem eo_none : EvO tNoPart σ H none := fun A _ _ q => q A (.refl A)
theorem eo_some {i : Int} (h : Ev te σ H (.int i)) : EvO (tPart te) σ H (some i) := fun A e _ q => h A e _ fun B f => ⟨i, rfl, q B f⟩
theorem eg_tup {ta : TA} {vs : List V} (h : EvA ta σ H vs) (l : vs.length ≤ 100000) : EvG (tTup ta) σ H (NewT vs) := fun A e _ q =>
  h A e _ fun B f => ⟨sz_of l, fun p hp => q _ _ (f.trans (.new hp)) ⟨p, rfl, fresh_back f hp, upd_same⟩⟩
theorem eg_lst {ta : TA} {vs : List V} (h : EvA ta σ H vs) (l : vs.length ≤ 100000) : EvG (tLst ta) σ H (NewL vs) := fun A e _ q =>
  h A e _ fun B f => ⟨sz_of l, fun p hp => q _ _ (f.trans (.new hp)) ⟨p, rfl, fresh_back f hp, upd_same⟩⟩

/-! ### statements -/
variable {D : Ends} {tu tw : TS} {tz : TS}
theorem s_asgG {i : Nat} (h : EvG te σ H P) (k : ∀ v B, Ex H B → P H v B → D.nx (σ.set i (some v)) B) : tAsg te (gName i) D σ H := h H (.refl H) _ fun v B b p => k v B b p
theorem q_asgG {i : Nat} (h : EvG te σ H P) (k : ∀ v B, Ex H B → P H v B → tz D (σ.set i (some v)) B) : tSeq (tAsg te (gName i)) tz D σ H := s_asgG (D := { D with nx := tz D }) h k
theorem s_asg {i : Nat} (h : Ev te σ H v) (k : ∀ B, Ex H B → D.nx (σ.set i (some v)) B) : tAsg te (gName i) D σ H := h H (.refl H) _ k
theorem q_asg {i : Nat} (h : Ev te σ H v) (k : ∀ B, Ex H B → tz D (σ.set i (some v)) B) : tSeq (tAsg te (gName i)) tz D σ H := s_asg (D := { D with nx := tz D }) h k
theorem s_retk (h : Ev te σ H v) (k : RetV v H D.rt) : tRet te D σ H := h H (.refl H) _ k
theorem s_retG (h : EvG te σ H P) (k : ∀ v B, Ex H B → P H v B → D.rt v B) : tRet te D σ H := h H (.refl H) _ k
theorem s_if {b : Bool} (h : EvT t σ H b) (h1 : b = true → ∀ B, Ex H B → tu D σ B) (h2 : b = false → ∀ B, Ex H B → tw D σ B) : tIfS t tu tw D σ H := h H (.refl H) _ fun B e => by
  cases b with
  | true => exact h1 rfl B e
  | false => exact h2 rfl B e
theorem q_if {b : Bool} (h : EvT t σ H b) (h1 : b = true → ∀ B, Ex H B → tu { D with nx := tz D } σ B) (h2 : b = false → ∀ B, Ex H B → tw { D with nx := tz D } σ B) : tSeq (tIfS t tu tw) tz D σ H := s_if (D := { D with nx := tz D }) h h1 h2
theorem s_when {b : Bool} (h : EvT t σ H b) (h1 : b = true → ∀ B, Ex H B → tu D σ B) (h2 : b = false → ∀ B, Ex H B → D.nx σ B) : tIfS t tu tNext D σ H := s_if h h1 h2
theorem q_when {b : Bool} (h : EvT t σ H b) (h1 : b = true → ∀ B, Ex H B → tu { D with nx := tz D } σ B) (h2 : b = false → ∀ B, Ex H B → tz D σ B) : tSeq (tIfS t tu tNext) tz D σ H := s_if (D := { D with nx := tz D }) h h1 h2
theorem s_drop (h : Ev te σ H v) (k : ∀ B, Ex H B → D.nx σ B) : tDrop te D σ H := h H (.refl H) _ k
theorem q_drop (h : Ev te σ H v) (k : ∀ B, Ex H B → tz D σ B) : tSeq (tDrop te) tz D σ H := s_drop (D := { D with nx := tz D }) h k
/-- if c: x = e, by the value that x has behind it -/
theorem q_ifAsg {b : Bool} {i : Nat} (h : EvT t σ H b) (h1 : b = true → Ev te σ H v) (h2 : b = false → σ.set i (some v) = σ) (k : ∀ B, Ex H B → tz D (σ.set i (some v)) B) : tSeq (tIfS t (tAsg te (gName i)) tNext) tz D σ H :=
  q_when h (fun hb B e => s_asg (D := { D with nx := tz D }) ((h1 hb).mono e) fun C f => k C (e.trans f)) (fun hb B e => (h2 hb) ▸ k B e)
theorem s_app {l : Addr} {xs : List V} (hl : H l = some (.lst xs)) (ha : Ev ta σ H (.ref l)) (h : EvG te σ H P) (hz : xs.length < 100000) (k : ∀ A v B, Ex H A → Ex A B → P A v B → D.nx σ (upd B l (.lst (xs ++ [v])))) :
    tDrop (tBM K "list" rAppend ta (tCons te tNil)) D σ H := ha H (.refl H) _ fun A a =>
  ⟨.inl ⟨rfl, xs, sq_of (a.k hl)⟩, h A a _ fun v B b p => ⟨l, xs, v, rfl, rfl, b.k (a.k hl), sz_lt hz, k A v B a b p⟩⟩
theorem q_app {l : Addr} {xs : List V} (hl : H l = some (.lst xs)) (ha : Ev ta σ H (.ref l)) (h : EvG te σ H P) (hz : xs.length < 100000) (k : ∀ A v B, Ex H A → Ex A B → P A v B → tz D σ (upd B l (.lst (xs ++ [v])))) :
    tSeq (tDrop (tBM K "list" rAppend ta (tCons te tNil))) tz D σ H := s_app (D := { D with nx := tz D }) hl ha h hz k

/-! ### loops -/
theorem q_forR1 {ta : TA} {j : Nat} {n : Nat} (h : EvA ta σ H [.int (n : Int)]) (hn : n ≤ 100000) (W : Nat → L2.St → Hp → Prop) (h0 : ∀ B, Ex H B → W 0 σ B)
    (hs : ∀ (i : Nat) σ' B, i < n → W i σ' B → tu { D with nx := W (i + 1), ct := W (i + 1), bk := tz D } (σ'.set j (some (.int (i : Int)))) B) (hd : ∀ σ' B, W n σ' B → tz D σ' B) : tSeq (tFor (iRng1 ta) (gName j) tu) tz D σ H :=
  h H (.refl H) _ fun B e => ⟨(n : Int), rfl, by omega, by omega, for_range (lo := 0) (n := n) W (h0 B e) (fun i σ' C hi w => by
    have z := hs i σ' C hi w
    rw [← Int.zero_add (i : Int)] at z
    exact z) hd⟩
theorem q_forL {a : Addr} {xs : List V} {tl : TE} {g : TG} (h : Ev tl σ H (.ref a)) (hx : SqL K H a xs) (W : Nat → L2.St → Hp → Prop) (h0 : ∀ B, Ex H B → W 0 σ B) (hl : ∀ i σ' B, i ≤ xs.length → W i σ' B → SqL K B a xs)
    (hs : ∀ i x σ' B, xs[i]? = some x → W i σ' B → g x σ' B fun σ2 C => tu { D with nx := W (i + 1), ct := W (i + 1), bk := tz D } σ2 C) (hd : ∀ σ' B, W xs.length σ' B → tz D σ' B) : tSeq (tFor (iList K tl) g tu) tz D σ H :=
  h H (.refl H) _ fun B e => ⟨a, rfl, ⟨xs, ex_l e hx⟩, for_list (D := { D with nx := tz D }) W (h0 B e) hl hs hd⟩
/-- over a list that is made for it -/
theorem q_forNL {xs : List V} {tl : TE} {g : TG} (h : EvG tl σ H (NewL xs)) (W : Addr → Nat → L2.St → Hp → Prop) (h0 : ∀ p B, Ex H B → B p = some (.lst xs) → W p 0 σ B) (hl : ∀ p i σ' B, i ≤ xs.length → W p i σ' B → SqL K B p xs)
    (hs : ∀ p i x σ' B, xs[i]? = some x → W p i σ' B → g x σ' B fun σ2 C => tu { D with nx := W p (i + 1), ct := W p (i + 1), bk := tz D } σ2 C) (hd : ∀ p σ' B, W p xs.length σ' B → tz D σ' B) : tSeq (tFor (iList K tl) g tu) tz D σ H :=
  h H (.refl H) _ fun v B e ⟨p, ev, _, hp⟩ => ⟨p, ev, ⟨xs, sq_of hp⟩, for_list (D := { D with nx := tz D }) (W p) (h0 p B e hp) (hl p) (hs p) (hd p)⟩
theorem q_forS {s : Str} {j : Nat} (h : Ev te σ H (.str s)) (W : Nat → L2.St → Hp → Prop) (h0 : ∀ B, Ex H B → W 0 σ B)
    (hs : ∀ i c σ' B, s.cps[i]? = some c → W i σ' B → tu { D with nx := W (i + 1), ct := W (i + 1), bk := tz D } (σ'.set j (some (.str ⟨#[c]⟩))) B) (hd : ∀ σ' B, W s.cps.size σ' B → tz D σ' B) : tSeq (tFor (iStr te) (gName j) tu) tz D σ H :=
  h H (.refl H) _ fun B e => ⟨s, rfl, for_it (D := { D with nx := tz D }) walk_str W (h0 B e) (fun _ _ _ _ _ => trivial) (fun i x σ' C C' hi w y => by
    obtain ⟨rfl, c, hc, rfl⟩ := y
    exact hs i c σ' C' hc w) hd⟩
theorem q_asgCall {sp : Sp} {dvs vs : List V} {E : XK} {ta : TA} {i : Nat} (h : EvA ta σ H vs) (k : ∀ B, Ex H B → sp (vs ++ dvs) B (fun v C => tz D (σ.set i (some v)) C) E) : tSeq (tAsg (tCall sp dvs E ta) (gName i)) tz D σ H := h H (.refl H) _ k
theorem st_nf {t : TS} {σ' : L2.St} (e : σ = σ') (h : t D σ' H) : t D σ H := e ▸ h
end
def spLaw (K : PySem.W.Frag) : Sp := fun vs H Q _ => ∃ (a : Addr) (ns : List Int), vs = [.ref a] ∧ SqL K H a (ns.map V.int) ∧ ns.length ≤ 63 ∧ ∀ B, Q (.bl true) B

/-! ### calls of what is built in; the tactics that lay these lines -/
section
variable {K : PySem.W.Frag} {σ : L2.St} {H H' : Hp} {ta tb tc te tx : TE} {t u : TT} {x y z v : V} {r r' : R2}
abbrev rLen (K : PySem.W.Frag) : List V → Hp → VK → Prop := fun vs H Q => ∃ p ys, vs = [V.ref p] ∧ (SqL K H p ys ∨ SqT K H p ys) ∧ Q (.int ys.length) H
abbrev rList (K : PySem.W.Frag) : List V → Hp → VK → Prop := fun vs H Q => ∃ p ys, vs = [V.ref p] ∧ (SqL K H p ys ∨ SqT K H p ys) ∧ ∀ l, H l = none → Q (.ref l) (upd H l (.lst ys))
theorem rc_len {p : Addr} {xs : List V} (h : SqL K H p xs) : RC (rLen K) [.ref p] H (.int xs.length) := fun A e _ q => ⟨p, xs, rfl, .inl (ex_l e h), q A (.refl A)⟩
theorem rc_lenT {p : Addr} {xs : List V} (h : SqT K H p xs) : RC (rLen K) [.ref p] H (.int xs.length) := fun A e _ q => ⟨p, xs, rfl, .inr (ex_t e h), q A (.refl A)⟩
theorem rc_lenS {s : Str} (h : s.length ≤ 100000) : RC (fun vs H Q => ∃ z, vs = [V.str z] ∧ z.length ≤ sizeLine ∧ Q (.int z.length) H) [.str s] H (.int s.length) := fun A _ _ q => ⟨s, rfl, sz_of h, q A (.refl A)⟩
theorem rc_intB {b : Bool} : RC (fun vs H Q => (∃ i, vs = [V.int i] ∧ Q (.int i) H) ∨ ∃ k, vs = [V.bl k] ∧ Q (.int (if k then 1 else 0)) H) [.bl b] H (.int (if b then 1 else 0)) := fun A _ _ q => .inr ⟨b, rfl, q A (.refl A)⟩
theorem rc_strI {i : Int} (h : i.natAbs.log2 < 1920) : RC (fun vs H Q => ∃ i, vs = [V.int i] ∧ i.natAbs.log2 < 1920 ∧ Q (.str (toString i)) H) [.int i] H (.str (toString i)) := fun A _ _ q => ⟨i, rfl, h, q A (.refl A)⟩
/-- isinstance of a value whose type is known, and a built-in type -/
theorem rc_isi {c : String} {n : String} {b : Bool} (ht : ∀ B, Ex H B → TyX K B x (.type c)) (hk : kitB c n = some b) : RC (rIsi K) [x, .ty n] H (.bl b) := fun A e _ q => ⟨x, .ty n, .type c, .type n, b, rfl, .ty n, ht A e, kit_ty hk, q A (.refl A)⟩
theorem tx_int {i : Int} : ∀ B, Ex H B → TyX K B (.int i) (.type "int") := fun _ _ => .base (.int i)
theorem tx_str {s : Str} : ∀ B, Ex H B → TyX K B (.str s) (.type "str") := fun _ _ => .base (.str s)
theorem tx_lst {a : Addr} {xs : List V} (h : H a = some (.lst xs)) : ∀ B, Ex H B → TyX K B (.ref a) (.type "list") := fun _ e => .base (.lst (e.k h))
theorem tx_tup {a : Addr} {xs : List V} (h : H a = some (.tup xs)) : ∀ B, Ex H B → TyX K B (.ref a) (.type "tuple") := fun _ e => .base (.tup (e.k h))
theorem rv_add_str {a b : Str} (h : a.length + b.length ≤ 100000) : RV (fun x y H Q => ∃ i j, x = V.str i ∧ y = V.str j ∧ i.length + j.length ≤ sizeLine ∧ Q (.str (i ++ j)) H) (.str a) (.str b) H (.str (a ++ b)) := fun A _ _ q => ⟨a, b, rfl, rfl, sz_of h, q A (.refl A)⟩
theorem rv_NT {a b : String} : RV rNT (.ty a) (.ty b) H (.bl (!decide (a = b))) := fun A _ _ q => ⟨a, b, rfl, rfl, q A (.refl A)⟩
theorem rc_typI {i : Int} : RC (rTyp K) [.int i] H (.ty "int") := fun A _ _ q => ⟨.int i, "int", rfl, .int i, q A (.refl A)⟩
theorem rv_isN : RV (fun x y H Q => y = V.non ∧ Q (.bl (decide (x = .non))) H) x .non H (.bl (decide (x = .non))) := fun A _ _ q => ⟨rfl, q A (.refl A)⟩
theorem ev_neg {i : Int} (h : Ev ta σ H (.int i)) : Ev (tUn (rU fun i => .int (-i)) ta) σ H (.int (-i)) := ev_un h fun A _ _ q => ⟨i, rfl, q A (.refl A)⟩
end
theorem kb_ss : kitB "str" "str" = some true := by decide +kernel
theorem kb_ii : kitB "int" "int" = some true := by decide +kernel
theorem kb_ib : kitB "int" "bool" = some false := by decide +kernel
theorem kb_ll : kitB "list" "list" = some true := by decide +kernel
theorem kb_tt : kitB "tuple" "tuple" = some true := by decide +kernel
theorem decide_int (i j : Int) : decide (V.int i = V.int j) = decide (i = j) := by
  by_cases h : i = j
  · rw [h, decide_eq_true rfl, decide_eq_true rfl]
  · rw [decide_eq_false h, decide_eq_false (fun q => h (V.int.inj q))]
theorem decide_str (i j : Str) : decide (V.str i = V.str j) = decide (i = j) := by
  by_cases h : i = j
  · rw [h, decide_eq_true rfl, decide_eq_true rfl]
  · rw [decide_eq_false h, decide_eq_false (fun q => h (V.str.inj q))]
local macro_rules | `(tactic| walk_at "cond") => `(tactic| first | (with_reducible assumption) | decide | (show (0 : Int) < _; decide) | (exact ⟨by decide, by decide⟩) | (exact ⟨by decide, by decide, by decide⟩) | (exact ⟨by omega, by omega⟩) | (exact Or.inl ⟨by decide, by decide⟩) | (exact Or.inr ⟨by decide, by decide⟩) | (exact Or.inl ⟨by omega, by omega⟩) | (exact Or.inr ⟨by omega, by omega⟩) | omega)
local macro_rules | `(tactic| walk_at "seq") => `(tactic| first | (with_reducible assumption) | (exact sq_of (by with_reducible assumption)) | (exact st_of (by with_reducible assumption)) | (exact ex_l (by with_reducible assumption) (by with_reducible assumption)) | (exact ex_t (by with_reducible assumption) (by with_reducible assumption)))
local macro_rules | `(tactic| walk_at "rv") => `(tactic| first | (with_reducible exact rv_I0) | ((with_reducible apply rv_I); walk_at "cond") | ((with_reducible apply rv_eq); rfl) | ((with_reducible apply rv_ne); rfl) | (with_reducible exact rv_NT) | (with_reducible exact rv_isN) | ((with_reducible apply rv_add_str); walk_at "cond") | ((with_reducible apply rv_ixT); walk_at "seq"; rfl))
local macro_rules | `(tactic| walk_at "rc") => `(tactic| first | ((with_reducible apply rc_len); walk_at "seq") | ((with_reducible apply rc_lenT); walk_at "seq") | ((with_reducible apply rc_lenS); walk_at "cond") | (with_reducible exact rc_intB) | (with_reducible exact rc_typI) | ((with_reducible apply rc_strI); walk_at "cond") | (exact rc_isi tx_str kb_ss) | (exact rc_isi tx_int kb_ii) | (exact rc_isi tx_int kb_ib) | (exact rc_isi (tx_lst (by with_reducible assumption)) kb_ll) | (exact rc_isi (tx_tup (by with_reducible assumption)) kb_tt))
local macro_rules | `(tactic| walk_at "spv") => `(tactic| fail "no promise")
local macro_rules | `(tactic| walk_at "ea") => `(tactic| first | (with_reducible exact ea_nil) | ((with_reducible apply ea_cons); walk_at "ev"; walk_at "ea"))
local macro_rules | `(tactic| walk_at "eo") => `(tactic| first | (with_reducible exact eo_none) | ((with_reducible apply eo_some); walk_at "ev"))
local macro_rules | `(tactic| walk_at "ev") => `(tactic| first
  | (with_reducible exact ev_c)
  | ((with_reducible apply ev_var); rfl)
  | ((with_reducible apply ev_op); walk_at "ev"; walk_at "ev"; walk_at "rv")
  | ((with_reducible apply ev_cb); walk_at "ea"; walk_at "rc")
  | ((with_reducible apply ev_call); walk_at "ea"; walk_at "spv")
  | ((with_reducible apply ev_neg); walk_at "ev")
  | ((with_reducible apply ev_notV); walk_at "ev")
  | ((with_reducible apply ev_andV); walk_at "ev"; (intro _; walk_at "ev"))
  | ((with_reducible apply ev_orV); walk_at "ev"; (intro _; walk_at "ev")))
local macro_rules | `(tactic| walk_at "et") => `(tactic| first
  | ((with_reducible apply et_chain); walk_at "ev"; walk_at "ev"; walk_at "rv"; (intro _; walk_at "ev"); (intro _; walk_at "rv"))
  | ((with_reducible apply et_test); walk_at "ev")
  | ((with_reducible apply et_B); walk_at "ev")
  | ((with_reducible apply et_not); walk_at "et")
  | ((with_reducible apply et_or); walk_at "et"; (intro _; walk_at "et"))
  | ((with_reducible apply et_and); walk_at "et"; (intro _; walk_at "et")))
local macro_rules | `(tactic| walk_at "asg") => `(tactic| ((first | with_reducible apply q_asg | with_reducible apply s_asg); walk_at "ev"))
local macro_rules | `(tactic| walk_at "drop") => `(tactic| ((first | with_reducible apply q_drop | with_reducible apply s_drop); walk_at "ev"))
local macro_rules | `(tactic| walk_at "ret") => `(tactic| ((with_reducible apply s_retk); walk_at "ev"))
local macro_rules | `(tactic| walk_at "when") => `(tactic| ((first | with_reducible apply q_when | with_reducible apply s_when | with_reducible apply q_if | with_reducible apply s_if); walk_at "et"))

/-! ### lists of things told by data -/
structure Rp (α : Type) where
  R : Hp → V → α → Prop
  mono : ∀ {H H' : Hp} {v : V} {a : α}, Ex H H' → R H v a → R H' v a
  lst : ∀ {H : Hp} {D : Addr} {xs ys : List V} {v : V} {a : α}, H D = some (.lst xs) → R H v a → R (upd H D (.lst ys)) v a
def rpInt : Rp Int := ⟨fun _ v i => v = .int i, fun _ h => h, fun _ h => h⟩
def rpStr : Rp Str := ⟨fun _ v s => v = .str s, fun _ h => h, fun _ h => h⟩
/-- a thing: a tuple of a name and a value -/
def Thg (H : Hp) (v : V) (p : Int × Int) : Prop := ∃ t, v = .ref t ∧ H t = some (.tup [.int p.1, .int p.2])
def rpT : Rp (Int × Int) := ⟨Thg, fun e ⟨t, h1, h2⟩ => ⟨t, h1, e.k h2⟩, fun hD ⟨t, h1, h2⟩ => ⟨t, h1, by rw [upd_ne (ne_of h2 hD (by intro z; cases z))]; exact h2⟩⟩
abbrev PR {α : Type} (r : Rp α) (H : Hp) (xs : List V) (as : List α) : Prop := Paired (r.R H) xs as
/-- at p a list that is told by as -/
def LR {α : Type} (r : Rp α) (H : Hp) (p : Addr) (as : List α) : Prop := ∃ ys, H p = some (.lst ys) ∧ PR r H ys as
section
variable {α β : Type} {r : Rp α} {r' : Rp β} {H H' : Hp} {xs ys : List V} {as bs : List α}
theorem pr_mono (e : Ex H H') : ∀ {xs : List V} {as : List α}, PR r H xs as → PR r H' xs as
  | _, _, .nil => .nil
  | _, _, .cons h t => .cons (r.mono e h) (pr_mono e t)
theorem pr_lst {D : Addr} {zs ws : List V} (h : H D = some (.lst zs)) : ∀ {xs : List V} {as : List α}, PR r H xs as → PR r (upd H D (.lst ws)) xs as
  | _, _, .nil => .nil
  | _, _, .cons a t => .cons (r.lst h a) (pr_lst h t)
theorem pr_get : ∀ {xs : List V} {as : List α} {i : Nat} {x : V}, PR r H xs as → xs[i]? = some x → ∃ a, as[i]? = some a ∧ r.R H x a
  | _, _, i, x, .nil, h => by simp at h
  | _, _, 0, x, .cons a t, h => by
    cases (Option.some.inj h)
    exact ⟨_, rfl, a⟩
  | _, _, i + 1, x, .cons a t, h => pr_get (i := i) t h
theorem pr_at : ∀ {xs : List V} {as : List α} {i : Nat} {a : α}, PR r H xs as → as[i]? = some a → ∃ x, xs[i]? = some x ∧ r.R H x a
  | _, _, i, x, .nil, h => by simp at h
  | _, _, 0, x, .cons a t, h => by
    cases (Option.some.inj h)
    exact ⟨_, rfl, a⟩
  | _, _, i + 1, x, .cons a t, h => pr_at (i := i) t h
theorem pr_app : ∀ {xs ys : List V} {as bs : List α}, PR r H xs as → PR r H ys bs → PR r H (xs ++ ys) (as ++ bs)
  | _, _, _, _, .nil, h => h
  | _, _, _, _, .cons a t, h => .cons a (pr_app t h)
theorem LR.mono (e : Ex H H') {p : Addr} (h : LR r H p as) : LR r H' p as := by
  obtain ⟨ys, h1, h2⟩ := h
  exact ⟨ys, e.k h1, pr_mono e h2⟩
theorem pr_ints : ∀ {ms : List Int}, PR rpInt H (ms.map V.int) ms
  | [] => .nil
  | _ :: _ => .cons rfl pr_ints
theorem pr_ints_eq : ∀ {xs : List V} {ms : List Int}, PR rpInt H xs ms → xs = ms.map V.int
  | _, _, .nil => rfl
  | _, _, .cons h t => by
    rw [pr_ints_eq t, show _ = V.int _ from h]
    rfl
theorem take_snoc {γ : Type} {l : List γ} {i : Nat} {x : γ} (h : l[i]? = some x) : l.take (i + 1) = l.take i ++ [x] := by
  rw [List.take_add_one, h]
  rfl
end
/-- what evaluates to something told; to a new list of things told -/
abbrev EvR (te : TE) (σ : L2.St) (H : Hp) (P : Hp → V → Prop) : Prop := EvG te σ H fun _ v B => P B v
abbrev EvLR {β : Type} (r : Rp β) (te : TE) (σ : L2.St) (H : Hp) (bs : List β) : Prop := EvG te σ H fun A v B => ∃ p, v = .ref p ∧ A p = none ∧ LR r B p bs
def RetLR {β : Type} (r : Rp β) (bs : List β) (H : Hp) (Q : VK) : Prop := ∀ p B, H p = none → Ex H B → LR r B p bs → Q (.ref p) B
section
variable {α β : Type} {r : Rp α} {r' : Rp β} {K : PySem.W.Frag} {σ : L2.St} {H H' : Hp} {ta tb te tl : TE} {t : TT} {x y v : V} {D : Ends} {tz : TS}
theorem RetLR.mono {bs : List β} {Q : VK} (e : Ex H H') (k : RetLR r' bs H Q) : RetLR r' bs H' Q := fun p B hp b h => k p B (fresh_back e hp) (e.trans b) h
theorem ev_R {P : Hp → V → Prop} (h : Ev te σ H v) (hp : ∀ B, Ex H B → P B v) : EvR te σ H P := h.g fun A B a b => hp B (a.trans b)
theorem ev_Rtup {vs : List V} {ta : TA} {P : Hp → V → Prop} (h : EvA ta σ H vs) (hl : vs.length ≤ 100000) (hp : ∀ p B, B p = some (.tup vs) → P B (.ref p)) : EvR (tTup ta) σ H P := (eg_tup h hl).imp fun A v B _ _ ⟨p, e, _, h⟩ => e ▸ hp p B h
theorem EvLR.to {as bs : List β} (h : EvLR r' te σ H as) (e : as = bs) : EvLR r' te σ H bs := e ▸ h
theorem lcLR {xs : List V} {as : List α} {a : Addr} {j : Nat} {vs : List Nat} (q : α → Bool) (g : α → β) (h : Ev tl σ H (.ref a)) (hx : SqL K H a xs) (hp : PR r H xs as) (hz : as.length ≤ 40000)
    (hw : ∀ x, wipe ((wipe σ vs).set j (some x)) vs = wipe σ vs)
    (ht : ∀ x b H1, Ex H H1 → b ∈ as → r.R H1 x b → EvT t ((wipe σ vs).set j (some x)) H1 (q b))
    (he : ∀ x b H1, Ex H H1 → b ∈ as → r.R H1 x b → q b = true → EvR te ((wipe σ vs).set j (some x)) H1 (fun H2 v => r'.R H2 v (g b))) :
    EvLR r' (tLc (iList K tl) (gName j) t te vs) σ H ((as.filter q).map g) := fun H0 e Q qq => h H0 e _ fun H1 e1 => ⟨a, rfl, ⟨xs, ex_l (e.trans e1) hx⟩, fun Dl hD => by
  have hlen := hp.length
  refine lc_list (xs := xs) (fun i H' => Ex H1 H' ∧ ∃ ys, H' Dl = some (.lst ys) ∧ ys.length ≤ i ∧ PR r' H' ys (((as.take i).filter q).map g)) ⟨Ex.new hD, [], upd_same, Nat.le_refl _, by rw [List.take_zero]; exact .nil⟩ (fun i H' _ p => ex_l ((e.trans e1).trans p.1) hx) (fun i x H' hi p => ⟨hw x, ?_⟩) fun H' p => ?_
  · obtain ⟨p1, ys, p2, p3, p4⟩ := p
    obtain ⟨b, hb, rb⟩ := pr_get hp hi
    have hmem : b ∈ as := List.mem_of_getElem? hb
    have hil : i < xs.length := (List.getElem?_eq_some_iff.mp hi).1
    have eE := (e.trans e1).trans p1
    refine ht x b H' eE hmem (r.mono eE rb) H' (Ex.refl H') _ fun H3 e3 => ?_
    cases hq : q b with
    | true =>
      show te ((wipe σ vs).set j (some x)) H3 _
      refine he x b H' eE hmem (r.mono eE rb) hq H3 e3 _ fun y H4 e4 ry => ⟨ys, e4.k (e3.k p2), sz_lt (by omega), Ex.mut ((p1.trans e3).trans e4) hD (e4.k (e3.k p2)), ys ++ [y], upd_same, by rw [List.length_append]; exact Nat.succ_le_succ p3, ?_⟩
      have hD4 : H4 Dl = some (.lst ys) := e4.k (e3.k p2)
      rw [take_snoc hb, List.filter_append, List.map_append, List.filter_cons, if_pos hq]
      exact pr_lst hD4 (pr_app (pr_mono (e3.trans e4) p4) (.cons ry .nil))
    | false =>
      show Ex H1 H3 ∧ _
      refine ⟨p1.trans e3, ys, e3.k p2, by omega, ?_⟩
      rw [take_snoc hb, List.filter_append, List.filter_cons, if_neg (by rw [hq]; decide), List.filter_nil, List.append_nil]
      exact pr_mono e3 p4
  · obtain ⟨p1, ys, p2, p3, p4⟩ := p
    refine qq _ H' (e1.trans p1) ⟨Dl, rfl, fresh_back e1 hD, ys, p2, ?_⟩
    rw [hlen, List.take_length] at p4
    exact p4⟩
/-- over range(n) -/
theorem lcRR {ta : TA} {j : Nat} {vs : List Nat} {n : Nat} (q : Nat → Bool) (g : Nat → β) (h : EvA ta σ H [.int (n : Int)]) (hn : n ≤ 40000) (hw : ∀ x, wipe ((wipe σ vs).set j (some x)) vs = wipe σ vs)
    (ht : ∀ (i : Nat) H1, Ex H H1 → i < n → EvT t ((wipe σ vs).set j (some (.int (i : Int)))) H1 (q i))
    (he : ∀ (i : Nat) H1, Ex H H1 → i < n → q i = true → EvR te ((wipe σ vs).set j (some (.int (i : Int)))) H1 (fun H2 v => r'.R H2 v (g i))) :
    EvLR r' (tLc (iRng1 ta) (gName j) t te vs) σ H (((List.range n).filter q).map g) := fun H0 e Q qq => h H0 e _ fun H1 e1 => ⟨(n : Int), rfl, by omega, by omega, fun Dl hD => by
  refine lc_range (lo := 0) (n := n) (fun i H' => Ex H1 H' ∧ ∃ ys, H' Dl = some (.lst ys) ∧ ys.length ≤ i ∧ PR r' H' ys (((List.range i).filter q).map g)) ⟨Ex.new hD, [], upd_same, Nat.le_refl _, .nil⟩ (fun i H' hi p => ?_) fun H' p => ?_
  · obtain ⟨p1, ys, p2, p3, p4⟩ := p
    have e0 : (0 : Int) + (i : Int) = (i : Int) := Int.zero_add _
    rw [e0]
    refine ⟨hw _, ?_⟩
    have eE := (e.trans e1).trans p1
    refine ht i H' eE hi H' (Ex.refl H') _ fun H3 e3 => ?_
    cases hq : q i with
    | true =>
      show te ((wipe σ vs).set j (some (.int (i : Int)))) H3 _
      refine he i H' eE hi hq H3 e3 _ fun y H4 e4 ry => ⟨ys, e4.k (e3.k p2), sz_lt (by omega), Ex.mut ((p1.trans e3).trans e4) hD (e4.k (e3.k p2)), ys ++ [y], upd_same, by rw [List.length_append]; exact Nat.succ_le_succ p3, ?_⟩
      have hD4 : H4 Dl = some (.lst ys) := e4.k (e3.k p2)
      rw [List.range_succ, List.filter_append, List.map_append, List.filter_cons, if_pos hq]
      exact pr_lst hD4 (pr_app (pr_mono (e3.trans e4) p4) (.cons ry .nil))
    | false =>
      show Ex H1 H3 ∧ _
      refine ⟨p1.trans e3, ys, e3.k p2, by omega, ?_⟩
      rw [List.range_succ, List.filter_append, List.filter_cons, if_neg (by rw [hq]; decide), List.filter_nil, List.append_nil]
      exact pr_mono e3 p4
  · obtain ⟨p1, ys, p2, p3, p4⟩ := p
    exact qq _ H' (e1.trans p1) ⟨Dl, rfl, fresh_back e1 hD, ys, p2, p4⟩⟩
theorem q_asgLR {i : Nat} {bs : List β} (h : EvLR r' te σ H bs) (k : ∀ p B, H p = none → Ex H B → LR r' B p bs → tz D (σ.set i (some (.ref p))) B) : tSeq (tAsg te (gName i)) tz D σ H := q_asgG h fun _ B e ⟨p, ev, hp, l⟩ => ev ▸ k p B hp e l
theorem s_retLR {bs : List β} (h : EvLR r' te σ H bs) (k : RetLR r' bs H D.rt) : tRet te D σ H := s_retG h fun _ B e ⟨p, ev, hp, l⟩ => ev ▸ k p B hp e l
/-- a promise that hands back a new list -/
def SpLR (r : Rp β) (sp : Sp) (vs : List V) (H : Hp) (bs : List β) : Prop := ∀ A, Ex H A → ∀ Q : VK, RetLR r bs A Q → ∀ E : XK, sp vs A Q E
theorem ev_callLR {sp : Sp} {dvs vs : List V} {E : XK} {ta : TA} {bs : List β} (h : EvA ta σ H vs) (hs : SpLR r' sp (vs ++ dvs) H bs) : EvLR r' (tCall sp dvs E ta) σ H bs := fun A a Q q =>
  h A a _ fun B b => hs B (a.trans b) Q (fun p C hp c l => q _ C (b.trans c) ⟨p, rfl, fresh_back b hp, l⟩) E
/-- l + m of two lists, both new -/
theorem ev_catLR {as bs : List β} (ha : EvLR r' ta σ H as) (hb : EvLR r' tb σ H bs) (hz : as.length + bs.length ≤ 100000) : EvLR r' (tOp rCat ta tb) σ H (as ++ bs) := fun A a Q q =>
  ha A a _ fun _ B b ⟨p, ev, _, xs, h1, h2⟩ => hb B (a.trans b) _ fun _ C c ⟨p', ev', _, ys, h3, h4⟩ => by
    refine ⟨p, p', xs, ys, ev, ev', c.k h1, h3, ?_, fun l hl => ?_⟩
    · rw [h2.length, h4.length]
      exact sz_of hz
    · exact q _ _ ((b.trans c).trans (.new hl)) ⟨l, rfl, fresh_back (b.trans c) hl, _, upd_same, pr_mono (.new hl) (pr_app (pr_mono c h2) h4)⟩
/-- l + m of two lists that stand -/
theorem ev_catV {as bs : List β} {p p' : Addr} (ha : Ev ta σ H (.ref p)) (hb : Ev tb σ H (.ref p')) (h1 : LR r' H p as) (h2 : LR r' H p' bs) (hz : as.length + bs.length ≤ 100000) : EvLR r' (tOp rCat ta tb) σ H (as ++ bs) := fun A a Q q =>
  ha A a _ fun B b => hb B (a.trans b) _ fun C c => by
    obtain ⟨xs, g1, g2⟩ := h1.mono ((a.trans b).trans c)
    obtain ⟨ys, g3, g4⟩ := h2.mono ((a.trans b).trans c)
    refine ⟨p, p', xs, ys, rfl, rfl, g1, g3, ?_, fun l hl => ?_⟩
    · rw [g2.length, g4.length]
      exact sz_of hz
    · exact q _ _ ((b.trans c).trans (.new hl)) ⟨l, rfl, fresh_back (b.trans c) hl, _, upd_same, pr_mono (.new hl) (pr_app g2 g4)⟩
end
/-! ### data compared -/
def dI (ms : List Int) : PyData := .list (ms.map PyData.int)
def dT (ps : List (Int × Int)) : PyData := .list (ps.map fun p => .tuple [.int p.1, .int p.2])
theorem lay_ints : ∀ ms : List Int, PyData.canLayAll0 (ms.map PyData.int) = true
  | [] => rfl
  | m :: r => by
    show (PyData.canLay0 (.int m) && PyData.canLayAll0 (r.map PyData.int)) = true
    rw [lay_ints r]
    rfl
theorem deep_ints : ∀ ms : List Int, PyData.depthAll (ms.map PyData.int) ≤ 1
  | [] => by simp [PyData.depthAll]
  | m :: r => by
    have := deep_ints r
    show max (PyData.depth (.int m)) (PyData.depthAll (r.map PyData.int)) ≤ 1
    have h0 : PyData.depth (.int m) = 0 := by simp [PyData.depth]
    omega
theorem shaped_dI (ms : List Int) : SeqAt.shaped (dI ms) = true := by
  unfold SeqAt.shaped
  have h1 : (dI ms).canLay0 = true := lay_ints ms
  have h2 : (dI ms).depth ≤ 64 := by
    have := deep_ints ms
    show PyData.depthAll (ms.map PyData.int) + 1 ≤ 64
    omega
  rw [h1, decide_eq_true h2]
  rfl
theorem lay_pairs : ∀ ps : List (Int × Int), PyData.canLayAll0 (ps.map fun p => .tuple [.int p.1, .int p.2]) = true
  | [] => rfl
  | m :: r => by
    show (PyData.canLay0 (.tuple [.int m.1, .int m.2]) && PyData.canLayAll0 (r.map fun p => .tuple [.int p.1, .int p.2])) = true
    rw [lay_pairs r]
    rfl
theorem deep_pairs : ∀ ps : List (Int × Int), PyData.depthAll (ps.map fun p => .tuple [.int p.1, .int p.2]) ≤ 2
  | [] => by simp [PyData.depthAll]
  | m :: r => by
    have := deep_pairs r
    show max (PyData.depth (.tuple [.int m.1, .int m.2])) (PyData.depthAll (r.map fun p => .tuple [.int p.1, .int p.2])) ≤ 2
    have h0 : PyData.depth (.tuple [.int m.1, .int m.2]) ≤ 2 := by simp [PyData.depth, PyData.depthAll]
    omega
theorem shaped_dT (ps : List (Int × Int)) : SeqAt.shaped (dT ps) = true := by
  unfold SeqAt.shaped
  have h1 : (dT ps).canLay0 = true := lay_pairs ps
  have h2 : (dT ps).depth ≤ 64 := by
    have := deep_pairs ps
    show PyData.depthAll (ps.map fun p => .tuple [.int p.1, .int p.2]) + 1 ≤ 64
    omega
  rw [h1, decide_eq_true h2]
  rfl
theorem eqv_pairs : ∀ ps : List (Int × Int), PyData.eqvAll (ps.map fun p => .tuple [.int p.1, .int p.2]) (ps.map fun p => .tuple [.int p.1, .int p.2]) = true
  | [] => by simp [PyData.eqvAll]
  | m :: r => by
    have := eqv_pairs r
    simp only [List.map_cons, PyData.eqvAll, this, Bool.and_true, PyData.eqv, beq_self_eq_true]
theorem eqv_dT (ps : List (Int × Int)) : PyData.eqv (dT ps) (dT ps) = true := by
  have := eqv_pairs ps
  simp only [dT, PyData.eqv, this]
theorem eqv_nil (ms : List Int) : PyData.eqv (dI ms) (.list []) = ms.isEmpty := by
  cases ms <;> simp [dI, PyData.eqv, PyData.eqvAll]
section
variable {K : PySem.W.Frag} {σ : L2.St} {H H' : Hp} {ta tb te : TE}
theorem dp_ints {xs : List V} {ms : List Int} (h : PR rpInt H xs ms) : DpAll K H xs (ms.map PyData.int) := by
  induction h with
  | nil => exact .nil
  | cons a t ih =>
    rw [show _ = V.int _ from a]
    exact .cons (.int _) ih
theorem dp_pairs : ∀ {xs : List V} {ps : List (Int × Int)}, PR rpT H xs ps → DpAll K H xs (ps.map fun p => .tuple [.int p.1, .int p.2])
  | _, _, .nil => .nil
  | _, _, .cons ⟨t, e, h⟩ r => by
    rw [e]
    exact .cons (.tup (st_of h) (.cons (.int _) (.cons (.int _) .nil))) (dp_pairs r)
theorem ev_neNil {p : Addr} {ms : List Int} (ha : Ev ta σ H (.ref p)) (h : LR rpInt H p ms) : Ev (tOp (rNeD K) ta (tLst tNil)) σ H (.bl (!ms.isEmpty)) := by
  obtain ⟨ys, h1, h2⟩ := h
  refine ev_opR ha (eg_lst ea_nil (by decide)) fun A w B a b ⟨q, e, _, hq⟩ C c Q k => ?_
  subst e
  refine ⟨dI ms, .list [], .lst (sq_of (((a.trans b).trans c).k h1)) (dp_ints (pr_mono ((a.trans b).trans c) h2)), .lst (sq_of (c.k hq)) .nil, shaped_dI ms, by decide +kernel, ?_⟩
  rw [eqv_nil]
  exact k C (.refl C)
theorem ev_eqTT {as bs : List (Int × Int)} (ha : EvLR rpT ta σ H as) (hb : EvLR rpT tb σ H bs) (he : as = bs) : Ev (tOp (rEqD K) ta tb) σ H (.bl true) := fun A a Q q =>
  ha A a _ fun _ B b ⟨p, ev, _, xs, h1, h2⟩ => hb B (a.trans b) _ fun _ C c ⟨p', ev', _, ys, h3, h4⟩ => by
    subst he ev ev'
    refine ⟨dT as, dT as, .lst (sq_of (c.k h1)) (dp_pairs (pr_mono c h2)), .lst (sq_of h3) (dp_pairs h4), shaped_dT _, shaped_dT _, ?_⟩
    rw [eqv_dT]
    exact q C (b.trans c)
theorem ev_listLR {α : Type} {r : Rp α} {p : Addr} {as : List α} (ha : Ev ta σ H (.ref p)) (h : LR r H p as) : EvLR r (tCB (rList K) (tCons ta tNil)) σ H as := fun A a Q q =>
  ha A a _ fun B b => by
    obtain ⟨ys, h1, h2⟩ := h.mono (a.trans b)
    exact ⟨p, ys, rfl, .inl (sq_of h1), fun l hl => q _ _ (b.trans (.new hl)) ⟨l, rfl, fresh_back b hl, ys, upd_same, pr_mono (.new hl) h2⟩⟩
theorem el_oneLR {α : Type} {r : Rp α} {b : α} (h : EvR te σ H (fun B v => r.R B v b)) : EvLR r (tLst (tCons te tNil)) σ H [b] := fun A a Q q =>
  h A a _ fun v B e hv => ⟨by show 1 ≤ sizeLine; decide, fun l hl => q _ _ (e.trans (.new hl)) ⟨l, rfl, fresh_back e hl, _, upd_same, .cons (r.mono (.new hl) hv) .nil⟩⟩
end

/-! ### more of what evaluates -/
theorem ev_opL {K : PySem.W.Frag} {σ : L2.St} {H : Hp} {ta tb : TE} {y z : V} {r : R2} {P : Hp → V → Hp → Prop} (ha : EvG ta σ H P) (hb : Ev tb σ H y) (hr : ∀ A w B, Ex H A → Ex A B → P A w B → RV r w y B z) : Ev (tOp r ta tb) σ H z := fun A a Q q =>
  ha A a _ fun w B b p => hb B (a.trans b) _ fun C c => hr A w B a b p C c Q fun D d => q D ((b.trans c).trans d)
theorem el_sortI {K : PySem.W.Frag} {σ : L2.St} {H : Hp} {te : TE} {ns : List Int} (h : EvLR rpInt te σ H ns) : EvG (tCB (rSortedI K) (tCons te tNil)) σ H (fun A v B => ∃ p ms, v = .ref p ∧ A p = none ∧ LR rpInt B p ms ∧ ms.Perm ns ∧ ms.Pairwise (· ≤ ·)) := fun A a Q q =>
  h A a _ fun v B b ⟨p, ev, hp, xs, h1, h2⟩ => ⟨p, ns, by rw [ev], sq_of (by rw [h1, pr_ints_eq h2]), fun ms p' perm pw hp' => q _ _ (b.trans (.new hp')) ⟨p', ms, rfl, fresh_back b hp', ⟨_, upd_same, pr_ints⟩, perm, pw⟩⟩
/-! ### a comprehension over what is told; a slice; sorted pairs -/
section
variable {K : PySem.W.Frag} {σ : L2.St} {H H' : Hp} {ta tb te tl : TE} {t : TT} {g : TG} {vs : List Nat} {P P3 : Hp → V → Hp → Prop}
theorem lcG (h : EvG tl σ H P) (k : ∀ A v B, Ex H A → Ex A B → P A v B → EvG (tLc (iList K (tC v)) g t te vs) σ B (fun _ w C => P3 A w C)) : EvG (tLc (iList K tl) g t te vs) σ H P3 := fun A a Q q =>
  h A a _ fun v B b p => k A v B a b p B (.refl B) Q fun w C c r => q w C (b.trans c) r
theorem ev_callG {sp : Sp} {dvs us : List V} {E : XK} {ta : TA} {R : V → Hp → Prop} (h : EvA ta σ H us) (hs : ∀ B, Ex H B → ∀ Q : VK, (∀ v C, Ex B C → R v C → Q v C) → ∀ E, sp (us ++ dvs) B Q E) : EvG (tCall sp dvs E ta) σ H (fun _ v C => R v C) := fun A a Q q =>
  h A a _ fun B b => hs B (a.trans b) Q (fun v C c r => q v C (b.trans c) r) E
theorem cutV_take (xs : List V) (n : Nat) : cutV xs none (some (n : Int)) = xs.take n := by
  unfold cutV
  rw [HT.sIx_none, HT.sIx_nat, List.drop_zero, Nat.sub_zero]
  rcases Nat.le_total n xs.length with h | h
  · rw [Nat.min_eq_left h]
  · rw [Nat.min_eq_right h, List.take_length, List.take_of_length_le h]
theorem pr_take {α : Type} {r : Rp α} : ∀ (n : Nat) {xs : List V} {as : List α}, PR r H xs as → PR r H (xs.take n) (as.take n)
  | 0, _, _, _ => by
    rw [List.take_zero, List.take_zero]
    exact .nil
  | _ + 1, _, _, .nil => .nil
  | n + 1, _, _, .cons a t => .cons a (pr_take n t)
theorem el_slice {α : Type} {r : Rp α} {as : List α} {p : Addr} {th : TO} (n : Nat) (h : Ev te σ H (.ref p)) (hl : LR r H p as) (hh : EvO th σ H (some (n : Int))) : EvLR r (tSl (rSlL K) te tNoPart th) σ H (as.take n) := fun A a Q q =>
  h A a _ fun B b => hh B (a.trans b) _ fun C c => by
    obtain ⟨xs, h1, h2⟩ := hl.mono ((a.trans b).trans c)
    refine ⟨p, xs, rfl, sq_of h1, fun l hnew => ?_⟩
    rw [cutV_take]
    exact q _ _ ((b.trans c).trans (.new hnew)) ⟨l, rfl, fresh_back (b.trans c) hnew, _, upd_same, pr_mono (.new hnew) (pr_take n h2)⟩
def kH (H : Hp) : V → Int × Int
  | .ref t => (match H t with
    | some (.tup [.int i, .int j]) => (i, j)
    | _ => (0, 0))
  | _ => (0, 0)
theorem kH_is {v : V} {p : Int × Int} (h : Thg H v p) : kH H v = p := by
  obtain ⟨t, rfl, h⟩ := h
  show (match H t with
    | some (.tup [.int i, .int j]) => (i, j)
    | _ => ((0, 0) : Int × Int)) = p
  rw [h]
theorem kH_all : ∀ {xs : List V} {as : List (Int × Int)}, PR rpT H xs as → xs.map (kH H) = as ∧ ∀ x ∈ xs, ∃ t, x = .ref t ∧ H t = some (.tup [.int (kH H x).1, .int (kH H x).2])
  | _, _, .nil => ⟨rfl, by simp⟩
  | _, _, .cons h t => by
    obtain ⟨h1, h2⟩ := kH_all t
    refine ⟨by rw [List.map_cons, kH_is h, h1], fun x hx => ?_⟩
    rcases List.mem_cons.mp hx with e | e
    · obtain ⟨u, e1, e2⟩ := id h
      rw [e, kH_is h]
      exact ⟨u, e1, e2⟩
    · exact h2 x e
theorem kH_pr : ∀ {xs : List V}, (∀ x ∈ xs, ∃ t, x = .ref t ∧ H t = some (.tup [.int (kH H x).1, .int (kH H x).2])) → PR rpT H xs (xs.map (kH H))
  | [], _ => .nil
  | x :: xs, h => .cons (h x List.mem_cons_self) (kH_pr fun y hy => h y (List.mem_cons_of_mem _ hy))
theorem lex_le {a b : Int × Int} (h : SrtO.lexB b a = false) : a.1 ≤ b.1 := by
  unfold SrtO.lexB at h
  by_cases e : b.1 = a.1
  · omega
  · rw [if_neg e] at h
    have := of_decide_eq_false h
    omega
theorem el_sortT {as : List (Int × Int)} (h : EvLR rpT te σ H as) : EvG (tCB (rSortedPO K) (tCons te tNil)) σ H (fun A v B => ∃ p rs, v = .ref p ∧ A p = none ∧ LR rpT B p rs ∧ rs.Perm as ∧ rs.Pairwise (fun a b => a.1 ≤ b.1)) := fun A a Q q =>
  h A a _ fun v B b ⟨p, ev, hp, xs, h1, h2⟩ => by
    obtain ⟨e1, e2⟩ := kH_all h2
    refine ⟨p, xs, kH B, by rw [ev], sq_of h1, e2, fun ys p' srt stb hp' => ?_⟩
    refine q _ _ (b.trans (.new hp')) ⟨p', ys.map (kH B), rfl, fresh_back b hp', ⟨ys, upd_same, pr_mono (.new hp') (kH_pr fun x hx => e2 x (stb.perm.mem_iff.mp hx))⟩, ?_, ?_⟩
    · rw [← e1]
      exact stb.perm.map _
    · rw [List.pairwise_map]
      exact srt.imp fun {x y} hxy => lex_le hxy
end
theorem ev_slS {te : TE} {tl th : TO} {σ : L2.St} {H : Hp} {s : Str} {lo hi : Option Int} (h : Ev te σ H (.str s)) (h1 : EvO tl σ H lo) (h2 : EvO th σ H hi) (hz : s.length ≤ 100000) : Ev (tSl rSlS te tl th) σ H (.str (cutS s lo hi)) := fun A a Q q =>
  h A a _ fun B b => h1 B (a.trans b) _ fun C c => h2 C ((a.trans b).trans c) _ fun D d => ⟨s, rfl, sz_of hz, q D ((b.trans c).trans d)⟩
section
variable {α β : Type} {r : Rp α} {K : PySem.W.Frag} {σ : L2.St} {H : Hp} {ta te : TE} {z : V}
/-- a call with a new list -/
theorem ev_callL1 {sp : Sp} {E : XK} {as : List α} (h : EvLR r te σ H as) (hs : ∀ p B, LR r B p as → SpV sp [.ref p] B z) : Ev (tCall sp [] E (tCons te tNil)) σ H z := fun A a Q q =>
  h A a _ fun _ B b ⟨p, ev, _, l⟩ => by
    subst ev
    exact hs p B l B (.refl B) Q (fun C c => q C (b.trans c)) E
theorem ev_callL2 {sp : Sp} {E : XK} {as : List α} {y : V} (h : EvLR r te σ H as) (ht : Ev ta σ H y) (hs : ∀ p B, Ex H B → LR r B p as → SpV sp [.ref p, y] B z) : Ev (tCall sp [] E (tCons te (tCons ta tNil))) σ H z := fun A a Q q =>
  h A a _ fun _ B b ⟨p, ev, _, l⟩ => ht B (a.trans b) _ fun C c => by
    subst ev
    exact hs p C ((a.trans b).trans c) (l.mono c) C (.refl C) Q (fun D d => q D ((b.trans c).trans d)) E
theorem rv_isB {a b : Bool} : RV rIsB (.bl a) (.bl b) H (.bl (decide (a = b))) := fun A _ _ q => ⟨a, b, rfl, rfl, q A (.refl A)⟩
theorem rv_notB {a b : Bool} : RV rNotB (.bl a) (.bl b) H (.bl (!decide (a = b))) := fun A _ _ q => ⟨a, b, rfl, rfl, q A (.refl A)⟩
theorem tx_bl {b : Bool} : ∀ B, Ex H B → TyX K B (.bl b) (.type "bool") := fun _ _ => .base (.bl b)
end
theorem kb_bb : kitB "bool" "bool" = some true := by decide +kernel
theorem decide_bl (i j : Bool) : decide (V.bl i = V.bl j) = decide (i = j) := by
  by_cases h : i = j
  · rw [h, decide_eq_true rfl, decide_eq_true rfl]
  · rw [decide_eq_false h, decide_eq_false (fun q => h (V.bl.inj q))]

section
open PyProof.Rows
/-! ### slices by twos -/
def evens {α : Type} : List α → List α
  | [] => []
  | [a] => [a]
  | a :: _ :: t => a :: evens t
theorem evens_len {α : Type} : ∀ l : List α, (evens l).length = (l.length + 1) / 2
  | [] => by simp [evens]
  | [_] => by simp [evens]
  | _ :: _ :: t => by
    show (evens t).length + 1 = (t.length + 1 + 1 + 1) / 2
    rw [evens_len t]
    omega
theorem evens_get {α : Type} : ∀ (l : List α) (k : Nat), (evens l)[k]? = l[2 * k]?
  | [], k => by simp [evens]
  | [a], 0 => rfl
  | [a], k + 1 => by
    rw [show 2 * (k + 1) = (2 * k + 1) + 1 by omega]
    rfl
  | a :: b :: t, 0 => rfl
  | a :: b :: t, k + 1 => by
    rw [show 2 * (k + 1) = (2 * k) + 1 + 1 by omega]
    exact evens_get t k
theorem evens_pick {α : Type} (xs : Array α) (s n : Nat) (hn : n = (xs.size - s + 1) / 2) : ((List.range n).map fun k => s + 2 * k).filterMap (xs[·]?) = evens (xs.toList.drop s) := by
  rw [List.filterMap_map]
  have h := PySem.W.krv_all (evens (xs.toList.drop s)).toArray
  rw [List.size_toArray, evens_len, List.length_drop, Array.length_toList, ← hn] at h
  rw [show ((xs[·]?) ∘ fun k => s + 2 * k) = ((evens (xs.toList.drop s)).toArray[·]?) from funext fun k => ?_, h]
  show xs[s + 2 * k]? = (evens (xs.toList.drop s)).toArray[k]?
  have h2 : (evens (xs.toList.drop s)).toArray[k]? = (evens (xs.toList.drop s))[k]? := by simp
  rw [h2, evens_get, List.getElem?_drop]
  simp
theorem step2_range (s n : Nat) (h : s ≤ n) : sliceRange (s : Int) (n : Int) 2 = (List.range ((n - s + 1) / 2)).map fun k => s + 2 * k := by
  unfold sliceRange
  have h1 : ((2 : Int) > 0) := by decide
  by_cases h2 : (s : Int) < n
  · have e : ((n : Int) - s + 2 - 1) / 2 = (((n - s + 1) / 2 : Nat) : Int) := by omega
    simp only [h1, if_true, h2, e, Int.toNat_natCast]
    apply List.map_congr_left
    intro k _
    omega
  · have e : n - s = 0 := by omega
    simp only [h1, if_true, h2, if_false]
    rw [e]
    rfl
theorem step2_none (items : Array Value) : slicePick items none none (some 2) = (evens items.toList).toArray := by
  unfold slicePick
  have hb : sliceBounds none none (some 2) items.size = (((0 : Nat) : Int), (items.size : Int), 2) := rfl
  rw [hb]
  show ((sliceRange ((0 : Nat) : Int) (items.size : Int) 2).filterMap (items[·]?)).toArray = _
  rw [step2_range 0 items.size (Nat.zero_le _), evens_pick items 0 _ rfl, List.drop_zero]
theorem step2_one (items : Array Value) : slicePick items (some 1) none (some 2) = (evens items.toList.tail).toArray := by
  unfold slicePick
  have hb : sliceBounds (some 1) none (some 2) items.size = (((min 1 items.size : Nat) : Int), (items.size : Int), 2) := by
    unfold sliceBounds
    simp
    omega
  rw [hb]
  show ((sliceRange ((min 1 items.size : Nat) : Int) (items.size : Int) 2).filterMap (items[·]?)).toArray = _
  rw [step2_range _ items.size (Nat.min_le_right _ _), evens_pick items _ _ rfl]
  congr 2
  rcases Nat.eq_zero_or_pos items.size with h | h
  · have e : items.toList = [] := by
      apply List.eq_nil_of_length_eq_zero
      rw [Array.length_toList]
      exact h
    rw [e]
    simp
  · rw [show min 1 items.size = 1 by omega, List.drop_one]
theorem vals_evens : ∀ {xs : List V} {its : List Value}, Vals xs its → Vals (evens xs) (evens its)
  | _, _, .nil => .nil
  | _, _, .cons a .nil => .cons a .nil
  | _, _, .cons a (.cons _ t) => .cons a (vals_evens t)
theorem vals_tail : ∀ {xs : List V} {its : List Value}, Vals xs its → Vals xs.tail its.tail
  | _, _, .nil => .nil
  | _, _, .cons _ t => t
def tEv (K : PySem.W.Frag) (te : TE) : TE := fun σ H Q => te σ H fun x H1 => ∃ a xs, x = .ref a ∧ SqL K H1 a xs ∧ ∀ p, H1 p = none → Q (.ref p) (upd H1 p (.lst (evens xs)))
def tOd (K : PySem.W.Frag) (te : TE) : TE := fun σ H Q => te σ H fun x H1 => ∃ a xs, x = .ref a ∧ SqL K H1 a xs ∧ ∀ p, H1 p = none → Q (.ref p) (upd H1 p (.lst (evens xs.tail)))
section
variable {X : Cx}
theorem pe_evens {e : Expr} {te : TE} {k : Nat} {p1 p3 pos : Pos} (he : PE X e te) : PE X (.Subscript e (.Slice none none (some (.Constant (.int 2) k p1)) p3) pos) (tEv X.K te) := by
  refine ⟨fun pins s σ H Q I h => ?_⟩
  refine Subscript_ (thn (he.run pins s σ H _ I h) fun v s1 ⟨x, H1, I1, r1, q1⟩ => ?_)
  obtain ⟨a, xs, ex, hx, q⟩ := q1
  subst ex
  cases r1
  have hst : PO X (some (.Constant (.int 2) k p1)) (tPart (tC (.int 2))) := po_some pe_int
  refine wpAny_Slice (thn (po_none.run pins s1 σ H1 (fun o H2 => o = none ∧ H2 = H1) I1 ⟨rfl, rfl⟩) fun vl s2 ⟨l, H2, I2, pl, el, e2⟩ => ?_)
  subst el e2
  refine thn (po_none.run pins s2 σ H2 (fun o H3 => o = none ∧ H3 = H2) I2 ⟨rfl, rfl⟩) fun vu s3 ⟨u, H3, I3, pu, eu, e3⟩ => ?_
  subst eu e3
  refine thn (hst.run pins s3 σ H3 (fun o H4 => o = some 2 ∧ H4 = H3) I3 ⟨2, rfl, rfl, rfl⟩) fun vs s4 ⟨o, H4, I4, ps, eo, e4⟩ => ?_
  subst eo e4
  have I5 : Inv X pins σ H4 { s4 with heap := s4.heap.push { cls := .type "slice", data := .fields #[vl, vu, vs] } } := I4.kept (t' := s4.toks) fun b ob q => Heap.get?_push_of_some _ q
  obtain ⟨its, r, ht, hz⟩ := I5.list hx
  have hlen := r.length
  show wpAny (model X.prog X.w) X.A (subscriptTail e (.Slice none none (some (.Constant (.int 2) k p1)) p3) (.ref a) (.ref s4.heap.objs.size)) (EP X pins σ Q) X.xe { s4 with heap := s4.heap.push { cls := .type "slice", data := .fields #[vl, vu, vs] } }
  refine tail_any (ops := [.ref a, .ref s4.heap.objs.size]) ht.isList.typeIs (PySem.slot_list_getitem.lookup) ?_ (by with_unfolding_all rfl)
  refine wpAny_getItem_list_slice ht.isList (Heap.IsSliceOf.new _ vl vu vs) pl pu ps (by decide) ?_ (by rw [List.size_toArray]; omega)
  rw [step2_none]
  refine ⟨.ref _, _, I5.laid (t' := s4.toks) (o := .lst (evens xs)) (fun b ob q => Heap.get?_push_of_some _ q) (Nat.le_refl _) ?_, rfl, q _ (I5.hok.fresh (Nat.le_refl _))⟩
  exact ⟨by rw [evens_len]; omega, _, 0, vals_evens r, Heap.get?_push_size _ rfl⟩
theorem pe_odds {e : Expr} {te : TE} {k k2 : Nat} {p1 p2 p3 pos : Pos} (he : PE X e te) : PE X (.Subscript e (.Slice (some (.Constant (.int 1) k2 p2)) none (some (.Constant (.int 2) k p1)) p3) pos) (tOd X.K te) := by
  refine ⟨fun pins s σ H Q I h => ?_⟩
  refine Subscript_ (thn (he.run pins s σ H _ I h) fun v s1 ⟨x, H1, I1, r1, q1⟩ => ?_)
  obtain ⟨a, xs, ex, hx, q⟩ := q1
  subst ex
  cases r1
  have hst : PO X (some (.Constant (.int 2) k p1)) (tPart (tC (.int 2))) := po_some pe_int
  have hs1 : PO X (some (.Constant (.int 1) k2 p2)) (tPart (tC (.int 1))) := po_some pe_int
  refine wpAny_Slice (thn (hs1.run pins s1 σ H1 (fun o H2 => o = some 1 ∧ H2 = H1) I1 ⟨1, rfl, rfl, rfl⟩) fun vl s2 ⟨l, H2, I2, pl, el, e2⟩ => ?_)
  subst el e2
  refine thn (po_none.run pins s2 σ H2 (fun o H3 => o = none ∧ H3 = H2) I2 ⟨rfl, rfl⟩) fun vu s3 ⟨u, H3, I3, pu, eu, e3⟩ => ?_
  subst eu e3
  refine thn (hst.run pins s3 σ H3 (fun o H4 => o = some 2 ∧ H4 = H3) I3 ⟨2, rfl, rfl, rfl⟩) fun vs s4 ⟨o, H4, I4, ps, eo, e4⟩ => ?_
  subst eo e4
  have I5 : Inv X pins σ H4 { s4 with heap := s4.heap.push { cls := .type "slice", data := .fields #[vl, vu, vs] } } := I4.kept (t' := s4.toks) fun b ob q => Heap.get?_push_of_some _ q
  obtain ⟨its, r, ht, hz⟩ := I5.list hx
  have hlen := r.length
  show wpAny (model X.prog X.w) X.A (subscriptTail e (.Slice (some (.Constant (.int 1) k2 p2)) none (some (.Constant (.int 2) k p1)) p3) (.ref a) (.ref s4.heap.objs.size)) (EP X pins σ Q) X.xe { s4 with heap := s4.heap.push { cls := .type "slice", data := .fields #[vl, vu, vs] } }
  refine tail_any (ops := [.ref a, .ref s4.heap.objs.size]) ht.isList.typeIs (PySem.slot_list_getitem.lookup) ?_ (by with_unfolding_all rfl)
  refine wpAny_getItem_list_slice ht.isList (Heap.IsSliceOf.new _ vl vu vs) pl pu ps (by decide) ?_ (by rw [List.size_toArray]; omega)
  rw [step2_one]
  refine ⟨.ref _, _, I5.laid (t' := s4.toks) (o := .lst (evens xs.tail)) (fun b ob q => Heap.get?_push_of_some _ q) (Nat.le_refl _) ?_, rfl, q _ (I5.hok.fresh (Nat.le_refl _))⟩
  exact ⟨by rw [evens_len, List.length_tail]; omega, _, 0, vals_evens (vals_tail r), Heap.get?_push_size _ rfl⟩
end
section
variable {α : Type} {r : Rp α} {K : PySem.W.Frag} {σ : L2.St} {H : Hp} {te : TE}
theorem pr_evens : ∀ {xs : List V} {as : List α}, PR r H xs as → PR r H (evens xs) (evens as)
  | _, _, .nil => .nil
  | _, _, .cons a .nil => .cons a .nil
  | _, _, .cons a (.cons _ t) => .cons a (pr_evens t)
theorem pr_tail : ∀ {xs : List V} {as : List α}, PR r H xs as → PR r H xs.tail as.tail
  | _, _, .nil => .nil
  | _, _, .cons _ t => t
theorem el_evens {p : Addr} {as : List α} (h : Ev te σ H (.ref p)) (hl : LR r H p as) : EvLR r (tEv K te) σ H (evens as) := fun A a Q q =>
  h A a _ fun B b => by
    obtain ⟨xs, h1, h2⟩ := hl.mono (a.trans b)
    exact ⟨p, xs, rfl, sq_of h1, fun l hl => q _ _ (b.trans (.new hl)) ⟨l, rfl, fresh_back b hl, _, upd_same, pr_evens (pr_mono (.new hl) h2)⟩⟩
theorem el_odds {p : Addr} {as : List α} (h : Ev te σ H (.ref p)) (hl : LR r H p as) : EvLR r (tOd K te) σ H (evens as.tail) := fun A a Q q =>
  h A a _ fun B b => by
    obtain ⟨xs, h1, h2⟩ := hl.mono (a.trans b)
    exact ⟨p, xs, rfl, sq_of h1, fun l hl => q _ _ (b.trans (.new hl)) ⟨l, rfl, fresh_back b hl, _, upd_same, pr_evens (pr_tail (pr_mono (.new hl) h2))⟩⟩
end

end

local macro_rules | `(tactic| walk_at "ev") => `(tactic| ((with_reducible apply ev_slS); walk_at "ev"; walk_at "eo"; walk_at "eo"; walk_at "cond"))
def top (i : Nat) : Stmt := PySem.Challenge.pw_splitrooms_k06_boards_doubled.main.body.getD i (.Pass ⟨0, 0, 0, 0⟩)
abbrev s_doubled : Stmt := top 1
abbrev n_doubled : List Str := ["board", "bits", "_"]
theorem sc_doubled : FnScope n_doubled ["board"] (defScope s_doubled) := ⟨rfl, rfl, rfl, by decide +kernel, rfl, by decide +kernel, by decide +kernel⟩
abbrev s_can_halve : Stmt := top 2
abbrev n_can_halve : List Str := ["board"]
theorem sc_can_halve : FnScope n_can_halve ["board"] (defScope s_can_halve) := ⟨rfl, rfl, rfl, by decide +kernel, rfl, by decide +kernel, by decide +kernel⟩
abbrev s_halved : Stmt := top 3
abbrev n_halved : List Str := ["board"]
theorem sc_halved : FnScope n_halved ["board"] (defScope s_halved) := ⟨rfl, rfl, rfl, by decide +kernel, rfl, by decide +kernel, by decide +kernel⟩
abbrev s_l_cell_at : Stmt := top 5
abbrev n_l_cell_at : List Str := ["_law_script", "_law_k"]
theorem sc_l_cell_at : FnScope n_l_cell_at ["_law_script", "_law_k"] (defScope s_l_cell_at) := ⟨rfl, rfl, rfl, by decide +kernel, rfl, by decide +kernel, by decide +kernel⟩
abbrev s_l_text : Stmt := top 6
abbrev n_l_text : List Str := ["_law_draw", "_law_found", "_law_k"]
theorem sc_l_text : FnScope n_l_text ["_law_draw"] (defScope s_l_text) := ⟨rfl, rfl, rfl, by decide +kernel, rfl, by decide +kernel, by decide +kernel⟩
abbrev s_l_board : Stmt := top 7
abbrev n_l_board : List Str := ["_law_script", "_law_many", "_law_first", "_law_second", "_law_step", "_law_k"]
theorem sc_l_board : FnScope n_l_board ["_law_script"] (defScope s_l_board) := ⟨rfl, rfl, rfl, by decide +kernel, rfl, by decide +kernel, by decide +kernel⟩
abbrev s_l_alike : Stmt := top 8
abbrev n_l_alike : List Str := ["_law_found", "_law_due", "_law_k"]
theorem sc_l_alike : FnScope n_l_alike ["_law_found", "_law_due"] (defScope s_l_alike) := ⟨rfl, rfl, rfl, by decide +kernel, rfl, by decide +kernel, by decide +kernel⟩
abbrev s_law : Stmt := top 9
abbrev n_law : List Str := ["_law_script", "_law_board_here", "_law_handed", "_law_twice", "_law_due", "_law_kept", "_law_found", "_law_pairs", "_law_at", "_law_last", "_law_k"]
theorem sc_law : FnScope n_law ["_law_script"] (defScope s_law) := ⟨rfl, rfl, rfl, by decide +kernel, rfl, by decide +kernel, by decide +kernel⟩
structure Top (K : PySem.W.Frag) (mg : Str → Option Value) where
  a_doubled : Addr
  fd_doubled : FuncData
  F_doubled : Fun K "doubled" "doubled" s_doubled a_doubled fd_doubled
  g_doubled : mg "doubled" = some (.ref a_doubled)
  b_doubled : Binds K fd_doubled ["board"] []
  a_can_halve : Addr
  fd_can_halve : FuncData
  F_can_halve : Fun K "can_halve" "can_halve" s_can_halve a_can_halve fd_can_halve
  g_can_halve : mg "can_halve" = some (.ref a_can_halve)
  b_can_halve : Binds K fd_can_halve ["board"] []
  a_halved : Addr
  fd_halved : FuncData
  F_halved : Fun K "halved" "halved" s_halved a_halved fd_halved
  g_halved : mg "halved" = some (.ref a_halved)
  b_halved : Binds K fd_halved ["board"] []
  a_l_cell_at : Addr
  fd_l_cell_at : FuncData
  F_l_cell_at : Fun K "_law_cell_at" "_law_cell_at" s_l_cell_at a_l_cell_at fd_l_cell_at
  g_l_cell_at : mg "_law_cell_at" = some (.ref a_l_cell_at)
  b_l_cell_at : Binds K fd_l_cell_at ["_law_script", "_law_k"] []
  a_l_text : Addr
  fd_l_text : FuncData
  F_l_text : Fun K "_law_text" "_law_text" s_l_text a_l_text fd_l_text
  g_l_text : mg "_law_text" = some (.ref a_l_text)
  b_l_text : Binds K fd_l_text ["_law_draw"] []
  a_l_board : Addr
  fd_l_board : FuncData
  F_l_board : Fun K "_law_board" "_law_board" s_l_board a_l_board fd_l_board
  g_l_board : mg "_law_board" = some (.ref a_l_board)
  b_l_board : Binds K fd_l_board ["_law_script"] []
  a_l_alike : Addr
  fd_l_alike : FuncData
  F_l_alike : Fun K "_law_alike" "_law_alike" s_l_alike a_l_alike fd_l_alike
  g_l_alike : mg "_law_alike" = some (.ref a_l_alike)
  b_l_alike : Binds K fd_l_alike ["_law_found", "_law_due"] []
  a_law : Addr
  fd_law : FuncData
  F_law : Fun K "law" "law" s_law a_law fd_law
  g_law : mg "law" = some (.ref a_law)
  b_law : Binds K fd_law ["_law_script"] []
  z_bool : mg "bool" = none
  z_int : mg "int" = none
  z_isinstance : mg "isinstance" = none
  z_len : mg "len" = none
  z_list : mg "list" = none
  z_range : mg "range" = none
  z_str : mg "str" = none
/-! ### the law's own -/
def cellN (ns : List Int) (k : Nat) : Int := ns.getD k 0
def spCell (K : PySem.W.Frag) : Sp := fun vs H Q _ => ∃ (a : Addr) (ns : List Int) (k : Nat), vs = [.ref a, .int (k : Int)] ∧ SqL K H a (ns.map V.int) ∧ RetV (.int (cellN ns k)) H Q
section
variable {P : Program} {w : World} {K : PySem.W.Frag} {mg : Str → Option Value} {base : Heap}
theorem ok_l_cell_at (T : Top K mg) : FnOk P w K mg base CX0 1 T.a_l_cell_at T.fd_l_cell_at ["_law_script", "_law_k"] (spCell K) := by
  refine T.F_l_cell_at.ok sc_l_cell_at (fun vs H Q E h => ?_) (fun cdv A outer s H vs Q E hr h => ?_)
  · obtain ⟨a, ns, k, rfl, _⟩ := h
    rfl
  · obtain ⟨a, ns, i, rfl, hS, k⟩ := h
    refine ⟨_, (pss_cons (ps_if (pt_cmpR op_lt (pv 1) (pe_callB (r := rLen K) call_len_seq (by rfl) T.z_len (by decide +kernel) (pa_cons (pv 0) pa_nil)) (nomark _)) (pss_one (ps_ret (pe_ix (r := rIxL K) ix_list (pv 0) (pv 1) (fun _ _ => rfl)))) pss_nil)
      (pss_one (ps_ret pe_int))), ?_⟩
    walk_at "when"
    · intro hb H1 e1
      have hlt : i < ns.length := by simpa using hb
      refine s_retk (v := .int (cellN ns i)) (ev_op (by walk_at "ev") (by walk_at "ev") (rv_ixL (ex_l e1 hS) (atI_nat ?_))) (RetV.mono e1 k)
      unfold cellN
      rw [List.getElem?_map, List.getD_eq_getElem?_getD, List.getElem?_eq_getElem hlt]
      rfl
    · intro hb H1 e1
      have hlt : ns.length ≤ i := by simpa using hb
      walk_at "ret"
      have e0 : cellN ns i = 0 := by
        unfold cellN
        rw [List.getD_eq_getElem?_getD, List.getElem?_eq_none hlt]
        rfl
      rw [e0] at k
      exact RetV.mono e1 k
theorem spv_cell {a : Addr} {ns : List Int} {H : Hp} (hS : SqL K H a (ns.map V.int)) (i : Int) (hi : 0 ≤ i) : SpV (spCell K) [.ref a, .int i] H (.int (cellN ns i.toNat)) := fun A e Q q E => ⟨a, ns, i.toNat, by rw [Int.toNat_of_nonneg hi], ex_l e hS, q⟩
end
local macro_rules | `(tactic| walk_at "spv") => `(tactic| (apply spv_cell; walk_at "seq"; decide))
theorem nat_mod (i : Int) (m : Int) (hm : 0 < m) : ∃ n : Nat, i % m = (n : Int) ∧ (n : Int) < m := ⟨(i % m).toNat, (Int.toNat_of_nonneg (Int.emod_nonneg _ (by omega))).symm, by rw [Int.toNat_of_nonneg (Int.emod_nonneg _ (by omega))]; exact Int.emod_lt_of_pos _ hm⟩

def OkS (s : Str) : Prop := s.length ≤ 8 ∧ PyData.strOk s = true
theorem okS_app {a b : Str} (h1 : PyData.strOk a = true) (h2 : PyData.strOk b = true) : PyData.strOk (a ++ b) = true := by
  show (a.cps ++ b.cps).all _ = true
  rw [Array.all_append]
  exact Bool.and_eq_true_iff.mpr ⟨h1, h2⟩
section
variable {P : Program} {w : World} {K : PySem.W.Frag} {mg : Str → Option Value} {base : Heap}
def spTxt6 : Sp := fun vs H Q _ => ∃ i : Int, vs = [.int i] ∧ ∀ s : Str, OkS s → RetV (.str s) H Q
theorem w8_at (k : Nat) (h : k < 8) : atI [V.int 1, .int 2, .int 4, .int 8, .int 16, .int 32, .int 64, .int 128] (k : Int) = some (.int ((2 ^ k : Nat) : Int)) := by
  rcases (by omega : k = 0 ∨ k = 1 ∨ k = 2 ∨ k = 3 ∨ k = 4 ∨ k = 5 ∨ k = 6 ∨ k = 7) with h | h | h | h | h | h | h | h <;> subst h <;> rfl
theorem sign_at (i : Int) (h0 : 0 ≤ i) (h2 : i < 2) : ∃ c, atI ("01" : Str).cps.toList i = some c ∧ PyData.strOk ⟨#[c]⟩ = true := by
  rcases (by omega : i = 0 ∨ i = 1) with h | h <;> subst h
  · exact ⟨48, rfl, by decide +kernel⟩
  · exact ⟨49, rfl, by decide +kernel⟩
theorem len_one (s : Str) (c : Nat) : (s ++ (⟨#[c]⟩ : Str)).length = s.length + 1 := by
  show (s.cps ++ #[c]).size = s.cps.size + 1
  rw [Array.size_append]
  rfl
theorem w8_pos (k : Nat) : (0 : Int) < ((2 ^ k : Nat) : Int) := Int.natCast_pos.mpr (Nat.two_pow_pos k)
theorem w8_lt (k : Nat) (h : k < 8) : ((2 ^ k : Nat) : Int) < 2 ^ 30 := by
  have : 2 ^ k < 2 ^ 30 := Nat.pow_lt_pow_right (by decide) (by omega)
  omega
theorem ok_l_text (T : Top K mg) : FnOk P w K mg base CX0 1 T.a_l_text T.fd_l_text ["_law_draw"] spTxt6 := by
  refine T.F_l_text.ok sc_l_text (fun vs H Q E h => ?_) (fun cdv A outer s H vs Q E hr h => ?_)
  · obtain ⟨i, rfl, _⟩ := h
    rfl
  · obtain ⟨d, rfl, k⟩ := h
    refine ⟨_, (pss_cons (ps_set (i := 1) sc_l_text.nd rfl (Or.inl rfl) pe_str)
      (pss_cons (ps_for PassesOwn.never rfl (pi_range1 (by rfl) T.z_range (pa_cons (pe_op op_mod (pv 0) pe_int) pa_nil)) (pg_name (i := 2) sc_l_text.nd rfl (Or.inl rfl)) (pss_one (ps_set (i := 1) sc_l_text.nd rfl (Or.inl rfl) (pe_op op_add_str (pv 1) (pe_ix ix_str pe_str (pe_op op_mod (pe_op op_fdiv (pe_op op_fdiv (pv 0) pe_int) (pe_ix (r := rIxL K) ix_list (pe_lst (pa_cons pe_int (pa_cons pe_int (pa_cons pe_int (pa_cons pe_int (pa_cons pe_int (pa_cons pe_int (pa_cons pe_int (pa_cons pe_int pa_nil))))))))) (pv 2) (fun _ _ => rfl))) pe_int) (fun _ _ => rfl))))))
      (pss_one (ps_ret (pv 1))))), ?_⟩
    obtain ⟨n, hn, ln⟩ := nat_mod d 9 (by decide)
    walk_at "asg"
    intro H1 e1
    refine q_forR1 (n := n) (ea_cons (ev_is (by walk_at "ev") (congrArg V.int hn)) ea_nil) (by omega) (fun i σ H' => Ex H H' ∧ i ≤ n ∧ ∃ s u, s.length = i ∧ PyData.strOk s = true ∧ σ = [some (.int d), some (.str s), u]) ?_ ?_ ?_
    · intro H2 e2
      exact ⟨e1.trans e2, Nat.zero_le _, _, none, rfl, by decide +kernel, rfl⟩
    · rintro i σ' H' hi ⟨e2, _, s, u, hs, ho, rfl⟩
      show tAsg _ _ _ [some (.int d), some (.str s), some (.int (i : Int))] H'
      obtain ⟨c, hc, hco⟩ := sign_at (d / 9 / ((2 ^ i : Nat) : Int) % 2) (Int.emod_nonneg _ (by decide)) (Int.emod_lt_of_pos _ (by decide))
      refine s_asg (v := .str (s ++ ⟨#[c]⟩)) (ev_op (by walk_at "ev") (ev_op (by walk_at "ev") (ev_op (ev_op (by walk_at "ev") (ev_opL (K := K) (P := NewL [V.int 1, .int 2, .int 4, .int 8, .int 16, .int 32, .int 64, .int 128]) (y := .int (i : Int)) (z := .int ((2 ^ i : Nat) : Int)) (eg_lst (by walk_at "ea") (by decide)) (by walk_at "ev") ?_) (rv_I ⟨w8_pos i, w8_lt i (by omega)⟩)) (by walk_at "ev") (rv_I (by decide))) (rv_ixS (by decide) hc)) (rv_add_str ?_)) ?_
      · rintro A w B _ _ ⟨p, rfl, _, hp⟩
        exact rv_ixL (sq_of hp) (w8_at i (by omega))
      · show s.length + 1 ≤ 100000
        omega
      · intro H3 e3
        exact ⟨e2.trans e3, hi, _, _, by rw [len_one, hs], okS_app ho hco, rfl⟩
    · rintro σ' H2 ⟨e2, _, s, u, hs, ho, rfl⟩
      walk_at "ret"
      exact RetV.mono e2 (k s ⟨by omega, ho⟩)
end

section
variable {P : Program} {w : World} {K : PySem.W.Frag} {mg : Str → Option Value} {base : Heap}
/-- a new board of 1, 2, 4 .. 128 texts -/
def BoardN (ss : List Str) : Prop := ss.length ≤ 128 ∧ 1 ≤ ss.length ∧ (ss.length = 1 ∨ ss.length % 2 = 0) ∧ ∀ s ∈ ss, OkS s
def spBoard6 (K : PySem.W.Frag) : Sp := fun vs H Q _ => ∃ (a : Addr) (ns : List Int), vs = [.ref a] ∧ SqL K H a (ns.map V.int) ∧ ∀ ss : List Str, BoardN ss → RetLR rpStr ss H Q
theorem w8_even (k : Nat) (h : k < 8) : 2 ^ k ≤ 128 ∧ 1 ≤ 2 ^ k ∧ (2 ^ k = 1 ∨ 2 ^ k % 2 = 0) := by
  rcases (by omega : k = 0 ∨ k = 1 ∨ k = 2 ∨ k = 3 ∨ k = 4 ∨ k = 5 ∨ k = 6 ∨ k = 7) with h | h | h | h | h | h | h | h <;> subst h <;> decide
/-- a list of some texts of up to eight signs, by a def that tells one -/
theorem lcSome {K : PySem.W.Frag} {σ : L2.St} {H : Hp} {te : TE} {ta : TA} {j : Nat} {vs : List Nat} {n : Nat} (h : EvA ta σ H [.int (n : Int)]) (hn : n ≤ 40000) (hw : ∀ x, wipe ((wipe σ vs).set j (some x)) vs = wipe σ vs)
    (he : ∀ (i : Nat) H1, Ex H H1 → i < n → EvG te ((wipe σ vs).set j (some (.int (i : Int)))) H1 (fun _ v _ => ∃ s : Str, v = .str s ∧ OkS s)) :
    EvG (tLc (iRng1 ta) (gName j) tYes te vs) σ H (fun A v B => ∃ p ss, v = .ref p ∧ A p = none ∧ LR rpStr B p ss ∧ ss.length = n ∧ ∀ s ∈ ss, OkS s) := fun H0 e Q qq => h H0 e _ fun H1 e1 => ⟨(n : Int), rfl, by omega, by omega, fun Dl hD => by
  refine lc_range (lo := 0) (n := n) (fun i H' => Ex H1 H' ∧ ∃ ss : List Str, H' Dl = some (.lst (ss.map V.str)) ∧ ss.length = i ∧ ∀ s ∈ ss, OkS s) ⟨Ex.new hD, [], upd_same, rfl, by simp⟩ (fun i H' hi p => ?_) fun H' p => ?_
  · obtain ⟨p1, ss, p2, p3, p4⟩ := p
    have e0 : (0 : Int) + (i : Int) = (i : Int) := Int.zero_add _
    rw [e0]
    refine ⟨hw _, ?_⟩
    refine he i H' ((e.trans e1).trans p1) hi H' (Ex.refl H') _ ?_
    rintro v H4 e4 ⟨s, rfl, hs⟩
    refine ⟨_, e4.k p2, sz_lt (by rw [List.length_map]; omega), Ex.mut (p1.trans e4) hD (e4.k p2), ss ++ [s], ?_, by rw [List.length_append, p3]; rfl, ?_⟩
    · rw [upd_same, List.map_append]
      rfl
    · intro x hx
      rcases List.mem_append.mp hx with hx | hx
      · exact p4 x hx
      · rw [List.mem_singleton.mp hx]
        exact hs
  · obtain ⟨p1, ss, p2, p3, p4⟩ := p
    refine qq _ H' (e1.trans p1) ⟨Dl, ss, rfl, fresh_back e1 hD, ⟨_, p2, ?_⟩, p3, p4⟩
    clear p2 p3 p4
    induction ss with
    | nil => exact .nil
    | cons a t ih => exact .cons rfl ih⟩
theorem ok_l_board (T : Top K mg) : FnOk P w K mg base CX0 2 T.a_l_board T.fd_l_board ["_law_script"] (spBoard6 K) := by
  refine T.F_l_board.ok sc_l_board (fun vs H Q E h => ?_) (fun cdv A outer s H vs Q E hr h => ?_)
  · obtain ⟨a, ns, rfl, _⟩ := h
    rfl
  · obtain ⟨a, ns, rfl, hS, k⟩ := h
    refine ⟨_, (pss_cons (ps_set (i := 1) sc_l_board.nd rfl (Or.inl rfl) (pe_ix (r := rIxL K) ix_list (pe_lst (pa_cons pe_int (pa_cons pe_int (pa_cons pe_int (pa_cons pe_int (pa_cons pe_int (pa_cons pe_int (pa_cons pe_int (pa_cons pe_int pa_nil))))))))) (pe_op op_mod (pe_call (ok_l_cell_at T) (hr.mono (by decide)) rfl T.g_l_cell_at T.F_l_cell_at.kp T.b_l_cell_at .nil pass0 (pa_cons (pv 0) (pa_cons pe_int pa_nil))) pe_int) (fun _ _ => rfl)))
      (pss_cons (ps_set (i := 2) sc_l_board.nd rfl (Or.inr rfl) (pe_call (ok_l_cell_at T) (hr.mono (by decide)) rfl T.g_l_cell_at T.F_l_cell_at.kp T.b_l_cell_at .nil pass0 (pa_cons (pv 0) (pa_cons pe_int pa_nil))))
      (pss_cons (ps_set (i := 3) sc_l_board.nd rfl (Or.inr rfl) (pe_call (ok_l_cell_at T) (hr.mono (by decide)) rfl T.g_l_cell_at T.F_l_cell_at.kp T.b_l_cell_at .nil pass0 (pa_cons (pv 0) (pa_cons pe_int pa_nil))))
      (pss_cons (ps_if (pt_cmpR op_eq (pe_op op_mod (pv 2) pe_int) pe_int (nomark _)) (pss_one (ps_ret (pe_lc (own := [("_law_k", 5)]) (g := gName 5) (tt := tYes) rfl sc_l_board.nd (pi_range1 (by rfl) T.z_range (pa_cons (pv 1) pa_nil)) (blkOk_by (N := n_l_board) (sc := defScope s_l_board) (by decide +kernel)) (fun _ _ _ _ _ => pg_name (i := 5) sc_l_board.nd rfl (Or.inl rfl)) (fun _ _ _ _ _ => pts_nil) (fun _ _ _ _ _ => (pe_call (ok_l_text T) (hr.mono (by decide)) rfl T.g_l_text T.F_l_text.kp T.b_l_text .nil pass0 (pa_cons (pe_op op_add (pe_op op_fdiv (pv 2) pe_int) (pe_op op_mul (pe_op op_mod (pv 5) pe_int) (pe_op op_mod (pv 3) pe_int))) pa_nil)))))) pss_nil)
      (pss_cons (ps_set (i := 4) sc_l_board.nd rfl (Or.inr rfl) (pe_op op_mod (pe_op op_mul (pe_op op_add (pe_op op_fdiv (pv 2) pe_int) pe_int) pe_int) pe_int))
      (pss_one (ps_ret (pe_lc (own := [("_law_k", 5)]) (g := gName 5) (tt := tYes) rfl sc_l_board.nd (pi_range1 (by rfl) T.z_range (pa_cons (pv 1) pa_nil)) (blkOk_by (N := n_l_board) (sc := defScope s_l_board) (by decide +kernel)) (fun _ _ _ _ _ => pg_name (i := 5) sc_l_board.nd rfl (Or.inl rfl)) (fun _ _ _ _ _ => pts_nil) (fun _ _ _ _ _ => (pe_call (ok_l_text T) (hr.mono (by decide)) rfl T.g_l_text T.F_l_text.kp T.b_l_text .nil pass0 (pa_cons (pe_op op_add (pe_op op_mod (pe_op op_mul (pv 4) (pe_op op_add (pv 5) pe_int)) pe_int) (pe_op op_mod (pv 3) pe_int)) pa_nil))))))))))), ?_⟩
    obtain ⟨n, hn, ln⟩ := nat_mod (cellN ns (0 : Int).toNat) 8 (by decide)
    have hn8 : n < 8 := by omega
    refine q_asg (v := .int ((2 ^ n : Nat) : Int)) (ev_opL (K := K) (P := NewL [V.int 1, .int 2, .int 4, .int 8, .int 16, .int 32, .int 64, .int 128]) (y := .int (n : Int)) (eg_lst (by walk_at "ea") (by decide)) (ev_is (by walk_at "ev") (congrArg V.int hn)) ?_) ?_
    · rintro A w B _ _ ⟨p, rfl, _, hp⟩
      exact rv_ixL (sq_of hp) (w8_at n hn8)
    intro H1 e1
    have hS1 := ex_l e1 hS
    obtain ⟨b1, b2, b3⟩ := w8_even n hn8
    generalize 2 ^ n = m at b1 b2 b3
    show tSeq _ _ _ [some (.ref a), some (.int (m : Int)), none, none, none, none] H1
    walk_at "asg"
    intro H2 e2
    have hS2 := ex_l e2 hS1
    generalize cellN ns (1 : Int).toNat = x
    show tSeq _ _ _ [some (.ref a), some (.int (m : Int)), some (.int x), none, none, none] H2
    walk_at "asg"
    intro H3 e3
    generalize cellN ns (2 : Int).toNat = y
    show tSeq _ _ _ [some (.ref a), some (.int (m : Int)), some (.int x), some (.int y), none, none] H3
    have hy : -(2 ^ 64) < y % 2304 ∧ y % 2304 < 2 ^ 64 := ⟨by omega, by omega⟩
    walk_at "when"
    · intro _ H4 e4
      refine s_retG (lcSome (K := K) (n := m) (by walk_at "ea") (by omega) (fun _ => rfl) ?_) ?_
      · intro i H5 e5 hi
        refine (ev_callG (R := fun v _ => ∃ s : Str, v = .str s ∧ OkS s) (us := [.int (x / 3 + (i : Int) % 2 * (y % 2304))]) (ea_cons (ev_op (by walk_at "ev") (ev_op (by walk_at "ev") (by walk_at "ev") (rv_I (Or.inl ⟨by omega, by omega⟩))) (by walk_at "rv")) ea_nil) ?_)
        intro B b Q' q' E'
        exact ⟨_, rfl, fun s hs C c => q' _ C c ⟨s, rfl, hs⟩⟩
      · rintro v B b ⟨p, ss, rfl, hp, hl, hlen, hall⟩
        refine k ss ⟨by omega, by omega, by rw [hlen]; exact b3, hall⟩ p B ?_ ?_ hl
        · exact fresh_back (((e1.trans e2).trans e3).trans e4) hp
        · exact (((e1.trans e2).trans e3).trans e4).trans b
    intro _ H4 e4
    walk_at "asg"
    intro H5 e5
    generalize (x / 3 + 1) * 48271 % 65537 = st at *
    show tRet _ _ [some (.ref a), some (.int (m : Int)), some (.int x), some (.int y), some (.int st), none] H5
    refine s_retG (lcSome (K := K) (n := m) (by walk_at "ea") (by omega) (fun _ => rfl) ?_) ?_
    · intro i H6 e6 hi
      refine (ev_callG (R := fun v _ => ∃ s : Str, v = .str s ∧ OkS s) (us := [.int (st * ((i : Int) + 1) % 65537 + y % 2304)]) (ea_cons (ev_op (ev_op (ev_op (by walk_at "ev") (by walk_at "ev") (rv_I (Or.inr ⟨by omega, by omega⟩))) (by walk_at "ev") (rv_I (by decide))) (by walk_at "ev") (by walk_at "rv")) ea_nil) ?_)
      intro B b Q' q' E'
      exact ⟨_, rfl, fun s hs C c => q' _ C c ⟨s, rfl, hs⟩⟩
    · rintro v B b ⟨p, ss, rfl, hp, hl, hlen, hall⟩
      refine k ss ⟨by omega, by omega, by rw [hlen]; exact b3, hall⟩ p B ?_ ?_ hl
      · exact fresh_back ((((e1.trans e2).trans e3).trans e4).trans e5) hp
      · exact ((((e1.trans e2).trans e3).trans e4).trans e5).trans b
end

/-! ### lists of texts compared -/
def dS (ss : List Str) : PyData := .list (ss.map PyData.str)
def OkL (ss : List Str) : Prop := ∀ s ∈ ss, PyData.strOk s = true
theorem lay_strs : ∀ ms : List Str, OkL ms → PyData.canLayAll0 (ms.map PyData.str) = true
  | [], _ => rfl
  | m :: r, h => by
    show (PyData.strOk m && PyData.canLayAll0 (r.map PyData.str)) = true
    rw [lay_strs r fun s hs => h s (List.mem_cons_of_mem _ hs), h m List.mem_cons_self]
    rfl
theorem deep_strs : ∀ ms : List Str, PyData.depthAll (ms.map PyData.str) ≤ 1
  | [] => by simp [PyData.depthAll]
  | m :: r => by
    have := deep_strs r
    show max (PyData.depth (.str m)) (PyData.depthAll (r.map PyData.str)) ≤ 1
    have h0 : PyData.depth (.str m) = 0 := by simp [PyData.depth]
    omega
theorem shaped_dS (ms : List Str) (ho : OkL ms) : SeqAt.shaped (dS ms) = true := by
  unfold SeqAt.shaped
  have h1 : (dS ms).canLay0 = true := lay_strs ms ho
  have h2 : (dS ms).depth ≤ 64 := by
    have := deep_strs ms
    show PyData.depthAll (ms.map PyData.str) + 1 ≤ 64
    omega
  rw [h1, decide_eq_true h2]
  rfl
theorem eqv_strs : ∀ as bs : List Str, PyData.eqvAll (as.map PyData.str) (bs.map PyData.str) = decide (as = bs)
  | [], [] => by simp [PyData.eqvAll]
  | [], _ :: _ => by simp [PyData.eqvAll]
  | _ :: _, [] => by simp [PyData.eqvAll]
  | a :: as, b :: bs => by
    have := eqv_strs as bs
    simp only [List.map_cons, PyData.eqvAll, this, PyData.eqv]
    by_cases h : a = b
    · subst h
      simp
    · simp [h]
theorem eqv_dS (as bs : List Str) : PyData.eqv (dS as) (dS bs) = decide (as = bs) := by
  simp only [dS, PyData.eqv, eqv_strs]
theorem dp_strs {K : PySem.W.Frag} {H : Hp} : ∀ {xs : List V} {ss : List Str}, PR rpStr H xs ss → DpAll K H xs (ss.map PyData.str)
  | _, _, .nil => .nil
  | _, _, .cons a t => by
    rw [show _ = V.str _ from a]
    exact .cons (.str _) (dp_strs t)
section
variable {K : PySem.W.Frag} {σ : L2.St} {H H' : Hp} {ta tb te : TE}
theorem ev_eqSS {as bs : List Str} (ha : EvLR rpStr ta σ H as) (hb : EvLR rpStr tb σ H bs) (oa : OkL as) (ob : OkL bs) : Ev (tOp (rEqD K) ta tb) σ H (.bl (decide (as = bs))) := fun A a Q q =>
  ha A a _ fun _ B b ⟨p, ev, _, xs, h1, h2⟩ => hb B (a.trans b) _ fun _ C c ⟨p', ev', _, ys, h3, h4⟩ => by
    subst ev ev'
    refine ⟨dS as, dS bs, .lst (sq_of (c.k h1)) (dp_strs (pr_mono c h2)), .lst (sq_of h3) (dp_strs h4), shaped_dS _ oa, shaped_dS _ ob, ?_⟩
    rw [eqv_dS]
    exact q C (b.trans c)
theorem ev_eqSV {as bs : List Str} {p p' : Addr} (ha : Ev ta σ H (.ref p)) (hb : Ev tb σ H (.ref p')) (h1 : LR rpStr H p as) (h2 : LR rpStr H p' bs) (oa : OkL as) (ob : OkL bs) : Ev (tOp (rEqD K) ta tb) σ H (.bl (decide (as = bs))) := fun A a Q q =>
  ha A a _ fun B b => hb B (a.trans b) _ fun C c => by
    obtain ⟨xs, g1, g2⟩ := h1.mono ((a.trans b).trans c)
    obtain ⟨ys, g3, g4⟩ := h2.mono ((a.trans b).trans c)
    refine ⟨dS as, dS bs, .lst (sq_of g1) (dp_strs g2), .lst (sq_of g3) (dp_strs g4), shaped_dS _ oa, shaped_dS _ ob, ?_⟩
    rw [eqv_dS]
    exact q C (b.trans c)
end
section
variable {P : Program} {w : World} {K : PySem.W.Frag} {mg : Str → Option Value} {base : Heap}
def spAlikeS : Sp := fun vs H Q _ => ∃ (a b : Addr) (ps qs : List Str), vs = [.ref a, .ref b] ∧ LR rpStr H a ps ∧ LR rpStr H b qs ∧ ps.length ≤ 1000 ∧ qs.length ≤ 1000 ∧ RetV (.bl (decide (ps = qs))) H Q
theorem ok_l_alike (T : Top K mg) : FnOk P w K mg base CX0 1 T.a_l_alike T.fd_l_alike ["_law_found", "_law_due"] spAlikeS := by
  refine T.F_l_alike.ok sc_l_alike (fun vs H Q E h => ?_) (fun cdv A outer s H vs Q E hr h => ?_)
  · obtain ⟨a, b, ps, qs, rfl, _⟩ := h
    rfl
  · obtain ⟨a, b, ps, qs, rfl, ⟨xs, hx, px⟩, ⟨ys, hy, py⟩, lx, ly, k⟩ := h
    refine ⟨_, (pss_cons (ps_if (PW.pt (pw_or (pt_not (pt_val (pe_callB (r := rIsi K) call_isi (by rfl) T.z_isinstance (by decide +kernel) (pa_cons (pv 0) (pa_cons (pe_bltn (v := .ty "list") (by rfl) T.z_list (by decide +kernel) rfl) pa_nil))))) (pw_or1 (pt_cmpR op_ne (pe_callB (r := rLen K) call_len_seq (by rfl) T.z_len (by decide +kernel) (pa_cons (pv 0) pa_nil)) (pe_callB (r := rLen K) call_len_seq (by rfl) T.z_len (by decide +kernel) (pa_cons (pv 1) pa_nil)) (nomark _))))) (pss_one (ps_ret pe_bl)) pss_nil)
      (pss_cons (ps_for PassesOwn.never rfl (pi_range1 (by rfl) T.z_range (pa_cons (pe_callB (r := rLen K) call_len_seq (by rfl) T.z_len (by decide +kernel) (pa_cons (pv 1) pa_nil)) pa_nil)) (pg_name (i := 2) sc_l_alike.nd rfl (Or.inl rfl)) (pss_one (ps_if (PW.pt (pw_or (pt_not (pt_val (pe_callB (r := rIsi K) call_isi (by rfl) T.z_isinstance (by decide +kernel) (pa_cons (pe_ix (r := rIxL K) ix_list (pv 0) (pv 2) (fun _ _ => rfl)) (pa_cons (pe_bltn (v := .ty "str") (by rfl) T.z_str (by decide +kernel) rfl) pa_nil))))) (pw_or1 (pt_cmpR op_ne (pe_ix (r := rIxL K) ix_list (pv 0) (pv 2) (fun _ _ => rfl)) (pe_ix (r := rIxL K) ix_list (pv 1) (pv 2) (fun _ _ => rfl)) (nomark _))))) (pss_one (ps_ret pe_bl)) pss_nil)))
      (pss_one (ps_ret pe_bl)))), ?_⟩
    have lxs := px.length
    have lys := py.length
    walk_at "when"
    · intro hb H1 e1
      walk_at "ret"
      have hne : ¬ ps = qs := by
        rintro rfl
        rw [lxs, lys] at hb
        simp at hb
      rw [decide_eq_false hne] at k
      exact RetV.mono e1 k
    intro hb H1 e1
    have hlen : ps.length = qs.length := by
      have : (xs.length : Int) = ys.length := by simpa [decide_int] using hb
      omega
    refine q_forR1 (n := ys.length) ?_ (by omega) (fun i σ H' => Ex H H' ∧ ps.take i = qs.take i ∧ ∃ u, σ = [some (.ref a), some (.ref b), u]) ?_ ?_ ?_
    · have hy1 := sq_of (K := K) (e1.k hy)
      walk_at "ea"
    · intro H2 e2
      exact ⟨e1.trans e2, rfl, none, rfl⟩
    · rintro i σ' H' hi ⟨e2, ht, u, rfl⟩
      have hiq : i < qs.length := by omega
      have hip : i < ps.length := by omega
      obtain ⟨x, hx1, rfl⟩ := pr_at px (List.getElem?_eq_getElem hip)
      obtain ⟨y, hy1, rfl⟩ := pr_at py (List.getElem?_eq_getElem hiq)
      have ixp : ∀ {B : Hp}, Ex H' B → RV (rIxL K) (.ref a) (.int (i : Int)) B (.str ps[i]) := fun e => rv_ixL (sq_of (e.k (e2.k hx))) (atI_nat hx1)
      have ixq : ∀ {B : Hp}, Ex H' B → RV (rIxL K) (.ref b) (.int (i : Int)) B (.str qs[i]) := fun e => rv_ixL (sq_of (e.k (e2.k hy))) (atI_nat hy1)
      refine s_when (b := !true || !decide (V.str ps[i] = V.str qs[i])) ?_ ?_ ?_
      · exact et_or (et_not (et_test (ev_cb (ea_cons (ev_op (by walk_at "ev") (by walk_at "ev") (ixp (.refl _))) (by walk_at "ea")) (rc_isi tx_str kb_ss)))) fun _ => et_test (ev_op (ev_op (by walk_at "ev") (by walk_at "ev") (ixp (.refl _))) (ev_op (by walk_at "ev") (by walk_at "ev") (ixq (.refl _))) (rv_ne rfl))
      · intro hb H5 e5
        walk_at "ret"
        have hne : ¬ ps = qs := by
          rintro rfl
          simp at hb
        rw [decide_eq_false hne] at k
        exact RetV.mono (e2.trans e5) k
      · intro hb H5 e5
        refine ⟨e2.trans e5, ?_, _, rfl⟩
        have h1 : ps[i] = qs[i] := by simpa [decide_str] using hb
        rw [take_snoc (List.getElem?_eq_getElem hip), take_snoc (List.getElem?_eq_getElem hiq), ht, h1]
    · rintro σ' H' ⟨e2, ht, u, rfl⟩
      walk_at "ret"
      have he : ps = qs := by
        have e5 : ys.length = qs.length := by omega
        rw [e5, List.take_length, ← hlen, List.take_length] at ht
        exact ht
      rw [decide_eq_true he] at k
      exact RetV.mono e2 k
theorem spv_alike {a b : Addr} {ps qs : List Str} {H : Hp} (h1 : LR rpStr H a ps) (h2 : LR rpStr H b qs) (l1 : ps.length ≤ 1000) (l2 : qs.length ≤ 1000) : SpV spAlikeS [.ref a, .ref b] H (.bl (decide (ps = qs))) := fun A e Q q E => ⟨a, b, ps, qs, rfl, h1.mono e, h2.mono e, l1, l2, q⟩
end

section
variable {P : Program} {w : World} {K : PySem.W.Frag} {mg : Str → Option Value} {base : Heap}
def twice {α : Type} (l : List α) : List α := l.flatMap fun a => [a, a]
theorem twice_snoc {α : Type} (l : List α) (i : Nat) (a : α) (h : l[i]? = some a) : twice (l.take (i + 1)) = twice (l.take i) ++ [a, a] := by
  rw [take_snoc h]
  simp [twice]
theorem twice_len {α : Type} : ∀ l : List α, (twice l).length = 2 * l.length
  | [] => rfl
  | a :: t => by
    show (a :: a :: twice t).length = _
    simp only [List.length_cons, twice_len t]
    omega
theorem evens_twice {α : Type} : ∀ l : List α, evens (twice l) = l
  | [] => by simp [twice, evens]
  | a :: t => by
    show evens (a :: a :: twice t) = a :: t
    simp only [evens, evens_twice t]
theorem evens_cons {α : Type} (a : α) : ∀ l : List α, evens (a :: l) = a :: evens l.tail
  | [] => by simp [evens]
  | _ :: _ => by simp [evens]
theorem odds_twice {α : Type} : ∀ l : List α, evens (twice l).tail = l
  | [] => by simp [twice, evens]
  | a :: t => by
    show evens (a :: twice t) = a :: t
    rw [evens_cons, odds_twice t]
theorem twice_get {α : Type} : ∀ (l : List α) (k : Nat), (twice l)[k]? = l[k / 2]?
  | [], k => by simp [twice]
  | a :: t, 0 => rfl
  | a :: t, 1 => rfl
  | a :: t, k + 2 => by
    show (a :: a :: twice t)[k + 2]? = (a :: t)[(k + 2) / 2]?
    rw [show (k + 2) / 2 = k / 2 + 1 by omega, List.getElem?_cons_succ, List.getElem?_cons_succ, List.getElem?_cons_succ]
    exact twice_get t k
/-- the same twice over what is told -/
theorem pr_twice {α : Type} {r : Rp α} {H : Hp} : ∀ {xs : List V} {as : List α}, PR r H xs as → PR r H (twice xs) (twice as)
  | _, _, .nil => .nil
  | _, _, .cons a t => .cons a (.cons a (pr_twice t))
def spDoubled : Sp := fun vs H Q _ => ∃ (a : Addr) (ss : List Str), vs = [.ref a] ∧ LR rpStr H a ss ∧ ss.length ≤ 1000 ∧ RetLR rpStr (twice ss) H Q
theorem ok_doubled (T : Top K mg) : FnOk P w K mg base CX0 1 T.a_doubled T.fd_doubled ["board"] spDoubled := by
  refine T.F_doubled.ok sc_doubled (fun vs H Q E h => ?_) (fun cdv A outer s H vs Q E hr h => ?_)
  · obtain ⟨a, ss, rfl, _⟩ := h
    rfl
  · obtain ⟨a, ss, rfl, ⟨xs, hx, px⟩, hz, k⟩ := h
    refine ⟨_, (pss_one (ps_ret (pe_lc2 (own := [("bits", 1), ("_", 2)]) (vs1 := [2]) (tt := tYes) (tt1 := tYes) rfl sc_doubled.nd (pi_list (pv 0)) (blkOk_by (N := n_doubled) (sc := defScope s_doubled) (by decide +kernel)) (by decide) (fun _ _ _ _ _ => (pg_name (i := 1) sc_doubled.nd rfl (Or.inl rfl))) (fun _ _ _ _ _ => pts_nil) (fun _ _ _ _ _ => (pi_range1 (by rfl) T.z_range (pa_cons pe_int pa_nil))) (fun _ _ _ _ _ => (pg_name (i := 2) sc_doubled.nd rfl (Or.inl rfl))) (fun _ _ _ _ _ => pts_nil) (fun _ _ _ _ _ => (pv 1))))), ?_⟩
    have hxl := px.length
    refine s_retLR (r' := rpStr) (bs := twice ss) ?_ k
    intro A a' Q' q'
    refine ⟨_, rfl, a, rfl, ⟨xs, sq_of (a'.k hx)⟩, fun D hD => ⟨fun i m B => m = xs.length - i ∧ i ≤ xs.length ∧ Ex A B ∧ B D = some (.lst (twice (xs.take i))), ⟨xs.length, by simp, Nat.zero_le _, .new hD, by rw [upd_same]; rfl⟩, ?_⟩⟩
    rintro i m B ⟨rfl, hi, eB, hB⟩
    have hxB := eB.k (a'.k hx)
    by_cases hlt : i < xs.length
    · refine .inr ⟨⟨xs, xs[i], sq_of hxB, by simp [hlt]⟩, fun B => Ex A B ∧ B D = some (.lst (twice (xs.take (i + 1)))), fun B' p' => ⟨xs.length - (i + 1), by omega, rfl, hlt, p'⟩, fun x B' y => ?_⟩
      obtain ⟨e, y⟩ := y
      subst e
      have hxi := y xs (sq_of hxB)
      refine ⟨rfl, 2, rfl, by decide, by decide, fun j k B2 => k = 2 - j ∧ j ≤ 2 ∧ Ex A B2 ∧ B2 D = some (.lst (twice (xs.take i) ++ List.replicate j x)), ⟨2, rfl, by decide, eB, by rw [List.replicate_zero, List.append_nil]; exact hB⟩, ?_⟩
      rintro j k B2 ⟨rfl, hj, e2, hB2⟩
      by_cases hj2 : j < 2
      · refine .inr ⟨hj2, fun B3 => Ex A B3 ∧ B3 D = some (.lst (twice (xs.take i) ++ List.replicate (j + 1) x)), fun B' p' => ⟨2 - (j + 1), by omega, rfl, hj2, p'⟩, fun x' B3 y' => ?_⟩
        obtain ⟨e3, y3⟩ := y'
        subst e3 y3
        refine ⟨rfl, ?_⟩
        refine ⟨x, rfl, _, hB2, ?_, e2.mut hD hB2, ?_⟩
        · refine sz_lt ?_
          rw [List.length_append, List.length_replicate, twice_len, List.length_take]
          omega
        · rw [upd_same, List.append_assoc, List.replicate_succ']
      · have e : j = 2 := by omega
        subst e
        refine .inl ⟨Nat.le_refl _, e2, ?_⟩
        rw [twice_snoc xs i x hxi]
        exact hB2
    · have e : i = xs.length := by omega
      subst e
      rw [List.take_length] at hB
      exact .inl ⟨⟨xs, sq_of hxB, Nat.le_refl _⟩, q' _ B eB ⟨D, rfl, hD, _, hB, pr_twice (pr_mono (a'.trans eB) px)⟩⟩
def canHalve (ss : List Str) : Bool := decide (1 < ss.length) && decide (evens ss = evens ss.tail)
def spHalve : Sp := fun vs H Q _ => ∃ (a : Addr) (ss : List Str), vs = [.ref a] ∧ LR rpStr H a ss ∧ OkL ss ∧ RetV (.bl (canHalve ss)) H Q
theorem evens_sub {α : Type} : ∀ {l : List α} {a : α}, a ∈ evens l → a ∈ l
  | [], _, h => by simp [evens] at h
  | [_], _, h => by simpa [evens] using h
  | x :: y :: t, a, h => by
    simp only [evens, List.mem_cons] at h ⊢
    rcases h with h | h
    · exact .inl h
    · exact .inr (.inr (evens_sub h))
theorem tail_sub {α : Type} {l : List α} {a : α} (h : a ∈ l.tail) : a ∈ l := List.mem_of_mem_tail h
theorem ok_can_halve (T : Top K mg) : FnOk P w K mg base CX0 1 T.a_can_halve T.fd_can_halve ["board"] spHalve := by
  refine T.F_can_halve.ok sc_can_halve (fun vs H Q E h => ?_) (fun cdv A outer s H vs Q E hr h => ?_)
  · obtain ⟨a, ss, rfl, _⟩ := h
    rfl
  · obtain ⟨a, ss, rfl, hL, hO, k⟩ := h
    refine ⟨_, (pss_one (ps_ret (pe_and (pe_cmpR op_gt (pe_callB (r := rLen K) call_len_seq (by rfl) T.z_len (by decide +kernel) (pa_cons (pv 0) pa_nil)) pe_int (nomark _)) (pe_one (pe_cmpR (r := rEqD K) (op_eqD hr.units) (pe_evens (pv 0)) (pe_odds (pv 0)) (nomark _)))))), ?_⟩
    obtain ⟨xs, hx, px⟩ := id hL
    have hxl := px.length
    refine s_retk (v := .bl (canHalve ss)) (ev_andV (ev_is (by walk_at "ev") ?_) fun _ => ev_eqSS (el_evens (by walk_at "ev") hL) (el_odds (by walk_at "ev") hL) (fun s hs => hO s (evens_sub hs)) (fun s hs => hO s (tail_sub (evens_sub hs)))) k
    rw [hxl]
    refine congrArg V.bl (decide_eq_decide.mpr ?_)
    omega
def spHalved : Sp := fun vs H Q _ => ∃ (a : Addr) (ss : List Str), vs = [.ref a] ∧ LR rpStr H a ss ∧ RetLR rpStr (evens ss) H Q
theorem ok_halved (T : Top K mg) : FnOk P w K mg base CX0 1 T.a_halved T.fd_halved ["board"] spHalved := by
  refine T.F_halved.ok sc_halved (fun vs H Q E h => ?_) (fun cdv A outer s H vs Q E hr h => ?_)
  · obtain ⟨a, ss, rfl, _⟩ := h
    rfl
  · obtain ⟨a, ss, rfl, hL, k⟩ := h
    refine ⟨_, (pss_one (ps_ret (pe_evens (pv 0)))), ?_⟩
    exact s_retLR (el_evens (by walk_at "ev") hL) k
theorem spv_halve {a : Addr} {ss : List Str} {H : Hp} (h : LR rpStr H a ss) (ho : OkL ss) : SpV spHalve [.ref a] H (.bl (canHalve ss)) := fun A e Q q E => ⟨a, ss, rfl, h.mono e, ho, q⟩
theorem spl_doubled {a : Addr} {ss : List Str} {H : Hp} (h : LR rpStr H a ss) (hz : ss.length ≤ 1000) : SpLR rpStr spDoubled [.ref a] H (twice ss) := fun A e Q q E => ⟨a, ss, rfl, h.mono e, hz, q⟩
theorem spl_halved {a : Addr} {ss : List Str} {H : Hp} (h : LR rpStr H a ss) : SpLR rpStr spHalved [.ref a] H (evens ss) := fun A e Q q E => ⟨a, ss, rfl, h.mono e, q⟩
end

theorem q_asgT {σ : L2.St} {H : Hp} {te : TE} {g : TG} {v : V} {D : Ends} {tz : TS} (h : Ev te σ H v) (k : ∀ B, Ex H B → g v σ B (tz D)) : tSeq (tAsg te g) tz D σ H := h H (.refl H) _ k
theorem ixN_nat {n k : Nat} (h : k < n) : ixN n (k : Int) = some k := by
  unfold ixN
  rw [if_pos (by omega), if_pos (by omega)]
  rfl
theorem pr_setS {H H' : Hp} : ∀ {xs : List V} {ss : List Str} (_ : PR rpStr H xs ss) (t : Nat) (s : Str), PR rpStr H' (xs.set t (.str s)) (ss.set t s)
  | _, _, .nil, _, _ => .nil
  | _, _, .cons a r, 0, s => .cons rfl (pr_setS0 r)
  | _, _, .cons a r, t + 1, s => .cons a (pr_setS r t s)
where pr_setS0 : ∀ {xs : List V} {ss : List Str} (_ : PR rpStr H xs ss), PR rpStr H' xs ss
  | _, _, .nil => .nil
  | _, _, .cons a r => .cons a (pr_setS0 r)
theorem cut_a (c : Nat) (r : List Nat) : cutS ⟨(c :: r).toArray⟩ none (some 1) = ⟨#[c]⟩ := by
  unfold cutS
  rw [HT.sIx_none, show (some (1 : Int)) = some ((1 : Nat) : Int) from rfl, HT.sIx_nat]
  show (⟨(((c :: r).toArray.toList.drop 0).take (min 1 (c :: r).toArray.size - 0)).toArray⟩ : Str) = _
  simp
theorem cut_b (c : Nat) (r : List Nat) : cutS ⟨(c :: r).toArray⟩ (some 1) none = ⟨r.toArray⟩ := by
  unfold cutS
  rw [HT.sIx_none, show (some (1 : Int)) = some ((1 : Nat) : Int) from rfl, HT.sIx_nat]
  show (⟨(((c :: r).toArray.toList.drop (min 1 (c :: r).toArray.size)).take ((c :: r).toArray.size - min 1 (c :: r).toArray.size)).toArray⟩ : Str) = _
  simp
def flipT (s : Str) : Str := match s.cps.toList with
  | [] => ⟨#[49, 48]⟩
  | c :: r => ⟨(r ++ [if c = 49 then 48 else 49]).toArray⟩
theorem str_of (s : Str) : s = ⟨s.cps.toList.toArray⟩ := rfl
theorem flip_ne (s : Str) : flipT s ≠ s := by
  rw [str_of s]
  generalize s.cps.toList = l
  cases l with
  | nil => decide +kernel
  | cons c r =>
    show (⟨(r ++ [if c = 49 then 48 else 49]).toArray⟩ : Str) ≠ ⟨(c :: r).toArray⟩
    intro h
    have h2 : r ++ [if c = 49 then 48 else 49] = c :: r := by
      have := congrArg (fun s : Str => s.cps.toList) h
      simpa using this
    have h3 := congrArg (List.count c) h2
    rw [List.count_append, List.count_cons_self] at h3
    have h4 : List.count c [if c = 49 then 48 else 49] = 0 := by
      rw [List.count_eq_zero]
      intro h5
      have h6 := List.mem_singleton.mp h5
      by_cases h7 : c = 49
      · rw [if_pos h7] at h6; omega
      · rw [if_neg h7] at h6; omega
    omega
theorem ok_toL (l : List Nat) : PyData.strOk ⟨l.toArray⟩ = l.all (· < 0x110000) := by
  show l.toArray.all _ = _
  simp
theorem flip_ok (s : Str) (h : PyData.strOk s = true) : PyData.strOk (flipT s) = true := by
  rw [str_of s] at h ⊢
  generalize s.cps.toList = l at h ⊢
  cases l with
  | nil => decide +kernel
  | cons c r =>
    show PyData.strOk ⟨(r ++ [if c = 49 then 48 else 49]).toArray⟩ = true
    rw [ok_toL] at h ⊢
    rw [List.all_append]
    have h1 : r.all (· < 0x110000) = true := by
      rw [List.all_cons] at h
      exact (Bool.and_eq_true_iff.mp h).2
    rw [h1]
    by_cases h7 : c = 49
    · rw [if_pos h7]; rfl
    · rw [if_neg h7]; rfl
/-- a text told otherwise: what was doubled can't be halved -/
theorem flip_no {ss : List Str} {t : Nat} (ht : t < (twice ss).length) {s : Str} (hs : (twice ss)[t]? = some s) : canHalve ((twice ss).set t (flipT s)) = false := by
  have hne := flip_ne s
  unfold canHalve
  refine Bool.and_eq_false_iff.mpr (.inr (decide_eq_false fun h => ?_))
  have h1 := congrArg (fun l : List Str => l[t / 2]?) h
  simp only [evens_get] at h1
  rw [List.getElem?_tail] at h1
  have g0 := twice_get ss (2 * (t / 2))
  have g1 := twice_get ss (2 * (t / 2) + 1)
  have gt := twice_get ss t
  rw [show 2 * (t / 2) / 2 = t / 2 by omega] at g0
  rw [show (2 * (t / 2) + 1) / 2 = t / 2 by omega] at g1
  rcases Nat.mod_two_eq_zero_or_one t with e | e
  · have e1 : 2 * (t / 2) = t := by omega
    rw [e1, List.getElem?_set_self ht, List.getElem?_set_ne (by omega)] at h1
    rw [e1] at g1
    rw [g1, ← gt, hs] at h1
    exact hne (Option.some.inj h1)
  · have e1 : 2 * (t / 2) + 1 = t := by omega
    rw [e1, List.getElem?_set_self ht, List.getElem?_set_ne (by omega), g0, ← gt, hs] at h1
    exact hne (Option.some.inj h1).symm
def pairsOf (ss : List Str) : List Str := (List.range ss.length).map fun i => ss.getD (i / 2 * 2) ⟨#[]⟩
theorem twice_is (ss : List Str) : (List.range (2 * ss.length)).map (fun i => ss.getD (i / 2) ⟨#[]⟩) = twice ss := by
  apply List.ext_getElem?
  intro i
  rw [twice_get, List.getElem?_map]
  by_cases h : i < 2 * ss.length
  · rw [List.getElem?_range h]
    show some (ss.getD (i / 2) _) = _
    rw [List.getD_eq_getElem?_getD, List.getElem?_eq_getElem (by omega : i / 2 < ss.length)]
    rfl
  · rw [List.getElem?_eq_none (by rw [List.length_range]; omega), List.getElem?_eq_none (by omega)]
    rfl
theorem pairs_iff {ss : List Str} (h : ss.length % 2 = 0) : (evens ss = evens ss.tail) ↔ (ss = pairsOf ss) := by
  have gp : ∀ i, (pairsOf ss)[i]? = if i < ss.length then ss[i / 2 * 2]? else none := fun i => by
    unfold pairsOf
    rw [List.getElem?_map]
    by_cases hi : i < ss.length
    · rw [List.getElem?_range hi, if_pos hi]
      show some (ss.getD (i / 2 * 2) _) = _
      rw [List.getD_eq_getElem?_getD, List.getElem?_eq_getElem (by omega : i / 2 * 2 < ss.length)]
      rfl
    · rw [List.getElem?_eq_none (by rw [List.length_range]; omega), if_neg hi]
      rfl
  constructor
  · intro e
    apply List.ext_getElem?
    intro i
    rw [gp]
    by_cases hi : i < ss.length
    · rw [if_pos hi]
      rcases Nat.mod_two_eq_zero_or_one i with m | m
      · rw [show i / 2 * 2 = i by omega]
      · have h1 := congrArg (fun l : List Str => l[i / 2]?) e
        simp only [evens_get] at h1
        rw [List.getElem?_tail, show 2 * (i / 2) + 1 = i by omega, show 2 * (i / 2) = i / 2 * 2 by omega] at h1
        exact h1.symm
    · rw [if_neg hi, List.getElem?_eq_none (by omega)]
  · intro e
    apply List.ext_getElem?
    intro k
    rw [evens_get, evens_get, List.getElem?_tail]
    have h1 := congrArg (fun l : List Str => l[2 * k + 1]?) e
    simp only [gp] at h1
    by_cases hi : 2 * k + 1 < ss.length
    · rw [if_pos hi, show (2 * k + 1) / 2 * 2 = 2 * k by omega] at h1
      exact h1.symm
    · rw [List.getElem?_eq_none (by omega), List.getElem?_eq_none (by omega)]
theorem bits_last (s : Str) (h : s.cps.toList ≠ []) (b : Bool) (hb : b = !decide (V.str (cutS s none (some 1)) = V.str "1")) (c : Nat) (hc : atI ("01" : Str).cps.toList (if b then 1 else 0) = some c) : cutS s (some 1) none ++ (⟨#[c]⟩ : Str) = flipT s := by
  rw [str_of s] at h hb ⊢
  generalize s.cps.toList = l at h hb ⊢
  cases l with
  | nil => exact absurd rfl h
  | cons d r =>
    rw [cut_a] at hb
    rw [cut_b]
    show _ = (⟨(r ++ [if d = 49 then 48 else 49]).toArray⟩ : Str)
    have e1 : ∀ c : Nat, (⟨r.toArray⟩ : Str) ++ (⟨#[c]⟩ : Str) = ⟨(r ++ [c]).toArray⟩ := fun c => by
      show (⟨r.toArray ++ #[c]⟩ : Str) = _
      simp
    rw [e1]
    have hd : decide (V.str (⟨#[d]⟩ : Str) = V.str "1") = decide (d = 49) := by
      rw [decide_str]
      refine decide_eq_decide.mpr ⟨fun z => ?_, fun z => by subst z; decide +kernel⟩
      have := congrArg (fun s : Str => s.cps.toList) z
      exact List.head_eq_of_cons_eq this
    rw [hd] at hb
    by_cases h7 : d = 49
    · rw [decide_eq_true h7] at hb
      subst hb
      rw [if_pos h7]
      cases hc
      rfl
    · rw [decide_eq_false h7] at hb
      subst hb
      rw [if_neg h7]
      cases hc
      rfl
section
variable {P : Program} {w : World} {K : PySem.W.Frag} {mg : Str → Option Value} {base : Heap}
local macro_rules | `(tactic| walk_at "spv") => `(tactic| first | exact spv_alike (by with_reducible assumption) (by with_reducible assumption) (by omega) (by omega) | exact spv_halve (by with_reducible assumption) (by with_reducible assumption))
set_option maxHeartbeats 2000000 in
theorem ok_law (T : Top K mg) : FnOk P w K mg base CX0 4 T.a_law T.fd_law ["_law_script"] (spLaw K) := by
  refine T.F_law.ok sc_law (fun vs H Q E h => ?_) (fun cdv A outer s H vs Q E hr h => ?_)
  · obtain ⟨a, ns, rfl, _⟩ := h
    rfl
  · obtain ⟨a, ns, rfl, hS, hl, k⟩ := h
    refine ⟨_, (pss_cons (ps_set (i := 1) sc_law.nd rfl (Or.inr rfl) (pe_call (ok_l_board T) (hr.mono (by decide)) rfl T.g_l_board T.F_l_board.kp T.b_l_board .nil pass0 (pa_cons (pv 0) pa_nil)))
      (pss_cons (ps_set (i := 2) sc_law.nd rfl (Or.inl rfl) (pe_callTy (r := rList K) call_list_of (by rfl) T.z_list (by decide +kernel) (pa_cons (pv 1) pa_nil)))
      (pss_cons (ps_set (i := 3) sc_law.nd rfl (Or.inl rfl) (pe_call (ok_doubled T) (hr.mono (by decide)) rfl T.g_doubled T.F_doubled.kp T.b_doubled .nil pass0 (pa_cons (pv 2) pa_nil)))
      (pss_cons (ps_setLc (i := 4) (own := [("_law_k", 10)]) (g := gName 10) (tt := tYes) rfl sc_law.nd rfl rfl (sw_true rfl rfl rfl (by decide +kernel)) (pi_range1 (by rfl) T.z_range (pa_cons (pe_op op_mul pe_int (pe_callB (r := rLen K) call_len_seq (by rfl) T.z_len (by decide +kernel) (pa_cons (pv 1) pa_nil))) pa_nil)) (blkOk_by (N := n_law) (sc := defScope s_law) (by decide +kernel)) (fun _ _ _ _ _ => pg_name (i := 10) sc_law.nd rfl (Or.inl rfl)) (fun _ _ _ _ _ => pts_nil) (fun _ _ _ _ _ => (pe_ix (r := rIxL K) ix_list (pv 1) (pe_op op_fdiv (pv 10) pe_int) (fun _ _ => rfl))))
      (pss_cons (ps_if (PW.pt (pw_or (pt_not (pt_val (pe_call (ok_l_alike T) (hr.mono (by decide)) rfl T.g_l_alike T.F_l_alike.kp T.b_l_alike .nil pass0 (pa_cons (pv 2) (pa_cons (pv 1) pa_nil))))) (pw_or1 (pt_not (pt_val (pe_call (ok_l_alike T) (hr.mono (by decide)) rfl T.g_l_alike T.F_l_alike.kp T.b_l_alike .nil pass0 (pa_cons (pv 3) (pa_cons (pv 4) pa_nil)))))))) (pss_one (ps_ret pe_bl)) pss_nil)
      (pss_cons (ps_set (i := 5) sc_law.nd rfl (Or.inl rfl) (pe_callTy (r := rList K) call_list_of (by rfl) T.z_list (by decide +kernel) (pa_cons (pv 3) pa_nil)))
      (pss_cons (ps_if (PW.pt (pw_or (pt_cmpR op_notBl (pe_call (ok_can_halve T) (hr.mono (by decide)) rfl T.g_can_halve T.F_can_halve.kp T.b_can_halve .nil pass0 (pa_cons (pv 3) pa_nil)) pe_bl (nomark _)) (pw_or (pt_not (pt_val (pe_call (ok_l_alike T) (hr.mono (by decide)) rfl T.g_l_alike T.F_l_alike.kp T.b_l_alike .nil pass0 (pa_cons (pe_call (ok_halved T) (hr.mono (by decide)) rfl T.g_halved T.F_halved.kp T.b_halved .nil pass0 (pa_cons (pv 3) pa_nil)) (pa_cons (pv 1) pa_nil))))) (pw_or1 (pt_not (pt_val (pe_call (ok_l_alike T) (hr.mono (by decide)) rfl T.g_l_alike T.F_l_alike.kp T.b_l_alike .nil pass0 (pa_cons (pv 3) (pa_cons (pv 5) pa_nil))))))))) (pss_one (ps_ret pe_bl)) pss_nil)
      (pss_cons (ps_if (pt_cmpR op_notBl (pe_call (ok_can_halve T) (hr.mono (by decide)) rfl T.g_can_halve T.F_can_halve.kp T.b_can_halve .nil pass0 (pa_cons (pe_slice (r := rSlL K) sl_list (pv 1) po_none (po_some pe_int)) pa_nil)) pe_bl (nomark _)) (pss_one (ps_ret pe_bl)) pss_nil)
      (pss_cons (ps_if (pt_cmpR op_gt (pe_op op_mod (pe_call (ok_l_cell_at T) (hr.mono (by decide)) rfl T.g_l_cell_at T.F_l_cell_at.kp T.b_l_cell_at .nil pass0 (pa_cons (pv 0) (pa_cons pe_int pa_nil))) pe_int) pe_int (nomark _)) (pss_cons (ps_set (i := 6) sc_law.nd rfl (Or.inl rfl) (pe_call (ok_can_halve T) (hr.mono (by decide)) rfl T.g_can_halve T.F_can_halve.kp T.b_can_halve .nil pass0 (pa_cons (pv 2) pa_nil)))
      (pss_cons (ps_setLc (i := 7) (own := [("_law_k", 10)]) (g := gName 10) (tt := tYes) rfl sc_law.nd rfl rfl (sw_true rfl rfl rfl (by decide +kernel)) (pi_range1 (by rfl) T.z_range (pa_cons (pe_callB (r := rLen K) call_len_seq (by rfl) T.z_len (by decide +kernel) (pa_cons (pv 1) pa_nil)) pa_nil)) (blkOk_by (N := n_law) (sc := defScope s_law) (by decide +kernel)) (fun _ _ _ _ _ => pg_name (i := 10) sc_law.nd rfl (Or.inl rfl)) (fun _ _ _ _ _ => pts_nil) (fun _ _ _ _ _ => (pe_ix (r := rIxL K) ix_list (pv 1) (pe_op op_mul (pe_op op_fdiv (pv 10) pe_int) pe_int) (fun _ _ => rfl))))
      (pss_one (ps_ret (pe_and (pe_callB (r := rIsi K) call_isi (by rfl) T.z_isinstance (by decide +kernel) (pa_cons (pv 6) (pa_cons (pe_bltn (v := .ty "bool") (by rfl) T.z_bool (by decide +kernel) rfl) pa_nil))) (pe_one (pe_cmpR op_eq (pv 6) (pe_and (pe_cmpR op_gt (pe_callB (r := rLen K) call_len_seq (by rfl) T.z_len (by decide +kernel) (pa_cons (pv 1) pa_nil)) pe_int (nomark _)) (pe_one (pe_cmpR (r := rEqD K) (op_eqD hr.units) (pv 1) (pv 7) (nomark _)))) (nomark _)))))))) pss_nil)
      (pss_cons (ps_set (i := 8) sc_law.nd rfl (Or.inl rfl) (pe_op op_mod (pe_call (ok_l_cell_at T) (hr.mono (by decide)) rfl T.g_l_cell_at T.F_l_cell_at.kp T.b_l_cell_at .nil pass0 (pa_cons (pv 0) (pa_cons pe_int pa_nil))) (pe_callB (r := rLen K) call_len_seq (by rfl) T.z_len (by decide +kernel) (pa_cons (pv 5) pa_nil))))
      (pss_cons (ps_set (i := 9) sc_law.nd rfl (Or.inl rfl) (pe_ix ix_str pe_str (pe_callTy call_int1 (by rfl) T.z_int (by decide +kernel) (pa_cons (pe_cmpR op_ne (pe_slice sl_str (pe_ix (r := rIxL K) ix_list (pv 5) (pv 8) (fun _ _ => rfl)) po_none (po_some pe_int)) pe_str (nomark _)) pa_nil)) (fun _ _ => rfl)))
      (pss_cons (ps_if (pt_cmpR op_eq (pe_ix (r := rIxL K) ix_list (pv 5) (pv 8) (fun _ _ => rfl)) pe_str (nomark _)) (pss_one (ps_set (i := 9) sc_law.nd rfl (Or.inl rfl) pe_str)) pss_nil)
      (pss_cons (ps_asg (pe_op op_add_str (pe_slice sl_str (pe_ix (r := rIxL K) ix_list (pv 5) (pv 8) (fun _ _ => rfl)) (po_some pe_int) po_none) (pv 9)) (pg_sub (pv 5) (pv 8) set_list))
      (pss_one (ps_ret (pe_cmpR op_isBl (pe_call (ok_can_halve T) (hr.mono (by decide)) rfl T.g_can_halve T.F_can_halve.kp T.b_can_halve .nil pass0 (pa_cons (pv 5) pa_nil)) pe_bl (nomark _))))))))))))))))), ?_⟩
    -- board
    refine q_asgG (P := fun _ v C => ∃ p ss, v = .ref p ∧ LR rpStr C p ss ∧ BoardN ss) (ev_callG (R := fun v C => ∃ p ss, v = .ref p ∧ LR rpStr C p ss ∧ BoardN ss) (us := [.ref a]) (by walk_at "ea") ?_) ?_
    · intro B b Q' q' E'
      exact ⟨a, ns, rfl, ex_l b hS, fun ss hb p C _ e l => q' _ C e ⟨p, ss, rfl, l, hb⟩⟩
    rintro v H1 e1 ⟨pb, ss, rfl, L1, l128, l1, lpar, lall⟩
    have hO : OkL ss := fun s hs => (lall s hs).2
    have hOT : OkL (twice ss) := fun s hs => by
      obtain ⟨x, hx, hs⟩ := List.mem_flatMap.mp hs
      have : s = x := by simpa using hs
      exact this ▸ hO x hx
    have hS1 := ex_l e1 hS
    have tl := twice_len ss
    show tSeq _ _ _ [some (.ref a), some (.ref pb), none, none, none, none, none, none, none, none, none] H1
    refine q_asgLR (r' := rpStr) (bs := ss) (ev_listLR (by walk_at "ev") L1) ?_
    intro ph H2 hph e2 L2
    show tSeq _ _ _ [some (.ref a), some (.ref pb), some (.ref ph), none, none, none, none, none, none, none, none] H2
    refine q_asgLR (r' := rpStr) (bs := twice ss) (ev_callLR (by walk_at "ea") (spl_doubled L2 (by omega))) ?_
    intro pt H3 hpt e3 L3
    have L1c := (L1.mono e2).mono e3
    show tSeq _ _ _ [some (.ref a), some (.ref pb), some (.ref ph), some (.ref pt), none, none, none, none, none, none, none] H3
    obtain ⟨xs, hx, px⟩ := id L1c
    have hxl := px.length
    refine q_asgLR (r' := rpStr) (bs := ((List.range (2 * ss.length)).filter fun _ => true).map fun i => ss.getD (i / 2) ⟨#[]⟩) (lcRR (r' := rpStr) (n := 2 * ss.length) (fun _ => true) _ (ea_cons (ev_is (by walk_at "ev") (congrArg V.int (by rw [hxl]; omega))) ea_nil) (by omega) (fun _ => rfl) ?_ ?_) ?_
    · intro i H4 e4 _
      exact fun H5 e5 Q' q' => q' H5 (.refl H5)
    · intro i H4 e4 hi _
      refine ev_R (v := .str (ss.getD (i / 2) ⟨#[]⟩)) (ev_op (y := .int ((i / 2 : Nat) : Int)) (by walk_at "ev") (ev_is (by walk_at "ev") (congrArg V.int (by omega))) (rv_ixL (sq_of (e4.k hx)) (atI_nat ?_))) fun _ _ => rfl
      obtain ⟨x, h1, h2⟩ := pr_at px (List.getElem?_eq_getElem (by omega : i / 2 < ss.length))
      rw [h1, List.getD_eq_getElem?_getD, List.getElem?_eq_getElem (by omega : i / 2 < ss.length)]
      exact congrArg some h2
    rw [List.filter_eq_self.mpr (fun _ _ => rfl), twice_is]
    intro pd H4 hpd e4 L4
    show tSeq _ _ _ [some (.ref a), some (.ref pb), some (.ref ph), some (.ref pt), some (.ref pd), none, none, none, none, none, none] H4
    have A4 := L1c.mono e4
    have B4 := (L2.mono e3).mono e4
    have C4 := L3.mono e4
    refine q_when (b := !decide (ss = ss) || !decide (twice ss = twice ss)) (et_or (et_not (et_test (ev_call (by walk_at "ea") (spv_alike B4 A4 (by omega) (by omega))))) fun _ => et_not (et_test (ev_call (by walk_at "ea") (spv_alike C4 L4 (by omega) (by omega))))) ?_ ?_
    · intro hb
      exact absurd hb (by simp)
    intro _ H5 e5
    have A5 := A4.mono e5
    have B5 := B4.mono e5
    have C5 := C4.mono e5
    refine q_asgLR (r' := rpStr) (bs := twice ss) (ev_listLR (by walk_at "ev") C5) ?_
    intro pk H6 hpk e6 L6
    have A6 := A5.mono e6
    have B6 := B5.mono e6
    have C6 := C5.mono e6
    show tSeq _ _ _ [some (.ref a), some (.ref pb), some (.ref ph), some (.ref pt), some (.ref pd), some (.ref pk), none, none, none, none, none] H6
    have ch1 : canHalve (twice ss) = true := by
      unfold canHalve
      rw [evens_twice, odds_twice, decide_eq_true rfl, decide_eq_true (by omega)]
      rfl
    refine q_when (b := !decide (canHalve (twice ss) = true) || (!decide (ss = ss) || !decide (twice ss = twice ss))) (et_or (et_test (ev_op (ev_call (by walk_at "ea") (spv_halve C6 hOT)) ev_c rv_notB)) fun _ => et_or (et_not (et_test (ev_callL2 (by rw [show EvLR rpStr _ _ _ ss = EvLR rpStr _ _ _ (evens (twice ss)) by rw [evens_twice]]; exact ev_callLR (by walk_at "ea") (spl_halved C6)) (by walk_at "ev") fun p B b l => spv_alike l (A6.mono b) (by omega) (by omega)))) fun _ => et_not (et_test (ev_call (by walk_at "ea") (spv_alike C6 L6 (by omega) (by omega))))) ?_ ?_
    · intro hb
      rw [ch1] at hb
      exact absurd hb (by simp)
    intro _ H7 e7
    have A7 := A6.mono e7
    have B7 := B6.mono e7
    have K7 := L6.mono e7
    have ch2 : canHalve (ss.take 1) = false := by
      unfold canHalve
      rw [decide_eq_false (by rw [List.length_take]; omega)]
      rfl
    refine q_when (b := !decide (canHalve (ss.take 1) = false)) (et_test (ev_op (ev_callL1 (el_slice (K := K) 1 (by walk_at "ev") A7 (show EvO _ _ _ (some 1) by walk_at "eo")) fun p B l => spv_halve l fun s hs => hO s (List.mem_of_mem_take hs)) ev_c rv_notB)) ?_ ?_
    · intro hb
      rw [ch2] at hb
      exact absurd hb (by simp)
    intro _ H8 e8
    have A8 := A7.mono e8
    have B8 := B7.mono e8
    have K8 := K7.mono e8
    have hS8 := ex_l e8 (ex_l e7 (ex_l e6 (ex_l e5 (ex_l e4 (ex_l e3 (ex_l e2 hS1))))))
    obtain ⟨n3, h3, l3⟩ := nat_mod (cellN ns (3 : Int).toNat) 3 (by decide)
    have C : (0 : Int) = ((0 : Nat) : Int) := rfl
    refine q_when (b := decide ((0 : Int) < cellN ns (3 : Int).toNat % 3)) (et_test (ev_op (ev_op (ev_call (by walk_at "ea") (by apply spv_cell; exact hS8; decide)) ev_c (rv_I (by decide))) ev_c rv_I0)) ?_ ?_
    · intro _ H9 e9
      have A9 := A8.mono e9
      have B9 := B8.mono e9
      refine q_asg (v := .bl (canHalve ss)) (ev_call (by walk_at "ea") (spv_halve B9 hO)) ?_
      intro H10 e10
      have A10 := A9.mono e10
      show tSeq _ _ _ [some (.ref a), some (.ref pb), some (.ref ph), some (.ref pt), some (.ref pd), some (.ref pk), some (.bl (canHalve ss)), none, none, none, none] H10
      obtain ⟨ys, hy, py⟩ := id A10
      have hyl := py.length
      refine q_asgLR (r' := rpStr) (bs := ((List.range ss.length).filter fun _ => true).map fun i => ss.getD (i / 2 * 2) ⟨#[]⟩) (lcRR (r' := rpStr) (n := ss.length) (fun _ => true) _ (ea_cons (ev_is (by walk_at "ev") (congrArg V.int (by rw [hyl]))) ea_nil) (by omega) (fun _ => rfl) ?_ ?_) ?_
      · intro i H4 e4 _
        exact fun H5 e5 Q' q' => q' H5 (.refl H5)
      · intro i H4 e4 hi _
        have hi2 : i / 2 * 2 < ss.length := by omega
        refine ev_R (v := .str (ss.getD (i / 2 * 2) ⟨#[]⟩)) (ev_op (y := .int ((i / 2 * 2 : Nat) : Int)) (by walk_at "ev") (ev_is (ev_op (by walk_at "ev") (by walk_at "ev") (rv_I (Or.inr ⟨by omega, by omega⟩))) (congrArg V.int (by omega))) (rv_ixL (sq_of (e4.k hy)) (atI_nat ?_))) fun _ _ => rfl
        obtain ⟨x, h1, h2⟩ := pr_at py (List.getElem?_eq_getElem hi2)
        rw [h1, List.getD_eq_getElem?_getD, List.getElem?_eq_getElem hi2]
        exact congrArg some h2
      rw [List.filter_eq_self.mpr (fun _ _ => rfl), show (List.range ss.length).map (fun i => ss.getD (i / 2 * 2) ⟨#[]⟩) = pairsOf ss from rfl]
      intro pp H11 hpp e11 L11
      have A11 := A10.mono e11
      show tRet _ _ [some (.ref a), some (.ref pb), some (.ref ph), some (.ref pt), some (.ref pd), some (.ref pk), some (.bl (canHalve ss)), some (.ref pp), none, none, none] H11
      have hOP : OkL (pairsOf ss) := fun s hs => by
        obtain ⟨i, hi, rfl⟩ := List.mem_map.mp hs
        have hi := List.mem_range.mp hi
        have hi2 : i / 2 * 2 < ss.length := by omega
        rw [List.getD_eq_getElem?_getD, List.getElem?_eq_getElem hi2]
        exact hO _ (List.getElem_mem hi2)
      obtain ⟨zs, hz, pz⟩ := id A11
      have hzl := pz.length
      refine s_retk (v := .bl (true && decide (V.bl (canHalve ss) = V.bl (decide (1 < ss.length) && decide (ss = pairsOf ss))))) (ev_andV (ev_cb (by walk_at "ea") (rc_isi tx_bl kb_bb)) fun _ => ev_op (by walk_at "ev") (ev_andV (ev_is (v := .bl (decide ((1 : Int) < (zs.length : Int)))) (ev_op (ev_cb (by walk_at "ea") (by walk_at "rc")) ev_c rv_I0) (by rw [hzl]; exact congrArg V.bl (decide_eq_decide.mpr (by omega)))) fun _ => ev_eqSV (by walk_at "ev") (by walk_at "ev") A11 L11 hO hOP) (rv_eq rfl)) ?_
      have hfin : canHalve ss = (decide (1 < ss.length) && decide (ss = pairsOf ss)) := by
        unfold canHalve
        by_cases hg : 1 < ss.length
        · rw [decide_eq_decide.mpr (pairs_iff (by omega))]
        · rw [decide_eq_false hg]
          rfl
      rw [← hfin, decide_eq_true rfl]
      exact fun B _ => k B
    intro _ H9 e9
    have K9 := K8.mono e9
    have hS9 := ex_l e9 hS8
    obtain ⟨ks, hk, pk'⟩ := id K9
    have hkl := pk'.length
    have hkn : (ks.length : Int) = ((2 * ss.length : Nat) : Int) := by omega
    obtain ⟨t, ht, lt⟩ := nat_mod (cellN ns (4 : Int).toNat) (ks.length : Int) (by omega)
    refine q_asg (v := .int (t : Int)) (ev_is (ev_op (ev_call (by walk_at "ea") (by apply spv_cell; exact hS9; decide)) (by walk_at "ev") (rv_I (by show (0 : Int) < _; omega))) (congrArg V.int ht)) ?_
    intro H10 e10
    have htl : t < (twice ss).length := by omega
    obtain ⟨x, hx1, hx2⟩ := pr_at pk' (List.getElem?_eq_getElem htl)
    have hs0 : (twice ss)[t]? = some (twice ss)[t] := List.getElem?_eq_getElem htl
    have hsm : (twice ss)[t] ∈ twice ss := List.getElem_mem htl
    have hsO := hOT _ hsm
    have hsL : (twice ss)[t].length ≤ 8 := by
      obtain ⟨x, hx, hs⟩ := List.mem_flatMap.mp hsm
      have : (twice ss)[t] = x := by simpa using hs
      rw [this]
      exact (lall x hx).1
    have hx3 : x = V.str (twice ss)[t] := hx2
    subst hx3
    generalize (twice ss)[t] = s at hs0 hsO hsL hx1
    have ixk : ∀ {B : Hp}, Ex H9 B → RV (rIxL K) (.ref pk) (.int (t : Int)) B (.str s) := fun e => rv_ixL (sq_of (e.k hk)) (atI_nat hx1)
    show tSeq _ _ _ [some (.ref a), some (.ref pb), some (.ref ph), some (.ref pt), some (.ref pd), some (.ref pk), none, none, some (.int (t : Int)), none, none] H10
    generalize hbb : (!decide (V.str (cutS s none (some 1)) = V.str "1")) = b
    obtain ⟨c, hc, _⟩ := sign_at (if b then 1 else 0) (by split <;> decide) (by split <;> decide)
    refine q_asg (v := .str ⟨#[c]⟩) (ev_op ev_c (ev_cb (ea_cons (ev_is (ev_op (ev_slS (s := s) (ev_op (by walk_at "ev") (by walk_at "ev") (ixk e10)) (by walk_at "eo") (show EvO _ _ _ (some 1) by walk_at "eo") (by omega)) ev_c (rv_ne rfl)) (congrArg V.bl hbb)) ea_nil) rc_intB) (rv_ixS (by decide) hc)) ?_
    intro H11 e11
    show tSeq _ _ _ [some (.ref a), some (.ref pb), some (.ref ph), some (.ref pt), some (.ref pd), some (.ref pk), none, none, some (.int (t : Int)), some (.str ⟨#[c]⟩), none] H11
    have hu : ∃ u : Str, u.length ≤ 8 ∧ cutS s (some 1) none ++ u = flipT s ∧ (s = ("" : Str) → u = ("10" : Str)) ∧ (¬ s = ("" : Str) → u = ⟨#[c]⟩) := by
      by_cases h : s = ("" : Str)
      · refine ⟨("10" : Str), by decide +kernel, ?_, fun _ => rfl, fun n => absurd h n⟩
        rw [h]
        decide +kernel
      · refine ⟨⟨#[c]⟩, by show 1 ≤ 8; decide, bits_last s (fun z => h ?_) b hbb.symm c hc, fun e => absurd e h, fun _ => rfl⟩
        rw [str_of s, z]
        rfl
    obtain ⟨u, hul, hfl, hu1, hu2⟩ := hu
    refine q_ifAsg (v := .str u) (b := decide (V.str s = V.str "")) (et_test (ev_op (ev_op (by walk_at "ev") (by walk_at "ev") (ixk (e10.trans e11))) ev_c (rv_eq rfl))) ?_ ?_ ?_
    · intro hb
      have : s = ("" : Str) := by simpa [decide_str] using hb
      rw [hu1 this]
      exact ev_c
    · intro hb
      have : ¬ s = ("" : Str) := by simpa [decide_str] using hb
      rw [hu2 this]
      rfl
    intro H12 e12
    show tSeq _ _ _ [some (.ref a), some (.ref pb), some (.ref ph), some (.ref pt), some (.ref pd), some (.ref pk), none, none, some (.int (t : Int)), some (.str u), none] H12
    have EK := (e10.trans e11).trans e12
    have hcl : (cutS s (some 1) none).length ≤ 8 := by
      unfold cutS
      show (List.toArray _).size ≤ 8
      rw [List.size_toArray]
      refine Nat.le_trans (List.length_take_le' _ _) (Nat.le_trans (by rw [List.length_drop]; exact Nat.sub_le _ _) ?_)
      show s.cps.toList.length ≤ 8
      rw [Array.length_toList]
      exact hsL
    have hev : Ev (tOp (fun x y H Q => ∃ i j, x = V.str i ∧ y = V.str j ∧ i.length + j.length ≤ sizeLine ∧ Q (.str (i ++ j)) H) (tSl rSlS (tOp (rIxL K) (tVar 5) (tVar 8)) (tPart (tC (.int 1))) tNoPart) (tVar 9)) [some (.ref a), some (.ref pb), some (.ref ph), some (.ref pt), some (.ref pd), some (.ref pk), none, none, some (.int (t : Int)), some (.str u), none] H12 (.str (flipT s)) :=
      ev_is (ev_op (ev_slS (s := s) (ev_op (by walk_at "ev") (by walk_at "ev") (ixk EK)) (show EvO _ _ _ (some 1) by walk_at "eo") (by walk_at "eo") (by omega)) (by walk_at "ev") (rv_add_str (by omega))) (congrArg V.str hfl)
    refine q_asgT hev fun H13 e13 => ?_
    have hk13 := e13.k (EK.k hk)
    refine ⟨_, rfl, _, rfl, pk, ks, (t : Int), t, rfl, rfl, hk13, ixN_nat (by omega), ?_⟩
    have LK : LR rpStr (upd H13 pk (.lst (ks.set t (.str (flipT s))))) pk ((twice ss).set t (flipT s)) := by
      refine ⟨_, upd_same, ?_⟩
      exact pr_setS pk' t _
    have hOK : OkL ((twice ss).set t (flipT s)) := fun x hx => by
      rcases List.mem_or_eq_of_mem_set hx with h | h
      · exact hOT x h
      · rw [h]
        exact flip_ok s hsO
    refine s_retk (v := .bl (decide (canHalve ((twice ss).set t (flipT s)) = false))) (ev_op (ev_call (by walk_at "ea") (spv_halve LK hOK)) ev_c rv_isB) ?_
    rw [flip_no htl hs0, decide_eq_true rfl]
    exact fun B _ => k B
end

theorem all_mk {l : PySem.W.OpenLaw} {w : World} {K : PySem.W.Frag} {h : Heap} {mg : Str → Option Value} {fa : Addr} (X : K.In h) (G : h.Ns mainGlobals mg) (hfa : mg "law" = some (.ref fa))
    {f0 : Addr} {od0 an0 : Option Addr} {sl0 : Array (Option Value)} {oc0 kV0 dc0 pm0 cd0 ct0 : Value}
    {f1 : Addr} {od1 an1 : Option Addr} {sl1 : Array (Option Value)} {oc1 kV1 dc1 pm1 cd1 ct1 : Value}
    {f2 : Addr} {od2 an2 : Option Addr} {sl2 : Array (Option Value)} {oc2 kV2 dc2 pm2 cd2 ct2 : Value}
    {f3 : Addr} {od3 an3 : Option Addr} {sl3 : Array (Option Value)} {oc3 kV3 dc3 pm3 cd3 ct3 : Value}
    {f4 : Addr} {od4 an4 : Option Addr} {sl4 : Array (Option Value)} {oc4 kV4 dc4 pm4 cd4 ct4 : Value}
    {f5 : Addr} {od5 an5 : Option Addr} {sl5 : Array (Option Value)} {oc5 kV5 dc5 pm5 cd5 ct5 : Value}
    {f6 : Addr} {od6 an6 : Option Addr} {sl6 : Array (Option Value)} {oc6 kV6 dc6 pm6 cd6 ct6 : Value}
    {f7 : Addr} {od7 an7 : Option Addr} {sl7 : Array (Option Value)} {oc7 kV7 dc7 pm7 cd7 ct7 : Value}
    (a0 : PySem.W.nsIn K mainGlobals "doubled" = some (some (.ref f0)))
    (l0 : K.lookup f0 = some ⟨oc0, od0, .func (PySem.W.fnOf "doubled" "doubled" (defArgs s_doubled) (defBody s_doubled) (defScope s_doubled) .none kV0 dc0 pm0 an0 cd0 ct0), sl0⟩)
    (c0 : PySem.W.codeIn K cd0 "doubled" = true) (k0 : PySem.W.keepIn K (.ref f0) = true)
    (a1 : PySem.W.nsIn K mainGlobals "can_halve" = some (some (.ref f1)))
    (l1 : K.lookup f1 = some ⟨oc1, od1, .func (PySem.W.fnOf "can_halve" "can_halve" (defArgs s_can_halve) (defBody s_can_halve) (defScope s_can_halve) .none kV1 dc1 pm1 an1 cd1 ct1), sl1⟩)
    (c1 : PySem.W.codeIn K cd1 "can_halve" = true) (k1 : PySem.W.keepIn K (.ref f1) = true)
    (a2 : PySem.W.nsIn K mainGlobals "halved" = some (some (.ref f2)))
    (l2 : K.lookup f2 = some ⟨oc2, od2, .func (PySem.W.fnOf "halved" "halved" (defArgs s_halved) (defBody s_halved) (defScope s_halved) .none kV2 dc2 pm2 an2 cd2 ct2), sl2⟩)
    (c2 : PySem.W.codeIn K cd2 "halved" = true) (k2 : PySem.W.keepIn K (.ref f2) = true)
    (a3 : PySem.W.nsIn K mainGlobals "_law_cell_at" = some (some (.ref f3)))
    (l3 : K.lookup f3 = some ⟨oc3, od3, .func (PySem.W.fnOf "_law_cell_at" "_law_cell_at" (defArgs s_l_cell_at) (defBody s_l_cell_at) (defScope s_l_cell_at) .none kV3 dc3 pm3 an3 cd3 ct3), sl3⟩)
    (c3 : PySem.W.codeIn K cd3 "_law_cell_at" = true) (k3 : PySem.W.keepIn K (.ref f3) = true)
    (a4 : PySem.W.nsIn K mainGlobals "_law_text" = some (some (.ref f4)))
    (l4 : K.lookup f4 = some ⟨oc4, od4, .func (PySem.W.fnOf "_law_text" "_law_text" (defArgs s_l_text) (defBody s_l_text) (defScope s_l_text) .none kV4 dc4 pm4 an4 cd4 ct4), sl4⟩)
    (c4 : PySem.W.codeIn K cd4 "_law_text" = true) (k4 : PySem.W.keepIn K (.ref f4) = true)
    (a5 : PySem.W.nsIn K mainGlobals "_law_board" = some (some (.ref f5)))
    (l5 : K.lookup f5 = some ⟨oc5, od5, .func (PySem.W.fnOf "_law_board" "_law_board" (defArgs s_l_board) (defBody s_l_board) (defScope s_l_board) .none kV5 dc5 pm5 an5 cd5 ct5), sl5⟩)
    (c5 : PySem.W.codeIn K cd5 "_law_board" = true) (k5 : PySem.W.keepIn K (.ref f5) = true)
    (a6 : PySem.W.nsIn K mainGlobals "_law_alike" = some (some (.ref f6)))
    (l6 : K.lookup f6 = some ⟨oc6, od6, .func (PySem.W.fnOf "_law_alike" "_law_alike" (defArgs s_l_alike) (defBody s_l_alike) (defScope s_l_alike) .none kV6 dc6 pm6 an6 cd6 ct6), sl6⟩)
    (c6 : PySem.W.codeIn K cd6 "_law_alike" = true) (k6 : PySem.W.keepIn K (.ref f6) = true)
    (a7 : PySem.W.nsIn K mainGlobals "law" = some (some (.ref f7)))
    (l7 : K.lookup f7 = some ⟨oc7, od7, .func (PySem.W.fnOf "law" "law" (defArgs s_law) (defBody s_law) (defScope s_law) .none kV7 dc7 pm7 an7 cd7 ct7), sl7⟩)
    (c7 : PySem.W.codeIn K cd7 "law" = true) (k7 : PySem.W.keepIn K (.ref f7) = true)
    (z0 : PySem.W.nsIn K mainGlobals "bool" = some none)
    (z1 : PySem.W.nsIn K mainGlobals "int" = some none)
    (z2 : PySem.W.nsIn K mainGlobals "isinstance" = some none)
    (z3 : PySem.W.nsIn K mainGlobals "len" = some none)
    (z4 : PySem.W.nsIn K mainGlobals "list" = some none)
    (z5 : PySem.W.nsIn K mainGlobals "range" = some none)
    (z6 : PySem.W.nsIn K mainGlobals "str" = some none) :
    ∃ fd : FuncData, (∀ (s : Shared) (v : Value), BindsTo s fd ⟨[v], []⟩ [("_law_script", v)]) ∧ ∀ base : Heap, K.In base → base.Ns mainGlobals mg → FnOk l.prog w K mg base CX0 4 fa fd ["_law_script"] (spLaw K) := by
  have e := hfa.symm.trans (PySem.W.mg_of X G a7)
  cases e
  let T : Top K mg := { a_doubled := f0, fd_doubled := _, F_doubled := fun_mk (st := s_doubled) l0 c0 k0, g_doubled := PySem.W.mg_of X G a0, b_doubled := (fun_mk (st := s_doubled) l0 c0 k0).binds (ps := ["board"]) fun _ _ _ _ _ _ us hl => (match us, hl with | [_], _ => rfl), a_can_halve := f1, fd_can_halve := _, F_can_halve := fun_mk (st := s_can_halve) l1 c1 k1, g_can_halve := PySem.W.mg_of X G a1, b_can_halve := (fun_mk (st := s_can_halve) l1 c1 k1).binds (ps := ["board"]) fun _ _ _ _ _ _ us hl => (match us, hl with | [_], _ => rfl), a_halved := f2, fd_halved := _, F_halved := fun_mk (st := s_halved) l2 c2 k2, g_halved := PySem.W.mg_of X G a2, b_halved := (fun_mk (st := s_halved) l2 c2 k2).binds (ps := ["board"]) fun _ _ _ _ _ _ us hl => (match us, hl with | [_], _ => rfl), a_l_cell_at := f3, fd_l_cell_at := _, F_l_cell_at := fun_mk (st := s_l_cell_at) l3 c3 k3, g_l_cell_at := PySem.W.mg_of X G a3, b_l_cell_at := (fun_mk (st := s_l_cell_at) l3 c3 k3).binds (ps := ["_law_script", "_law_k"]) fun _ _ _ _ _ _ us hl => (match us, hl with | [_, _], _ => rfl), a_l_text := f4, fd_l_text := _, F_l_text := fun_mk (st := s_l_text) l4 c4 k4, g_l_text := PySem.W.mg_of X G a4, b_l_text := (fun_mk (st := s_l_text) l4 c4 k4).binds (ps := ["_law_draw"]) fun _ _ _ _ _ _ us hl => (match us, hl with | [_], _ => rfl), a_l_board := f5, fd_l_board := _, F_l_board := fun_mk (st := s_l_board) l5 c5 k5, g_l_board := PySem.W.mg_of X G a5, b_l_board := (fun_mk (st := s_l_board) l5 c5 k5).binds (ps := ["_law_script"]) fun _ _ _ _ _ _ us hl => (match us, hl with | [_], _ => rfl), a_l_alike := f6, fd_l_alike := _, F_l_alike := fun_mk (st := s_l_alike) l6 c6 k6, g_l_alike := PySem.W.mg_of X G a6, b_l_alike := (fun_mk (st := s_l_alike) l6 c6 k6).binds (ps := ["_law_found", "_law_due"]) fun _ _ _ _ _ _ us hl => (match us, hl with | [_, _], _ => rfl), a_law := fa, fd_law := _, F_law := fun_mk (st := s_law) l7 c7 k7, g_law := PySem.W.mg_of X G a7, b_law := (fun_mk (st := s_law) l7 c7 k7).binds (ps := ["_law_script"]) fun _ _ _ _ _ _ us hl => (match us, hl with | [_], _ => rfl), z_bool := PySem.W.mg_none_of X G z0, z_int := PySem.W.mg_none_of X G z1, z_isinstance := PySem.W.mg_none_of X G z2, z_len := PySem.W.mg_none_of X G z3, z_list := PySem.W.mg_none_of X G z4, z_range := PySem.W.mg_none_of X G z5, z_str := PySem.W.mg_none_of X G z6 }
  exact ⟨_, fun s v => .of_eq rfl, fun base _ _ => ok_law (P := l.prog) (w := w) (base := base) T⟩
theorem walk {l : PySem.W.OpenLaw} {q : Program} {loose : List Str} {XP : (Str → Option Value) → Heap → Prop} {YP : World → Heap → Prop} {d : DefRec} {K : Params → PySem.W.Frag} (hn : l.most = some 63) (hdf : d.params.defaults = [])
    (hY : ∀ (w : World) (h : Heap), YP w h → (K w.params).In h)
    (F : ∀ (w : World) (mg : Str → Option Value) (fa : Addr) (h : Heap), (K w.params).In h → h.Ns mainGlobals mg → mg d.name = some (.ref fa) →
      ∃ fd : FuncData, (∀ (s : Shared) (u : Value), BindsTo s fd ⟨[u], []⟩ [("_law_script", u)]) ∧ ∀ base : Heap, (K w.params).In base → base.Ns mainGlobals mg → FnOk l.prog w (K w.params) mg base CX0 4 fa fd ["_law_script"] (spLaw (K w.params))) :
    PySem.W.WalkO q loose XP YP l.row.toRowW d [] (fun f vs => PySem.call f vs) :=
  L2.walk_of (n := 63) (k := 4) (x := "_law_script") (CX := fun _ => CX0) (sp := fun w => spLaw (K w.params)) hn (by decide) hdf ⟨rfl, by decide, by decide⟩ hY F (fun _ _ a ns hl _ hS => ⟨a, ns, rfl, hS, hl, fun _ => rfl⟩) fun _ _ _ _ _ z => z
end Vf
open PySem PySem.W PyProof.Rows
set_option maxRecDepth 100000 in
set_option maxHeartbeats 0 in
theorem PySem.Challenge.cw_splitrooms_k06_boards_doubled_holds : PySem.Challenge.rw_splitrooms_k06_boards_doubled.Holds := by
  w_on; o_law; k_head; (case hw => w_witness2)
  k_fill
  refine Vf.walk (l := PySem.Challenge.rw_splitrooms_k06_boards_doubled) rfl rfl (fun w h Y => PySem.W.kIn_of Y) ?F
  case F =>
    intro w mg fa h KX G hmg
    refine' Vf.all_mk KX G hmg ?a0 ?l0 ?c0 ?k0 ?a1 ?l1 ?c1 ?k1 ?a2 ?l2 ?c2 ?k2 ?a3 ?l3 ?c3 ?k3 ?a4 ?l4 ?c4 ?k4 ?a5 ?l5 ?c5 ?k5 ?a6 ?l6 ?c6 ?k6 ?a7 ?l7 ?c7 ?k7 ?z0 ?z1 ?z2 ?z3 ?z4 ?z5 ?z6
    (case a0 => k_is)
    (case l0 => k_is)
    (case c0 => k_is)
    (case k0 => k_is)
    (case a1 => k_is)
    (case l1 => k_is)
    (case c1 => k_is)
    (case k1 => k_is)
    (case a2 => k_is)
    (case l2 => k_is)
    (case c2 => k_is)
    (case k2 => k_is)
    (case a3 => k_is)
    (case l3 => k_is)
    (case c3 => k_is)
    (case k3 => k_is)
    (case a4 => k_is)
    (case l4 => k_is)
    (case c4 => k_is)
    (case k4 => k_is)
    (case a5 => k_is)
    (case l5 => k_is)
    (case c5 => k_is)
    (case k5 => k_is)
    (case a6 => k_is)
    (case l6 => k_is)
    (case c6 => k_is)
    (case k6 => k_is)
    (case a7 => k_is)
    (case l7 => k_is)
    (case c7 => k_is)
    (case k7 => k_is)
    (case z0 => k_is)
    (case z1 => k_is)
    (case z2 => k_is)
    (case z3 => k_is)
    (case z4 => k_is)
    (case z5 => k_is)
    (case z6 => k_is)
