import PyProof.Rows.All
import Wide.All
import OpenK.AllK
import Wide.FinOn
import HandS.ForMost
import HandS.Lambda
import HandS.More
import HandS.IsInst
import HandS.FStr
import HandS.StrMore
import HandS.Walk
import HandS.Star
import HandS.SortInts
import HandS.SortRule
import HandS.EndTab
import HandS.ForExc
import HandS.HotCalls
import HandS.TryOnly
import HandS.Exc
import HandS.ExcIs
import HandS.ExcCtx
import PySem.Challenge.RW_splitrooms_k01_mixed_names
set_option Elab.async false
set_option linter.all false
set_option maxRecDepth 100000
namespace Vf
open PySem L2
/-! ### heaps that grow: what stood stands; a table of code objects that was known is known -/
def lamQ : Str := Str.ofString "joined" ++ Str.ofString ".<locals>." ++ Str.ofString "<lambda>"
structure Ex (H H' : Hp) : Prop where
  keep : ∀ (a : Addr) (o : HO), H a = some o → (∀ ps, o ≠ .tbl ps) → H' a = some o
  dom : ∀ a : Addr, H' a = none → H a = none
  tabs : ∀ P : Addr, LamX.TabS H P lamQ → LamX.TabS H' P lamQ
theorem Ex.k {H H' : Hp} {a : Addr} {o : HO} (e : Ex H H') (h : H a = some o) (n : ∀ ps, o ≠ .tbl ps := by intro _ z; cases z) : H' a = some o := e.keep a o h n
theorem Ex.refl (H : Hp) : Ex H H := ⟨fun _ _ h _ => h, fun _ h => h, fun _ h => h⟩
theorem Ex.trans {H H1 H2 : Hp} (a : Ex H H1) (b : Ex H1 H2) : Ex H H2 :=
  ⟨fun x o h n => b.keep x o (a.keep x o h n) n, fun x h => a.dom x (b.dom x h), fun P h => b.tabs P (a.tabs P h)⟩
theorem Ex.of {H H' : Hp} (e : ∀ a o, H a = some o → H' a = some o) : Ex H H' := by
  refine ⟨fun a o h _ => e a o h, fun a h => ?_, fun P t => LamX.TabS.ext t e⟩
  cases q : H a with
  | none => rfl
  | some o =>
    rw [e a o q] at h
    cases h
theorem Ex.new {H : Hp} {p : Addr} {o : HO} (h : H p = none) : Ex H (upd H p o) := .of fun a u q => by
  rw [upd_ne (ne_of_none q h)]
  exact q
/-- a list that was not there ahead may change -/
theorem Ex.mut {H H' : Hp} {p : Addr} {o : HO} {xs : List V} (e : Ex H H') (h : H p = none) (hp : H' p = some (.lst xs)) : Ex H (upd H' p o) := by
  refine ⟨fun a u q n => ?_, fun a q => ?_, fun P t => ?_⟩
  · rw [upd_ne (ne_of_none q h)]
    exact e.keep a u q n
  · by_cases ha : a = p
    · rw [ha]
      exact h
    · rw [upd_ne ha] at q
      exact e.dom a q
  · obtain ⟨ps, h1, h2, h3⟩ := e.tabs P t
    refine ⟨ps, by rw [upd_ne (ne_of h1 hp (by intro z; cases z))]; exact h1, h2, fun pos cv hc => ?_⟩
    obtain ⟨c, e1, e2⟩ := h3 pos cv hc
    exact ⟨c, e1, by rw [upd_ne (ne_of e2 hp (by intro z; unfold LamX.CodeO at z; cases z))]; exact e2⟩
theorem fresh_back {H H' : Hp} {p : Addr} (e : Ex H H') (h : H' p = none) : H p = none := e.dom p h
theorem ex_l {K : PySem.W.Frag} {H H' : Hp} {a : Addr} {xs : List V} (e : Ex H H') (h : SqL K H a xs) : SqL K H' a xs :=
  h.elim (fun r => .inl (r.elim (fun r => .inl (e.k r)) fun ⟨o, r⟩ => .inr ⟨o, e.k r⟩)) .inr
theorem ex_t {K : PySem.W.Frag} {H H' : Hp} {a : Addr} {xs : List V} (e : Ex H H') (h : SqT K H a xs) : SqT K H' a xs :=
  h.elim (fun r => .inl (r.elim (fun r => .inl (e.k r)) fun ⟨o, r⟩ => .inr ⟨o, e.k r⟩)) .inr
theorem sq_of {K : PySem.W.Frag} {H : Hp} {a : Addr} {xs : List V} (h : H a = some (.lst xs)) : SqL K H a xs := SqL.of h
theorem st_of {K : PySem.W.Frag} {H : Hp} {a : Addr} {xs : List V} (h : H a = some (.tup xs)) : SqT K H a xs := SqT.of h
theorem sz_of {n : Nat} (h : n ≤ 100000) : n ≤ sizeLine := Nat.le_trans h (by decide)
theorem sz_lt {n : Nat} (h : n < 100000) : n < sizeLine := Nat.lt_of_lt_of_le h (by decide)

/-! ### what a reading comes to, in every heap that has grown out of this one -/
/-- P: the heap ahead, the value, the heap behind -/
def EvG (te : TE) (σ : L2.St) (H : Hp) (P : Hp → V → Hp → Prop) : Prop := ∀ A, Ex H A → ∀ Q : VK, (∀ v B, Ex A B → P A v B → Q v B) → te σ A Q
def Ev (te : TE) (σ : L2.St) (H : Hp) (v : V) : Prop := ∀ A, Ex H A → ∀ Q : VK, (∀ B, Ex A B → Q v B) → te σ A Q
def EvT (t : TT) (σ : L2.St) (H : Hp) (b : Bool) : Prop := ∀ A, Ex H A → ∀ Q : Bool → Hp → Prop, (∀ B, Ex A B → Q b B) → t σ A Q
def EvA (t : TA) (σ : L2.St) (H : Hp) (vs : List V) : Prop := ∀ A, Ex H A → ∀ Q : List V → Hp → Prop, (∀ B, Ex A B → Q vs B) → t σ A Q
def EvO (t : TO) (σ : L2.St) (H : Hp) (o : Option Int) : Prop := ∀ A, Ex H A → ∀ Q : Option Int → Hp → Prop, (∀ B, Ex A B → Q o B) → t σ A Q
def RV (r : R2) (x y : V) (H : Hp) (z : V) : Prop := ∀ A, Ex H A → ∀ Q : VK, (∀ B, Ex A B → Q z B) → r x y A Q
def RC (r : List V → Hp → VK → Prop) (vs : List V) (H : Hp) (z : V) : Prop := ∀ A, Ex H A → ∀ Q : VK, (∀ B, Ex A B → Q z B) → r vs A Q
def RetV (v : V) (H : Hp) (Q : VK) : Prop := ∀ B, Ex H B → Q v B
def SpV (sp : Sp) (vs : List V) (H : Hp) (z : V) : Prop := ∀ A, Ex H A → ∀ Q : VK, RetV z A Q → ∀ E : XK, sp vs A Q E
/-- a new tuple, a new list, of just these -/
abbrev NewT (xs : List V) : Hp → V → Hp → Prop := fun A v B => ∃ p, v = .ref p ∧ A p = none ∧ B p = some (.tup xs)
abbrev NewL (xs : List V) : Hp → V → Hp → Prop := fun A v B => ∃ p, v = .ref p ∧ A p = none ∧ B p = some (.lst xs)
section
variable {K : PySem.W.Frag} {σ : L2.St} {H H' : Hp} {ta tb tc te tx : TE} {t u : TT} {x y z v : V} {r r' : R2} {P P' : Hp → V → Hp → Prop}
theorem Ev.mono (e : Ex H H') (h : Ev te σ H v) : Ev te σ H' v := fun A a => h A (e.trans a)
theorem EvT.mono {b : Bool} (e : Ex H H') (h : EvT t σ H b) : EvT t σ H' b := fun A a => h A (e.trans a)
theorem EvA.mono {ta : TA} {vs : List V} (e : Ex H H') (h : EvA ta σ H vs) : EvA ta σ H' vs := fun A a => h A (e.trans a)
theorem EvG.mono (e : Ex H H') (h : EvG te σ H P) : EvG te σ H' P := fun A a => h A (e.trans a)
theorem RetV.mono {Q : VK} (e : Ex H H') (k : RetV v H Q) : RetV v H' Q := fun B b => k B (e.trans b)
theorem EvG.imp (h : EvG te σ H P) (i : ∀ A v B, Ex H A → Ex A B → P A v B → P' A v B) : EvG te σ H P' := fun A a Q q => h A a Q fun v B b p => q v B b (i A v B a b p)
theorem Ev.g (h : Ev te σ H v) (i : ∀ A B, Ex H A → Ex A B → P A v B) : EvG te σ H P := fun A a Q q => h A a _ fun B b => q v B b (i A B a b)
theorem ev_var {i : Nat} (h : σ[i]? = some (some v)) : Ev (tVar i) σ H v := fun A _ _ q => ⟨v, h, q A (.refl A)⟩
theorem ev_c : Ev (tC v) σ H v := fun A _ _ q => q A (.refl A)
theorem ev_op (ha : Ev ta σ H x) (hb : Ev tb σ H y) (hr : RV r x y H z) : Ev (tOp r ta tb) σ H z := fun A a Q q =>
  ha A a _ fun B b => hb B (a.trans b) _ fun C c => hr C ((a.trans b).trans c) Q fun D d => q D ((b.trans c).trans d)
theorem ev_un {r : V → Hp → VK → Prop} (ha : Ev ta σ H x) (hr : ∀ A, Ex H A → ∀ Q : VK, (∀ B, Ex A B → Q z B) → r x A Q) : Ev (tUn r ta) σ H z := fun A a Q q =>
  ha A a _ fun B b => hr B (a.trans b) Q fun C c => q C (b.trans c)
/-- the right operand is told by P -/
theorem ev_opR (ha : Ev ta σ H x) (hb : EvG tb σ H P) (hr : ∀ A w B, Ex H A → Ex A B → P A w B → RV r x w B z) : Ev (tOp r ta tb) σ H z := fun A a Q q =>
  ha A a _ fun B b => hb B (a.trans b) _ fun w C c p => hr B w C (a.trans b) c p C (.refl C) Q fun D d => q D ((b.trans c).trans d)
theorem ev_cb {r : List V → Hp → VK → Prop} {ta : TA} {vs : List V} (ha : EvA ta σ H vs) (hr : RC r vs H z) : Ev (tCB r ta) σ H z := fun A a Q q =>
  ha A a _ fun B b => hr B (a.trans b) Q fun C c => q C (b.trans c)
theorem ev_call {sp : Sp} {dvs vs : List V} {E : XK} {ta : TA} (ha : EvA ta σ H vs) (hs : SpV sp (vs ++ dvs) H z) : Ev (tCall sp dvs E ta) σ H z := fun A a Q q =>
  ha A a _ fun B b => hs B (a.trans b) Q (fun C c => q C (b.trans c)) E
theorem ev_is {w : V} (h : Ev te σ H v) (e : v = w) : Ev te σ H w := e ▸ h
theorem ev_notV {a : Bool} (h : Ev ta σ H (.bl a)) : Ev (tNotV ta) σ H (.bl (!a)) := fun A e _ q => h A e _ fun B b => ⟨a, rfl, q B b⟩
theorem ev_andV {a b : Bool} (h : Ev ta σ H (.bl a)) (i : a = true → Ev tb σ H (.bl b)) : Ev (tAndV ta tb) σ H (.bl (a && b)) := fun A e Q q => h A e _ fun B f => ⟨a, rfl, by
  cases a with
  | false => exact q B f
  | true => exact i rfl B (e.trans f) Q fun C g => q C (f.trans g)⟩
theorem ev_orV {a b : Bool} (h : Ev ta σ H (.bl a)) (i : a = false → Ev tb σ H (.bl b)) : Ev (tOrV ta tb) σ H (.bl (a || b)) := fun A e Q q => h A e _ fun B f => ⟨a, rfl, by
  cases a with
  | true => exact q B f
  | false => exact i rfl B (e.trans f) Q fun C g => q C (f.trans g)⟩
theorem ev_if {b : Bool} (h : EvT t σ H b) (h1 : b = true → Ev ta σ H v) (h2 : b = false → Ev tb σ H v) : Ev (tIf t ta tb) σ H v := fun A e Q q => h A e _ fun B f => by
  cases b with
  | true => exact h1 rfl B (e.trans f) Q fun C g => q C (f.trans g)
  | false => exact h2 rfl B (e.trans f) Q fun C g => q C (f.trans g)
theorem rv_I0 {g : Int → Int → V} {i j : Int} : RV (rI0 g) (.int i) (.int j) H (g i j) := fun A _ _ q => ⟨i, j, rfl, rfl, q A (.refl A)⟩
theorem rv_I {C : Int → Int → Prop} {g : Int → Int → V} {i j : Int} (h : C i j) : RV (rI C g) (.int i) (.int j) H (g i j) := fun A _ _ q => ⟨i, j, rfl, rfl, h, q A (.refl A)⟩
theorem rv_eq (h : scal x y = true) : RV rEq x y H (.bl (decide (x = y))) := fun A _ _ q => ⟨h, q A (.refl A)⟩
theorem rv_ne (h : scal x y = true) : RV rNe x y H (.bl (!decide (x = y))) := fun A _ _ q => ⟨h, q A (.refl A)⟩
theorem rv_ixL {p : Addr} {xs : List V} {i : Int} (h : SqL K H p xs) (ha : atI xs i = some v) : RV (rIxL K) (.ref p) (.int i) H v := fun A a _ q => ⟨p, xs, i, v, rfl, rfl, ex_l a h, ha, q A (.refl A)⟩
theorem rv_ixT {p : Addr} {xs : List V} {i : Int} (h : SqT K H p xs) (ha : atI xs i = some v) : RV (rIxT K) (.ref p) (.int i) H v := fun A a _ q => ⟨p, xs, i, v, rfl, rfl, ex_t a h, ha, q A (.refl A)⟩
theorem rv_ixS {s : Str} {i : Int} {c : Nat} (h : s.length ≤ 100000) (ha : atI s.cps.toList i = some c) : RV rIxS (.str s) (.int i) H (.str ⟨#[c]⟩) := fun A _ _ q => ⟨s, i, c, rfl, rfl, sz_of h, ha, q A (.refl A)⟩
theorem rv_in {neg : Bool} {p : Addr} {xs : List V} (h : SqL K H p xs ∨ SqT K H p xs) (hx : flatV x = true) (hf : xs.all flatV = true) : RV (rIn K neg) x (.ref p) H (.bl (if neg then !inV x xs else inV x xs)) :=
  fun A a _ q => ⟨p, xs, rfl, h.elim (fun h => .inl (ex_l a h)) (fun h => .inr (ex_t a h)), hx, hf, q A (.refl A)⟩
theorem et_is {a b : Bool} (h : EvT t σ H a) (e : a = b) : EvT t σ H b := e ▸ h
theorem et_test {b : Bool} (h : Ev te σ H (.bl b)) : EvT (tTest te) σ H b := fun A a _ q => h A a _ fun B f => ⟨b, rfl, q B f⟩
theorem et_B {b : Bool} (h : Ev te σ H (.bl b)) : EvT (tB te) σ H b := fun A a _ q => h A a _ fun B f => ⟨b, rfl, q B f⟩
theorem et_not {a : Bool} (h : EvT t σ H a) : EvT (tNot t) σ H (!a) := fun A e _ q => h A e _ fun B f => q B f
theorem et_and {a b : Bool} (h : EvT t σ H a) (i : a = true → EvT u σ H b) : EvT (tAnd t u) σ H (a && b) := fun A e Q q => h A e _ fun B f => by
  cases a with
  | false => exact q B f
  | true => exact i rfl B (e.trans f) Q fun C g => q C (f.trans g)
theorem et_or {a b : Bool} (h : EvT t σ H a) (i : a = false → EvT u σ H b) : EvT (tOr t u) σ H (a || b) := fun A e Q q => h A e _ fun B f => by
  cases a with
  | true => exact q B f
  | false => exact i rfl B (e.trans f) Q fun C g => q C (f.trans g)
theorem et_chain {a b : Bool} (ha : Ev ta σ H x) (hb : Ev tb σ H y) (hr : RV r x y H (.bl a)) (hc : a = true → Ev tc σ H z) (hr2 : a = true → RV r' y z H (.bl b)) : EvT (tTest (tChain r r' ta tb tc)) σ H (a && b) := fun A e Q q =>
  ha A e _ fun B f => hb B (e.trans f) _ fun C g => hr C ((e.trans f).trans g) _ fun D d => ⟨a, rfl, by
    cases a with
    | false => exact ⟨false, rfl, q D ((f.trans g).trans d)⟩
    | true => exact hc rfl D (((e.trans f).trans g).trans d) _ fun G i => hr2 rfl G ((((e.trans f).trans g).trans d).trans i) _ fun J j => ⟨b, rfl, q J ((((f.trans g).trans d).trans i).trans j)⟩⟩
theorem ea_nil : EvA tNil σ H [] := fun A _ _ q => q A (.refl A)
theorem ea_cons {tr : TA} {vs : List V} (h : Ev ta σ H x) (i : EvA tr σ H vs) : EvA (tCons ta tr) σ H (x :: vs) := fun A e _ q => h A e _ fun B f => i B (e.trans f) _ fun C g => q C (f.trans g)
theorem eo_none : EvO tNoPart σ H none := fun A _ _ q => q A (.refl A)
theorem eo_some {i : Int} (h : Ev te σ H (.int i)) : EvO (tPart te) σ H (some i) := fun A e _ q => h A e _ fun B f => ⟨i, rfl, q B f⟩
theorem eg_tup {ta : TA} {vs : List V} (h : EvA ta σ H vs) (l : vs.length ≤ 100000) : EvG (tTup ta) σ H (NewT vs) := fun A e _ q =>
  h A e _ fun B f => ⟨sz_of l, fun p hp => q _ _ (f.trans (.new hp)) ⟨p, rfl, fresh_back f hp, upd_same⟩⟩
theorem eg_lst {ta : TA} {vs : List V} (h : EvA ta σ H vs) (l : vs.length ≤ 100000) : EvG (tLst ta) σ H (NewL vs) := fun A e _ q =>
  h A e _ fun B f => ⟨sz_of l, fun p hp => q _ _ (f.trans (.new hp)) ⟨p, rfl, fresh_back f hp, upd_same⟩⟩

/-! ### statements -/
variable {D : Ends} {tu tw : TS} {tz : TS}
theorem s_asgG {i : Nat} (h : EvG te σ H P) (k : ∀ v B, Ex H B → P H v B → D.nx (σ.set i (some v)) B) : tAsg te (gName i) D σ H := h H (.refl H) _ fun v B b p => k v B b p
theorem q_asgG {i : Nat} (h : EvG te σ H P) (k : ∀ v B, Ex H B → P H v B → tz D (σ.set i (some v)) B) : tSeq (tAsg te (gName i)) tz D σ H := s_asgG (D := { D with nx := tz D }) h k
theorem s_asg {i : Nat} (h : Ev te σ H v) (k : ∀ B, Ex H B → D.nx (σ.set i (some v)) B) : tAsg te (gName i) D σ H := h H (.refl H) _ k
theorem q_asg {i : Nat} (h : Ev te σ H v) (k : ∀ B, Ex H B → tz D (σ.set i (some v)) B) : tSeq (tAsg te (gName i)) tz D σ H := s_asg (D := { D with nx := tz D }) h k
theorem s_retk (h : Ev te σ H v) (k : RetV v H D.rt) : tRet te D σ H := h H (.refl H) _ k
theorem s_retG (h : EvG te σ H P) (k : ∀ v B, Ex H B → P H v B → D.rt v B) : tRet te D σ H := h H (.refl H) _ k
theorem s_if {b : Bool} (h : EvT t σ H b) (h1 : b = true → ∀ B, Ex H B → tu D σ B) (h2 : b = false → ∀ B, Ex H B → tw D σ B) : tIfS t tu tw D σ H := h H (.refl H) _ fun B e => by
  cases b with
  | true => exact h1 rfl B e
  | false => exact h2 rfl B e
theorem q_if {b : Bool} (h : EvT t σ H b) (h1 : b = true → ∀ B, Ex H B → tu { D with nx := tz D } σ B) (h2 : b = false → ∀ B, Ex H B → tw { D with nx := tz D } σ B) : tSeq (tIfS t tu tw) tz D σ H := s_if (D := { D with nx := tz D }) h h1 h2
theorem s_when {b : Bool} (h : EvT t σ H b) (h1 : b = true → ∀ B, Ex H B → tu D σ B) (h2 : b = false → ∀ B, Ex H B → D.nx σ B) : tIfS t tu tNext D σ H := s_if h h1 h2
theorem q_when {b : Bool} (h : EvT t σ H b) (h1 : b = true → ∀ B, Ex H B → tu { D with nx := tz D } σ B) (h2 : b = false → ∀ B, Ex H B → tz D σ B) : tSeq (tIfS t tu tNext) tz D σ H := s_if (D := { D with nx := tz D }) h h1 h2
theorem s_drop (h : Ev te σ H v) (k : ∀ B, Ex H B → D.nx σ B) : tDrop te D σ H := h H (.refl H) _ k
theorem q_drop (h : Ev te σ H v) (k : ∀ B, Ex H B → tz D σ B) : tSeq (tDrop te) tz D σ H := s_drop (D := { D with nx := tz D }) h k
/-- if c: x = e, by the value that x has behind it -/
theorem q_ifAsg {b : Bool} {i : Nat} (h : EvT t σ H b) (h1 : b = true → Ev te σ H v) (h2 : b = false → σ.set i (some v) = σ) (k : ∀ B, Ex H B → tz D (σ.set i (some v)) B) : tSeq (tIfS t (tAsg te (gName i)) tNext) tz D σ H :=
  q_when h (fun hb B e => s_asg (D := { D with nx := tz D }) ((h1 hb).mono e) fun C f => k C (e.trans f)) (fun hb B e => (h2 hb) ▸ k B e)
theorem s_app {l : Addr} {xs : List V} (hl : H l = some (.lst xs)) (ha : Ev ta σ H (.ref l)) (h : EvG te σ H P) (hz : xs.length < 100000) (k : ∀ A v B, Ex H A → Ex A B → P A v B → D.nx σ (upd B l (.lst (xs ++ [v])))) :
    tDrop (tBM K "list" rAppend ta (tCons te tNil)) D σ H := ha H (.refl H) _ fun A a =>
  ⟨.inl ⟨rfl, xs, sq_of (a.k hl)⟩, h A a _ fun v B b p => ⟨l, xs, v, rfl, rfl, b.k (a.k hl), sz_lt hz, k A v B a b p⟩⟩
theorem q_app {l : Addr} {xs : List V} (hl : H l = some (.lst xs)) (ha : Ev ta σ H (.ref l)) (h : EvG te σ H P) (hz : xs.length < 100000) (k : ∀ A v B, Ex H A → Ex A B → P A v B → tz D σ (upd B l (.lst (xs ++ [v])))) :
    tSeq (tDrop (tBM K "list" rAppend ta (tCons te tNil))) tz D σ H := s_app (D := { D with nx := tz D }) hl ha h hz k

/-! ### loops -/
theorem q_forR1 {ta : TA} {j : Nat} {n : Nat} (h : EvA ta σ H [.int (n : Int)]) (hn : n ≤ 100000) (W : Nat → L2.St → Hp → Prop) (h0 : ∀ B, Ex H B → W 0 σ B)
    (hs : ∀ (i : Nat) σ' B, i < n → W i σ' B → tu { D with nx := W (i + 1), ct := W (i + 1), bk := tz D } (σ'.set j (some (.int (i : Int)))) B) (hd : ∀ σ' B, W n σ' B → tz D σ' B) : tSeq (tFor (iRng1 ta) (gName j) tu) tz D σ H :=
  h H (.refl H) _ fun B e => ⟨(n : Int), rfl, by omega, by omega, for_range (lo := 0) (n := n) W (h0 B e) (fun i σ' C hi w => by
    have z := hs i σ' C hi w
    rw [← Int.zero_add (i : Int)] at z
    exact z) hd⟩
theorem q_forL {a : Addr} {xs : List V} {tl : TE} {g : TG} (h : Ev tl σ H (.ref a)) (hx : SqL K H a xs) (W : Nat → L2.St → Hp → Prop) (h0 : ∀ B, Ex H B → W 0 σ B) (hl : ∀ i σ' B, i ≤ xs.length → W i σ' B → SqL K B a xs)
    (hs : ∀ i x σ' B, xs[i]? = some x → W i σ' B → g x σ' B fun σ2 C => tu { D with nx := W (i + 1), ct := W (i + 1), bk := tz D } σ2 C) (hd : ∀ σ' B, W xs.length σ' B → tz D σ' B) : tSeq (tFor (iList K tl) g tu) tz D σ H :=
  h H (.refl H) _ fun B e => ⟨a, rfl, ⟨xs, ex_l e hx⟩, for_list (D := { D with nx := tz D }) W (h0 B e) hl hs hd⟩
/-- over a list that is made for it -/
theorem q_forNL {xs : List V} {tl : TE} {g : TG} (h : EvG tl σ H (NewL xs)) (W : Addr → Nat → L2.St → Hp → Prop) (h0 : ∀ p B, Ex H B → B p = some (.lst xs) → W p 0 σ B) (hl : ∀ p i σ' B, i ≤ xs.length → W p i σ' B → SqL K B p xs)
    (hs : ∀ p i x σ' B, xs[i]? = some x → W p i σ' B → g x σ' B fun σ2 C => tu { D with nx := W p (i + 1), ct := W p (i + 1), bk := tz D } σ2 C) (hd : ∀ p σ' B, W p xs.length σ' B → tz D σ' B) : tSeq (tFor (iList K tl) g tu) tz D σ H :=
  h H (.refl H) _ fun v B e ⟨p, ev, _, hp⟩ => ⟨p, ev, ⟨xs, sq_of hp⟩, for_list (D := { D with nx := tz D }) (W p) (h0 p B e hp) (hl p) (hs p) (hd p)⟩
theorem q_forS {s : Str} {j : Nat} (h : Ev te σ H (.str s)) (W : Nat → L2.St → Hp → Prop) (h0 : ∀ B, Ex H B → W 0 σ B)
    (hs : ∀ i c σ' B, s.cps[i]? = some c → W i σ' B → tu { D with nx := W (i + 1), ct := W (i + 1), bk := tz D } (σ'.set j (some (.str ⟨#[c]⟩))) B) (hd : ∀ σ' B, W s.cps.size σ' B → tz D σ' B) : tSeq (tFor (iStr te) (gName j) tu) tz D σ H :=
  h H (.refl H) _ fun B e => ⟨s, rfl, for_it (D := { D with nx := tz D }) walk_str W (h0 B e) (fun _ _ _ _ _ => trivial) (fun i x σ' C C' hi w y => by
    obtain ⟨rfl, c, hc, rfl⟩ := y
    exact hs i c σ' C' hc w) hd⟩
theorem q_asgCall {sp : Sp} {dvs vs : List V} {E : XK} {ta : TA} {i : Nat} (h : EvA ta σ H vs) (k : ∀ B, Ex H B → sp (vs ++ dvs) B (fun v C => tz D (σ.set i (some v)) C) E) : tSeq (tAsg (tCall sp dvs E ta) (gName i)) tz D σ H := h H (.refl H) _ k
theorem st_nf {t : TS} {σ' : L2.St} (e : σ = σ') (h : t D σ' H) : t D σ H := e ▸ h
end
def spLaw (K : PySem.W.Frag) : Sp := fun vs H Q _ => ∃ (a : Addr) (ns : List Int), vs = [.ref a] ∧ SqL K H a (ns.map V.int) ∧ ns.length ≤ 63 ∧ ∀ B, Q (.bl true) B
/-! ### calls of what is built in; the tactics that lay these lines -/
section
variable {K : PySem.W.Frag} {σ : L2.St} {H H' : Hp} {ta tb tc te tx : TE} {t u : TT} {x y z v : V} {r r' : R2}
abbrev rLen (K : PySem.W.Frag) : List V → Hp → VK → Prop := fun vs H Q => ∃ p ys, vs = [V.ref p] ∧ (SqL K H p ys ∨ SqT K H p ys) ∧ Q (.int ys.length) H
abbrev rList (K : PySem.W.Frag) : List V → Hp → VK → Prop := fun vs H Q => ∃ p ys, vs = [V.ref p] ∧ (SqL K H p ys ∨ SqT K H p ys) ∧ ∀ l, H l = none → Q (.ref l) (upd H l (.lst ys))
theorem rc_len {p : Addr} {xs : List V} (h : SqL K H p xs) : RC (rLen K) [.ref p] H (.int xs.length) := fun A e _ q => ⟨p, xs, rfl, .inl (ex_l e h), q A (.refl A)⟩
theorem rc_lenT {p : Addr} {xs : List V} (h : SqT K H p xs) : RC (rLen K) [.ref p] H (.int xs.length) := fun A e _ q => ⟨p, xs, rfl, .inr (ex_t e h), q A (.refl A)⟩
theorem rc_lenS {s : Str} (h : s.length ≤ 100000) : RC (fun vs H Q => ∃ z, vs = [V.str z] ∧ z.length ≤ sizeLine ∧ Q (.int z.length) H) [.str s] H (.int s.length) := fun A _ _ q => ⟨s, rfl, sz_of h, q A (.refl A)⟩
theorem rc_intB {b : Bool} : RC (fun vs H Q => (∃ i, vs = [V.int i] ∧ Q (.int i) H) ∨ ∃ k, vs = [V.bl k] ∧ Q (.int (if k then 1 else 0)) H) [.bl b] H (.int (if b then 1 else 0)) := fun A _ _ q => .inr ⟨b, rfl, q A (.refl A)⟩
theorem rc_strI {i : Int} (h : i.natAbs.log2 < 1920) : RC (fun vs H Q => ∃ i, vs = [V.int i] ∧ i.natAbs.log2 < 1920 ∧ Q (.str (toString i)) H) [.int i] H (.str (toString i)) := fun A _ _ q => ⟨i, rfl, h, q A (.refl A)⟩
/-- isinstance of a value whose type is known, and a built-in type -/
theorem rc_isi {c : String} {n : String} {b : Bool} (ht : ∀ B, Ex H B → TyX K B x (.type c)) (hk : kitB c n = some b) : RC (rIsi K) [x, .ty n] H (.bl b) := fun A e _ q => ⟨x, .ty n, .type c, .type n, b, rfl, .ty n, ht A e, kit_ty hk, q A (.refl A)⟩
theorem tx_int {i : Int} : ∀ B, Ex H B → TyX K B (.int i) (.type "int") := fun _ _ => .base (.int i)
theorem tx_str {s : Str} : ∀ B, Ex H B → TyX K B (.str s) (.type "str") := fun _ _ => .base (.str s)
theorem tx_lst {a : Addr} {xs : List V} (h : H a = some (.lst xs)) : ∀ B, Ex H B → TyX K B (.ref a) (.type "list") := fun _ e => .base (.lst (e.k h))
theorem tx_tup {a : Addr} {xs : List V} (h : H a = some (.tup xs)) : ∀ B, Ex H B → TyX K B (.ref a) (.type "tuple") := fun _ e => .base (.tup (e.k h))
theorem rv_add_str {a b : Str} (h : a.length + b.length ≤ 100000) : RV (fun x y H Q => ∃ i j, x = V.str i ∧ y = V.str j ∧ i.length + j.length ≤ sizeLine ∧ Q (.str (i ++ j)) H) (.str a) (.str b) H (.str (a ++ b)) := fun A _ _ q => ⟨a, b, rfl, rfl, sz_of h, q A (.refl A)⟩
theorem rv_NT {a b : String} : RV rNT (.ty a) (.ty b) H (.bl (!decide (a = b))) := fun A _ _ q => ⟨a, b, rfl, rfl, q A (.refl A)⟩
theorem rc_typI {i : Int} : RC (rTyp K) [.int i] H (.ty "int") := fun A _ _ q => ⟨.int i, "int", rfl, .int i, q A (.refl A)⟩
theorem rv_isN : RV (fun x y H Q => y = V.non ∧ Q (.bl (decide (x = .non))) H) x .non H (.bl (decide (x = .non))) := fun A _ _ q => ⟨rfl, q A (.refl A)⟩
theorem ev_neg {i : Int} (h : Ev ta σ H (.int i)) : Ev (tUn (rU fun i => .int (-i)) ta) σ H (.int (-i)) := ev_un h fun A _ _ q => ⟨i, rfl, q A (.refl A)⟩
end
theorem kb_ss : kitB "str" "str" = some true := by decide +kernel
theorem kb_ii : kitB "int" "int" = some true := by decide +kernel
theorem kb_ib : kitB "int" "bool" = some false := by decide +kernel
theorem kb_ll : kitB "list" "list" = some true := by decide +kernel
theorem kb_tt : kitB "tuple" "tuple" = some true := by decide +kernel
theorem decide_int (i j : Int) : decide (V.int i = V.int j) = decide (i = j) := by
  by_cases h : i = j
  · rw [h, decide_eq_true rfl, decide_eq_true rfl]
  · rw [decide_eq_false h, decide_eq_false (fun q => h (V.int.inj q))]
theorem decide_str (i j : Str) : decide (V.str i = V.str j) = decide (i = j) := by
  by_cases h : i = j
  · rw [h, decide_eq_true rfl, decide_eq_true rfl]
  · rw [decide_eq_false h, decide_eq_false (fun q => h (V.str.inj q))]
local macro_rules | `(tactic| walk_at "cond") => `(tactic| first | (with_reducible assumption) | decide | (show (0 : Int) < _; decide) | (exact ⟨by decide, by decide⟩) | (exact ⟨by decide, by decide, by decide⟩) | (exact ⟨by omega, by omega⟩) | (exact Or.inl ⟨by decide, by decide⟩) | (exact Or.inr ⟨by decide, by decide⟩) | (exact Or.inl ⟨by omega, by omega⟩) | (exact Or.inr ⟨by omega, by omega⟩) | omega)
local macro_rules | `(tactic| walk_at "seq") => `(tactic| first | (with_reducible assumption) | (exact sq_of (by with_reducible assumption)) | (exact st_of (by with_reducible assumption)) | (exact ex_l (by with_reducible assumption) (by with_reducible assumption)) | (exact ex_t (by with_reducible assumption) (by with_reducible assumption)))
local macro_rules | `(tactic| walk_at "rv") => `(tactic| first | (with_reducible exact rv_I0) | ((with_reducible apply rv_I); walk_at "cond") | ((with_reducible apply rv_eq); rfl) | ((with_reducible apply rv_ne); rfl) | (with_reducible exact rv_NT) | (with_reducible exact rv_isN) | ((with_reducible apply rv_add_str); walk_at "cond") | ((with_reducible apply rv_ixT); walk_at "seq"; rfl))
local macro_rules | `(tactic| walk_at "rc") => `(tactic| first | ((with_reducible apply rc_len); walk_at "seq") | ((with_reducible apply rc_lenT); walk_at "seq") | ((with_reducible apply rc_lenS); walk_at "cond") | (with_reducible exact rc_intB) | (with_reducible exact rc_typI) | ((with_reducible apply rc_strI); walk_at "cond") | (exact rc_isi tx_str kb_ss) | (exact rc_isi tx_int kb_ii) | (exact rc_isi tx_int kb_ib) | (exact rc_isi (tx_lst (by with_reducible assumption)) kb_ll) | (exact rc_isi (tx_tup (by with_reducible assumption)) kb_tt))
local macro_rules | `(tactic| walk_at "spv") => `(tactic| fail "no promise")
local macro_rules | `(tactic| walk_at "ea") => `(tactic| first | (with_reducible exact ea_nil) | ((with_reducible apply ea_cons); walk_at "ev"; walk_at "ea"))
local macro_rules | `(tactic| walk_at "eo") => `(tactic| first | (with_reducible exact eo_none) | ((with_reducible apply eo_some); walk_at "ev"))
local macro_rules | `(tactic| walk_at "ev") => `(tactic| first
  | (with_reducible exact ev_c)
  | ((with_reducible apply ev_var); rfl)
  | ((with_reducible apply ev_op); walk_at "ev"; walk_at "ev"; walk_at "rv")
  | ((with_reducible apply ev_cb); walk_at "ea"; walk_at "rc")
  | ((with_reducible apply ev_call); walk_at "ea"; walk_at "spv")
  | ((with_reducible apply ev_neg); walk_at "ev")
  | ((with_reducible apply ev_notV); walk_at "ev")
  | ((with_reducible apply ev_andV); walk_at "ev"; (intro _; walk_at "ev"))
  | ((with_reducible apply ev_orV); walk_at "ev"; (intro _; walk_at "ev")))
local macro_rules | `(tactic| walk_at "et") => `(tactic| first
  | ((with_reducible apply et_chain); walk_at "ev"; walk_at "ev"; walk_at "rv"; (intro _; walk_at "ev"); (intro _; walk_at "rv"))
  | ((with_reducible apply et_test); walk_at "ev")
  | ((with_reducible apply et_B); walk_at "ev")
  | ((with_reducible apply et_not); walk_at "et")
  | ((with_reducible apply et_or); walk_at "et"; (intro _; walk_at "et"))
  | ((with_reducible apply et_and); walk_at "et"; (intro _; walk_at "et")))
local macro_rules | `(tactic| walk_at "asg") => `(tactic| ((first | with_reducible apply q_asg | with_reducible apply s_asg); walk_at "ev"))
local macro_rules | `(tactic| walk_at "drop") => `(tactic| ((first | with_reducible apply q_drop | with_reducible apply s_drop); walk_at "ev"))
local macro_rules | `(tactic| walk_at "ret") => `(tactic| ((with_reducible apply s_retk); walk_at "ev"))
local macro_rules | `(tactic| walk_at "when") => `(tactic| ((first | with_reducible apply q_when | with_reducible apply s_when | with_reducible apply q_if | with_reducible apply s_if); walk_at "et"))
/-! ### lists of things told by data -/
structure Rp (α : Type) where
  R : Hp → V → α → Prop
  mono : ∀ {H H' : Hp} {v : V} {a : α}, Ex H H' → R H v a → R H' v a
  lst : ∀ {H : Hp} {D : Addr} {xs ys : List V} {v : V} {a : α}, H D = some (.lst xs) → R H v a → R (upd H D (.lst ys)) v a
def rpInt : Rp Int := ⟨fun _ v i => v = .int i, fun _ h => h, fun _ h => h⟩
def rpStr : Rp Str := ⟨fun _ v s => v = .str s, fun _ h => h, fun _ h => h⟩
/-- a thing: a tuple of a name and a value -/
def Thg (H : Hp) (v : V) (p : Int × Int) : Prop := ∃ t, v = .ref t ∧ H t = some (.tup [.int p.1, .int p.2])
def rpT : Rp (Int × Int) := ⟨Thg, fun e ⟨t, h1, h2⟩ => ⟨t, h1, e.k h2⟩, fun hD ⟨t, h1, h2⟩ => ⟨t, h1, by rw [upd_ne (ne_of h2 hD (by intro z; cases z))]; exact h2⟩⟩
abbrev PR {α : Type} (r : Rp α) (H : Hp) (xs : List V) (as : List α) : Prop := Paired (r.R H) xs as
/-- at p a list that is told by as -/
def LR {α : Type} (r : Rp α) (H : Hp) (p : Addr) (as : List α) : Prop := ∃ ys, H p = some (.lst ys) ∧ PR r H ys as
section
variable {α β : Type} {r : Rp α} {r' : Rp β} {H H' : Hp} {xs ys : List V} {as bs : List α}
theorem pr_mono (e : Ex H H') : ∀ {xs : List V} {as : List α}, PR r H xs as → PR r H' xs as
  | _, _, .nil => .nil
  | _, _, .cons h t => .cons (r.mono e h) (pr_mono e t)
theorem pr_lst {D : Addr} {zs ws : List V} (h : H D = some (.lst zs)) : ∀ {xs : List V} {as : List α}, PR r H xs as → PR r (upd H D (.lst ws)) xs as
  | _, _, .nil => .nil
  | _, _, .cons a t => .cons (r.lst h a) (pr_lst h t)
theorem pr_get : ∀ {xs : List V} {as : List α} {i : Nat} {x : V}, PR r H xs as → xs[i]? = some x → ∃ a, as[i]? = some a ∧ r.R H x a
  | _, _, i, x, .nil, h => by simp at h
  | _, _, 0, x, .cons a t, h => by
    cases (Option.some.inj h)
    exact ⟨_, rfl, a⟩
  | _, _, i + 1, x, .cons a t, h => pr_get (i := i) t h
theorem pr_at : ∀ {xs : List V} {as : List α} {i : Nat} {a : α}, PR r H xs as → as[i]? = some a → ∃ x, xs[i]? = some x ∧ r.R H x a
  | _, _, i, x, .nil, h => by simp at h
  | _, _, 0, x, .cons a t, h => by
    cases (Option.some.inj h)
    exact ⟨_, rfl, a⟩
  | _, _, i + 1, x, .cons a t, h => pr_at (i := i) t h
theorem pr_app : ∀ {xs ys : List V} {as bs : List α}, PR r H xs as → PR r H ys bs → PR r H (xs ++ ys) (as ++ bs)
  | _, _, _, _, .nil, h => h
  | _, _, _, _, .cons a t, h => .cons a (pr_app t h)
theorem LR.mono (e : Ex H H') {p : Addr} (h : LR r H p as) : LR r H' p as := by
  obtain ⟨ys, h1, h2⟩ := h
  exact ⟨ys, e.k h1, pr_mono e h2⟩
theorem pr_ints : ∀ {ms : List Int}, PR rpInt H (ms.map V.int) ms
  | [] => .nil
  | _ :: _ => .cons rfl pr_ints
theorem pr_ints_eq : ∀ {xs : List V} {ms : List Int}, PR rpInt H xs ms → xs = ms.map V.int
  | _, _, .nil => rfl
  | _, _, .cons h t => by
    rw [pr_ints_eq t, show _ = V.int _ from h]
    rfl
theorem take_snoc {γ : Type} {l : List γ} {i : Nat} {x : γ} (h : l[i]? = some x) : l.take (i + 1) = l.take i ++ [x] := by
  rw [List.take_add_one, h]
  rfl
end
/-- what evaluates to something told; to a new list of things told -/
abbrev EvR (te : TE) (σ : L2.St) (H : Hp) (P : Hp → V → Prop) : Prop := EvG te σ H fun _ v B => P B v
abbrev EvLR {β : Type} (r : Rp β) (te : TE) (σ : L2.St) (H : Hp) (bs : List β) : Prop := EvG te σ H fun A v B => ∃ p, v = .ref p ∧ A p = none ∧ LR r B p bs
def RetLR {β : Type} (r : Rp β) (bs : List β) (H : Hp) (Q : VK) : Prop := ∀ p B, H p = none → Ex H B → LR r B p bs → Q (.ref p) B
section
variable {α β : Type} {r : Rp α} {r' : Rp β} {K : PySem.W.Frag} {σ : L2.St} {H H' : Hp} {ta tb te tl : TE} {t : TT} {x y v : V} {D : Ends} {tz : TS}
theorem RetLR.mono {bs : List β} {Q : VK} (e : Ex H H') (k : RetLR r' bs H Q) : RetLR r' bs H' Q := fun p B hp b h => k p B (fresh_back e hp) (e.trans b) h
theorem ev_R {P : Hp → V → Prop} (h : Ev te σ H v) (hp : ∀ B, Ex H B → P B v) : EvR te σ H P := h.g fun A B a b => hp B (a.trans b)
theorem ev_Rtup {vs : List V} {ta : TA} {P : Hp → V → Prop} (h : EvA ta σ H vs) (hl : vs.length ≤ 100000) (hp : ∀ p B, B p = some (.tup vs) → P B (.ref p)) : EvR (tTup ta) σ H P := (eg_tup h hl).imp fun A v B _ _ ⟨p, e, _, h⟩ => e ▸ hp p B h
theorem EvLR.to {as bs : List β} (h : EvLR r' te σ H as) (e : as = bs) : EvLR r' te σ H bs := e ▸ h
theorem lcLR {xs : List V} {as : List α} {a : Addr} {j : Nat} {vs : List Nat} (q : α → Bool) (g : α → β) (h : Ev tl σ H (.ref a)) (hx : SqL K H a xs) (hp : PR r H xs as) (hz : as.length ≤ 40000)
    (hw : ∀ x, wipe ((wipe σ vs).set j (some x)) vs = wipe σ vs)
    (ht : ∀ x b H1, Ex H H1 → b ∈ as → r.R H1 x b → EvT t ((wipe σ vs).set j (some x)) H1 (q b))
    (he : ∀ x b H1, Ex H H1 → b ∈ as → r.R H1 x b → q b = true → EvR te ((wipe σ vs).set j (some x)) H1 (fun H2 v => r'.R H2 v (g b))) :
    EvLR r' (tLc (iList K tl) (gName j) t te vs) σ H ((as.filter q).map g) := fun H0 e Q qq => h H0 e _ fun H1 e1 => ⟨a, rfl, ⟨xs, ex_l (e.trans e1) hx⟩, fun Dl hD => by
  have hlen := hp.length
  refine lc_list (xs := xs) (fun i H' => Ex H1 H' ∧ ∃ ys, H' Dl = some (.lst ys) ∧ ys.length ≤ i ∧ PR r' H' ys (((as.take i).filter q).map g)) ⟨Ex.new hD, [], upd_same, Nat.le_refl _, by rw [List.take_zero]; exact .nil⟩ (fun i H' _ p => ex_l ((e.trans e1).trans p.1) hx) (fun i x H' hi p => ⟨hw x, ?_⟩) fun H' p => ?_
  · obtain ⟨p1, ys, p2, p3, p4⟩ := p
    obtain ⟨b, hb, rb⟩ := pr_get hp hi
    have hmem : b ∈ as := List.mem_of_getElem? hb
    have hil : i < xs.length := (List.getElem?_eq_some_iff.mp hi).1
    have eE := (e.trans e1).trans p1
    refine ht x b H' eE hmem (r.mono eE rb) H' (Ex.refl H') _ fun H3 e3 => ?_
    cases hq : q b with
    | true =>
      show te ((wipe σ vs).set j (some x)) H3 _
      refine he x b H' eE hmem (r.mono eE rb) hq H3 e3 _ fun y H4 e4 ry => ⟨ys, e4.k (e3.k p2), sz_lt (by omega), Ex.mut ((p1.trans e3).trans e4) hD (e4.k (e3.k p2)), ys ++ [y], upd_same, by rw [List.length_append]; exact Nat.succ_le_succ p3, ?_⟩
      have hD4 : H4 Dl = some (.lst ys) := e4.k (e3.k p2)
      rw [take_snoc hb, List.filter_append, List.map_append, List.filter_cons, if_pos hq]
      exact pr_lst hD4 (pr_app (pr_mono (e3.trans e4) p4) (.cons ry .nil))
    | false =>
      show Ex H1 H3 ∧ _
      refine ⟨p1.trans e3, ys, e3.k p2, by omega, ?_⟩
      rw [take_snoc hb, List.filter_append, List.filter_cons, if_neg (by rw [hq]; decide), List.filter_nil, List.append_nil]
      exact pr_mono e3 p4
  · obtain ⟨p1, ys, p2, p3, p4⟩ := p
    refine qq _ H' (e1.trans p1) ⟨Dl, rfl, fresh_back e1 hD, ys, p2, ?_⟩
    rw [hlen, List.take_length] at p4
    exact p4⟩
/-- over range(n) -/
theorem lcRR {ta : TA} {j : Nat} {vs : List Nat} {n : Nat} (q : Nat → Bool) (g : Nat → β) (h : EvA ta σ H [.int (n : Int)]) (hn : n ≤ 40000) (hw : ∀ x, wipe ((wipe σ vs).set j (some x)) vs = wipe σ vs)
    (ht : ∀ (i : Nat) H1, Ex H H1 → i < n → EvT t ((wipe σ vs).set j (some (.int (i : Int)))) H1 (q i))
    (he : ∀ (i : Nat) H1, Ex H H1 → i < n → q i = true → EvR te ((wipe σ vs).set j (some (.int (i : Int)))) H1 (fun H2 v => r'.R H2 v (g i))) :
    EvLR r' (tLc (iRng1 ta) (gName j) t te vs) σ H (((List.range n).filter q).map g) := fun H0 e Q qq => h H0 e _ fun H1 e1 => ⟨(n : Int), rfl, by omega, by omega, fun Dl hD => by
  refine lc_range (lo := 0) (n := n) (fun i H' => Ex H1 H' ∧ ∃ ys, H' Dl = some (.lst ys) ∧ ys.length ≤ i ∧ PR r' H' ys (((List.range i).filter q).map g)) ⟨Ex.new hD, [], upd_same, Nat.le_refl _, .nil⟩ (fun i H' hi p => ?_) fun H' p => ?_
  · obtain ⟨p1, ys, p2, p3, p4⟩ := p
    have e0 : (0 : Int) + (i : Int) = (i : Int) := Int.zero_add _
    rw [e0]
    refine ⟨hw _, ?_⟩
    have eE := (e.trans e1).trans p1
    refine ht i H' eE hi H' (Ex.refl H') _ fun H3 e3 => ?_
    cases hq : q i with
    | true =>
      show te ((wipe σ vs).set j (some (.int (i : Int)))) H3 _
      refine he i H' eE hi hq H3 e3 _ fun y H4 e4 ry => ⟨ys, e4.k (e3.k p2), sz_lt (by omega), Ex.mut ((p1.trans e3).trans e4) hD (e4.k (e3.k p2)), ys ++ [y], upd_same, by rw [List.length_append]; exact Nat.succ_le_succ p3, ?_⟩
      have hD4 : H4 Dl = some (.lst ys) := e4.k (e3.k p2)
      rw [List.range_succ, List.filter_append, List.map_append, List.filter_cons, if_pos hq]
      exact pr_lst hD4 (pr_app (pr_mono (e3.trans e4) p4) (.cons ry .nil))
    | false =>
      show Ex H1 H3 ∧ _
      refine ⟨p1.trans e3, ys, e3.k p2, by omega, ?_⟩
      rw [List.range_succ, List.filter_append, List.filter_cons, if_neg (by rw [hq]; decide), List.filter_nil, List.append_nil]
      exact pr_mono e3 p4
  · obtain ⟨p1, ys, p2, p3, p4⟩ := p
    exact qq _ H' (e1.trans p1) ⟨Dl, rfl, fresh_back e1 hD, ys, p2, p4⟩⟩
theorem q_asgLR {i : Nat} {bs : List β} (h : EvLR r' te σ H bs) (k : ∀ p B, H p = none → Ex H B → LR r' B p bs → tz D (σ.set i (some (.ref p))) B) : tSeq (tAsg te (gName i)) tz D σ H := q_asgG h fun _ B e ⟨p, ev, hp, l⟩ => ev ▸ k p B hp e l
theorem s_retLR {bs : List β} (h : EvLR r' te σ H bs) (k : RetLR r' bs H D.rt) : tRet te D σ H := s_retG h fun _ B e ⟨p, ev, hp, l⟩ => ev ▸ k p B hp e l
/-- a promise that hands back a new list -/
def SpLR (r : Rp β) (sp : Sp) (vs : List V) (H : Hp) (bs : List β) : Prop := ∀ A, Ex H A → ∀ Q : VK, RetLR r bs A Q → ∀ E : XK, sp vs A Q E
theorem ev_callLR {sp : Sp} {dvs vs : List V} {E : XK} {ta : TA} {bs : List β} (h : EvA ta σ H vs) (hs : SpLR r' sp (vs ++ dvs) H bs) : EvLR r' (tCall sp dvs E ta) σ H bs := fun A a Q q =>
  h A a _ fun B b => hs B (a.trans b) Q (fun p C hp c l => q _ C (b.trans c) ⟨p, rfl, fresh_back b hp, l⟩) E
/-- l + m of two lists, both new -/
theorem ev_catLR {as bs : List β} (ha : EvLR r' ta σ H as) (hb : EvLR r' tb σ H bs) (hz : as.length + bs.length ≤ 100000) : EvLR r' (tOp rCat ta tb) σ H (as ++ bs) := fun A a Q q =>
  ha A a _ fun _ B b ⟨p, ev, _, xs, h1, h2⟩ => hb B (a.trans b) _ fun _ C c ⟨p', ev', _, ys, h3, h4⟩ => by
    refine ⟨p, p', xs, ys, ev, ev', c.k h1, h3, ?_, fun l hl => ?_⟩
    · rw [h2.length, h4.length]
      exact sz_of hz
    · exact q _ _ ((b.trans c).trans (.new hl)) ⟨l, rfl, fresh_back (b.trans c) hl, _, upd_same, pr_mono (.new hl) (pr_app (pr_mono c h2) h4)⟩
/-- l + m of two lists that stand -/
theorem ev_catV {as bs : List β} {p p' : Addr} (ha : Ev ta σ H (.ref p)) (hb : Ev tb σ H (.ref p')) (h1 : LR r' H p as) (h2 : LR r' H p' bs) (hz : as.length + bs.length ≤ 100000) : EvLR r' (tOp rCat ta tb) σ H (as ++ bs) := fun A a Q q =>
  ha A a _ fun B b => hb B (a.trans b) _ fun C c => by
    obtain ⟨xs, g1, g2⟩ := h1.mono ((a.trans b).trans c)
    obtain ⟨ys, g3, g4⟩ := h2.mono ((a.trans b).trans c)
    refine ⟨p, p', xs, ys, rfl, rfl, g1, g3, ?_, fun l hl => ?_⟩
    · rw [g2.length, g4.length]
      exact sz_of hz
    · exact q _ _ ((b.trans c).trans (.new hl)) ⟨l, rfl, fresh_back (b.trans c) hl, _, upd_same, pr_mono (.new hl) (pr_app g2 g4)⟩
end
/-! ### data compared -/
def dI (ms : List Int) : PyData := .list (ms.map PyData.int)
def dT (ps : List (Int × Int)) : PyData := .list (ps.map fun p => .tuple [.int p.1, .int p.2])
theorem lay_ints : ∀ ms : List Int, PyData.canLayAll0 (ms.map PyData.int) = true
  | [] => rfl
  | m :: r => by
    show (PyData.canLay0 (.int m) && PyData.canLayAll0 (r.map PyData.int)) = true
    rw [lay_ints r]
    rfl
theorem deep_ints : ∀ ms : List Int, PyData.depthAll (ms.map PyData.int) ≤ 1
  | [] => by simp [PyData.depthAll]
  | m :: r => by
    have := deep_ints r
    show max (PyData.depth (.int m)) (PyData.depthAll (r.map PyData.int)) ≤ 1
    have h0 : PyData.depth (.int m) = 0 := by simp [PyData.depth]
    omega
theorem shaped_dI (ms : List Int) : SeqAt.shaped (dI ms) = true := by
  unfold SeqAt.shaped
  have h1 : (dI ms).canLay0 = true := lay_ints ms
  have h2 : (dI ms).depth ≤ 64 := by
    have := deep_ints ms
    show PyData.depthAll (ms.map PyData.int) + 1 ≤ 64
    omega
  rw [h1, decide_eq_true h2]
  rfl
theorem lay_pairs : ∀ ps : List (Int × Int), PyData.canLayAll0 (ps.map fun p => .tuple [.int p.1, .int p.2]) = true
  | [] => rfl
  | m :: r => by
    show (PyData.canLay0 (.tuple [.int m.1, .int m.2]) && PyData.canLayAll0 (r.map fun p => .tuple [.int p.1, .int p.2])) = true
    rw [lay_pairs r]
    rfl
theorem deep_pairs : ∀ ps : List (Int × Int), PyData.depthAll (ps.map fun p => .tuple [.int p.1, .int p.2]) ≤ 2
  | [] => by simp [PyData.depthAll]
  | m :: r => by
    have := deep_pairs r
    show max (PyData.depth (.tuple [.int m.1, .int m.2])) (PyData.depthAll (r.map fun p => .tuple [.int p.1, .int p.2])) ≤ 2
    have h0 : PyData.depth (.tuple [.int m.1, .int m.2]) ≤ 2 := by simp [PyData.depth, PyData.depthAll]
    omega
theorem shaped_dT (ps : List (Int × Int)) : SeqAt.shaped (dT ps) = true := by
  unfold SeqAt.shaped
  have h1 : (dT ps).canLay0 = true := lay_pairs ps
  have h2 : (dT ps).depth ≤ 64 := by
    have := deep_pairs ps
    show PyData.depthAll (ps.map fun p => .tuple [.int p.1, .int p.2]) + 1 ≤ 64
    omega
  rw [h1, decide_eq_true h2]
  rfl
theorem eqv_pairs : ∀ ps : List (Int × Int), PyData.eqvAll (ps.map fun p => .tuple [.int p.1, .int p.2]) (ps.map fun p => .tuple [.int p.1, .int p.2]) = true
  | [] => by simp [PyData.eqvAll]
  | m :: r => by
    have := eqv_pairs r
    simp only [List.map_cons, PyData.eqvAll, this, Bool.and_true, PyData.eqv, beq_self_eq_true]
theorem eqv_dT (ps : List (Int × Int)) : PyData.eqv (dT ps) (dT ps) = true := by
  have := eqv_pairs ps
  simp only [dT, PyData.eqv, this]
theorem eqv_nil (ms : List Int) : PyData.eqv (dI ms) (.list []) = ms.isEmpty := by
  cases ms <;> simp [dI, PyData.eqv, PyData.eqvAll]
section
variable {K : PySem.W.Frag} {σ : L2.St} {H H' : Hp} {ta tb te : TE}
theorem dp_ints {xs : List V} {ms : List Int} (h : PR rpInt H xs ms) : DpAll K H xs (ms.map PyData.int) := by
  induction h with
  | nil => exact .nil
  | cons a t ih =>
    rw [show _ = V.int _ from a]
    exact .cons (.int _) ih
theorem dp_pairs : ∀ {xs : List V} {ps : List (Int × Int)}, PR rpT H xs ps → DpAll K H xs (ps.map fun p => .tuple [.int p.1, .int p.2])
  | _, _, .nil => .nil
  | _, _, .cons ⟨t, e, h⟩ r => by
    rw [e]
    exact .cons (.tup (st_of h) (.cons (.int _) (.cons (.int _) .nil))) (dp_pairs r)
theorem ev_neNil {p : Addr} {ms : List Int} (ha : Ev ta σ H (.ref p)) (h : LR rpInt H p ms) : Ev (tOp (rNeD K) ta (tLst tNil)) σ H (.bl (!ms.isEmpty)) := by
  obtain ⟨ys, h1, h2⟩ := h
  refine ev_opR ha (eg_lst ea_nil (by decide)) fun A w B a b ⟨q, e, _, hq⟩ C c Q k => ?_
  subst e
  refine ⟨dI ms, .list [], .lst (sq_of (((a.trans b).trans c).k h1)) (dp_ints (pr_mono ((a.trans b).trans c) h2)), .lst (sq_of (c.k hq)) .nil, shaped_dI ms, by decide +kernel, ?_⟩
  rw [eqv_nil]
  exact k C (.refl C)
theorem ev_eqTT {as bs : List (Int × Int)} (ha : EvLR rpT ta σ H as) (hb : EvLR rpT tb σ H bs) (he : as = bs) : Ev (tOp (rEqD K) ta tb) σ H (.bl true) := fun A a Q q =>
  ha A a _ fun _ B b ⟨p, ev, _, xs, h1, h2⟩ => hb B (a.trans b) _ fun _ C c ⟨p', ev', _, ys, h3, h4⟩ => by
    subst he ev ev'
    refine ⟨dT as, dT as, .lst (sq_of (c.k h1)) (dp_pairs (pr_mono c h2)), .lst (sq_of h3) (dp_pairs h4), shaped_dT _, shaped_dT _, ?_⟩
    rw [eqv_dT]
    exact q C (b.trans c)
theorem ev_listLR {α : Type} {r : Rp α} {p : Addr} {as : List α} (ha : Ev ta σ H (.ref p)) (h : LR r H p as) : EvLR r (tCB (rList K) (tCons ta tNil)) σ H as := fun A a Q q =>
  ha A a _ fun B b => by
    obtain ⟨ys, h1, h2⟩ := h.mono (a.trans b)
    exact ⟨p, ys, rfl, .inl (sq_of h1), fun l hl => q _ _ (b.trans (.new hl)) ⟨l, rfl, fresh_back b hl, ys, upd_same, pr_mono (.new hl) h2⟩⟩
theorem el_oneLR {α : Type} {r : Rp α} {b : α} (h : EvR te σ H (fun B v => r.R B v b)) : EvLR r (tLst (tCons te tNil)) σ H [b] := fun A a Q q =>
  h A a _ fun v B e hv => ⟨by show 1 ≤ sizeLine; decide, fun l hl => q _ _ (e.trans (.new hl)) ⟨l, rfl, fresh_back e hl, _, upd_same, .cons (r.mono (.new hl) hv) .nil⟩⟩
end
/-! ### signs, by plain numbers -/
def mixN (n : Nat) : Nat := (171 * n + 37) % 256
theorem mixN_lt (n : Nat) : mixN n < 256 := Nat.mod_lt _ (by decide)
theorem mix_int (n : Nat) : (171 * (n : Int) + 37) % 256 = ((mixN n : Nat) : Int) := by
  unfold mixN
  omega
theorem mixN_inj {a b : Nat} (ha : a < 256) (hb : b < 256) (h : mixN a = mixN b) : a = b := by
  unfold mixN at h
  omega
/-- the sign worth 2 ^ (7 - k) -/
def bitN (m k : Nat) : Nat := m / 2 ^ (7 - k) % 2
/-- the first d signs -/
def sgs (m d : Nat) : Str := ⟨((List.range d).map fun k => 48 + bitN m k).toArray⟩
theorem sgs_len (m d : Nat) : (sgs m d).length = d := by
  show ((List.range d).map _).toArray.size = d
  simp
theorem sgs_succ (m d : Nat) : sgs m (d + 1) = sgs m d ++ ⟨#[48 + bitN m d]⟩ := by
  have e : (⟨((List.range (d + 1)).map fun k => 48 + bitN m k).toArray⟩ : Str) = ⟨((List.range d).map fun k => 48 + bitN m k).toArray ++ #[48 + bitN m d]⟩ := by
    rw [List.range_succ, List.map_append]
    simp
  exact e
theorem bit01 (m k : Nat) : bitN m k = 0 ∨ bitN m k = 1 := by
  unfold bitN
  omega
theorem eight (i : Nat) (h : i < 8) : i = 0 ∨ i = 1 ∨ i = 2 ∨ i = 3 ∨ i = 4 ∨ i = 5 ∨ i = 6 ∨ i = 7 := by omega
theorem bit_ge (m i : Nat) (hi : i < 8) : (decide (2 ^ (7 - i) ≤ m % 2 ^ (8 - i))) = decide (bitN m i = 1) := by
  unfold bitN
  rcases eight i hi with h | h | h | h | h | h | h | h <;> subst h <;> (apply decide_eq_decide.mpr; simp; omega)
theorem bit_rest (m i : Nat) (hi : i < 8) : m % 2 ^ (8 - i) = 2 ^ (7 - i) * bitN m i + m % 2 ^ (8 - (i + 1)) := by
  unfold bitN
  rcases eight i hi with h | h | h | h | h | h | h | h <;> subst h <;> (simp; omega)
/-- the least number of these first signs -/
def lwN (m d : Nat) : Nat := m / 2 ^ (8 - d) * 2 ^ (8 - d)
theorem lw_lt (m d : Nat) (hm : m < 256) : lwN m d < 256 := Nat.lt_of_le_of_lt (Nat.div_mul_le_self _ _) hm
theorem lw_bit (m d k : Nat) (hd : d ≤ 8) (hk : k < 8) : bitN (lwN m d) k = if k < d then bitN m k else 0 := by
  unfold bitN lwN
  rcases (by omega : d = 8 ∨ d < 8) with h | h
  · subst h
    simp [hk]
  · rcases eight d h with h | h | h | h | h | h | h | h <;> subst h <;> (rcases eight k hk with h | h | h | h | h | h | h | h <;> subst h <;> (simp; try omega))
theorem half_bit (m i : Nat) (hi : i < 8) : 2 * (m / 2 ^ (8 - i)) + bitN m i = m / 2 ^ (8 - (i + 1)) := by
  unfold bitN
  rcases eight i hi with h | h | h | h | h | h | h | h <;> subst h <;> (simp; omega)
theorem sgs_congr {m n d : Nat} (h : ∀ k, k < d → bitN m k = bitN n k) : sgs m d = sgs n d := by
  unfold sgs
  congr 2
  exact List.map_congr_left fun k hk => by rw [h k (List.mem_range.mp hk)]
theorem lw_add (m d : Nat) (hd : d < 8) : bitN (lwN m d + 2 ^ (7 - d)) d = 1 ∧ ∀ k, k < d → bitN (lwN m d + 2 ^ (7 - d)) k = bitN m k := by
  unfold bitN lwN
  rcases eight d hd with h | h | h | h | h | h | h | h <;> subst h <;> refine ⟨by first | (simp; done) | (simp; omega), fun k hk => ?_⟩ <;> (rcases eight k (by omega) with h | h | h | h | h | h | h | h <;> subst h <;> (simp at hk ⊢; try omega))
theorem sgs_lw (m d : Nat) (hd : d < 8) : sgs (lwN m d) d = sgs m d := sgs_congr fun k hk => (lw_bit m d k (by omega) (by omega)).trans (if_pos hk)
theorem sgs_0 (m d : Nat) (hd : d < 8) : sgs m d ++ ⟨#[48]⟩ = sgs (lwN m d) (d + 1) := by
  have h0 : bitN (lwN m d) d = 0 := (lw_bit m d d (by omega) hd).trans (if_neg (Nat.lt_irrefl d))
  rw [sgs_succ, h0, sgs_lw m d hd]
theorem sgs_1 (m d : Nat) (hd : d < 8) : sgs m d ++ ⟨#[49]⟩ = sgs (lwN m d + 2 ^ (7 - d)) (d + 1) := by
  rw [sgs_succ, (lw_add m d hd).1, sgs_congr (m := lwN m d + 2 ^ (7 - d)) (n := m) (lw_add m d hd).2]
theorem cut_pre (m d e : Nat) (h : d ≤ e) : cutS (sgs m e) none (some (d : Int)) = sgs m d := by
  unfold cutS
  rw [HT.sIx_none, HT.sIx_nat, sgs_len]
  show (⟨(((((List.range e).map fun k => 48 + bitN m k).toArray.toList).drop 0).take (min d e - 0)).toArray⟩ : Str) = _
  unfold sgs
  congr 2
  rw [List.drop_zero, Nat.sub_zero, Nat.min_eq_left h, List.toList_toArray, ← List.map_take, List.take_range, Nat.min_eq_left h]
theorem cut_at (m d k : Nat) : cutS (sgs m d) (some (k : Int)) (some ((k : Int) + 1)) = if k < d then ⟨#[48 + bitN m k]⟩ else ⟨#[]⟩ := by
  unfold cutS
  rw [show ((k : Int) + 1) = ((k + 1 : Nat) : Int) by omega, HT.sIx_nat, HT.sIx_nat, sgs_len]
  show (⟨(((((List.range d).map fun k => 48 + bitN m k).toArray.toList).drop (min k d)).take (min (k + 1) d - min k d)).toArray⟩ : Str) = _
  rw [List.toList_toArray]
  by_cases h : k < d
  · rw [if_pos h, Nat.min_eq_left (Nat.le_of_lt h), Nat.min_eq_left h, show k.succ - k = 1 by omega]
    congr 2
    rw [← List.map_drop, List.drop_eq_getElem_cons (by rw [List.length_range]; exact h)]
    simp
  · rw [if_neg h, Nat.min_eq_right (by omega), Nat.min_eq_right (by omega), Nat.sub_self]
    rfl
theorem cut_last (m d c : Nat) : cutS (sgs m d ++ ⟨#[c]⟩) none (some (-1)) = sgs m d := by
  have e0 : (sgs m d ++ (⟨#[c]⟩ : Str)) = ⟨((List.range d).map fun k => 48 + bitN m k).toArray ++ #[c]⟩ := rfl
  rw [e0]
  unfold cutS
  have el : (⟨((List.range d).map fun k => 48 + bitN m k).toArray ++ #[c]⟩ : Str).length = d + 1 := by
    show (((List.range d).map fun k => 48 + bitN m k).toArray ++ #[c]).size = d + 1
    simp
  have e1 : HT.sIx (d + 1) (d + 1) (some (-1)) = d := by
    exact (show (if (-1 : Int) < 0 then ((-1 : Int) + ((d + 1 : Nat) : Int)).toNat else min (-1 : Int).toNat (d + 1)) = d from (if_pos (by decide)).trans (by omega))
  rw [el, HT.sIx_none, e1]
  show (⟨((((((List.range d).map fun k => 48 + bitN m k).toArray ++ #[c]).toList).drop 0).take (d - 0)).toArray⟩ : Str) = _
  unfold sgs
  congr 2
  rw [List.drop_zero, Nat.sub_zero]
  simp
/-! ### a number by twos as a text, and the signs of a name -/
def binT (n : Nat) : Str := ⟨((Nat.toDigits 2 n).map Char.toNat).toArray⟩
theorem strCast {x y : Str} {Q : Str → Prop} (h : Q y) (e : x = y) : Q x := e ▸ h
open Builtin Builtin.Float in
set_option maxHeartbeats 4000000 in
theorem gvB_gen {sp : Str} {f : FormatSpec} (hp : parseFormatSpec sp.cps.toList "int" 62 = .ok f) (hne : (sp.length == 0) = false)
    (hasc : ((sp.cps.toList.drop 1).any (· ≥ 128) || (sp.cps.getD 0 0 ≥ 128 && !([60, 62, 61, 94] : List Nat).contains (sp.cps.getD 1 0))) = false)
    (hty : f.type = some 98) (hpr : f.precision = none) (hz : f.noNeg0 = false) (hal : f.alt = false) (hw : f.width = none) (hgr : f.grouping = none) (hsg : f.sign = none) (hfl : f.fill = 32) (hag : f.align = 62)
    (n : Nat) (t u : Tok) : Gives («int.__format__» ⟨[.int (n : Int) t, .str sp u], []⟩) (.str (binT n)) := by
  intro prog w A R s hq
  have hsz : (binT n).length ≤ sizeLine := hq.1
  unfold «int.__format__»
  simp only [selfAndOne, noKeywords, Int.intOfSelf, asInt?, asStr?, List.isEmpty_nil, if_true, pure_bind, hne, hasc, Bool.false_eq_true, if_false, show (Value.str sp u == Value.none) = false from rfl]
  refine wpAny_bind (wpAny_typeNameOf (T := "str") (typeIs_str _ _ _) (by decide) fun _ => ?_)
  refine wpAny_bind (PyProof.Rows.wpAny_typeNameOfCut_int ?_)
  simp only [hp, hty, Option.getD_some]
  rw [if_pos (by decide)]
  show wpAny _ _ (if _ then _ else _) _ _ _
  rw [if_neg (by simp [hpr])]
  show wpAny _ _ (if _ then _ else _) _ _ _
  rw [if_neg (by simp [hz])]
  show wpAny _ _ (if _ then _ else _) _ _ _
  rw [if_neg (by decide)]
  show wpAny _ _ (if _ then _ else _) _ _ _
  rw [if_neg (by decide)]
  show wpAny _ _ (if _ then _ else _) _ _ _
  rw [if_neg (by simp [hw])]
  show wpAny _ _ (retStr _) _ _ _
  unfold retStr
  have hneg : decide ((n : Int) < 0) = false := decide_eq_false (by omega)
  obtain ⟨c, cs, hds⟩ : ∃ c cs, (Nat.toDigits 2 n).map Char.toNat = c :: cs := by
    cases hd : (Nat.toDigits 2 n).map Char.toNat with
    | nil => exact absurd (congrArg List.length hd) (by rw [List.length_map]; exact Nat.ne_of_gt (Nat.length_toDigits_pos))
    | cons c cs => exact ⟨c, cs, rfl⟩
  have hb : binT n = ⟨(c :: cs).toArray⟩ := by unfold binT; rw [hds]
  have hmap : (List.map (fun c => (if ((98 : Nat) == 88) = true then c.toUpper else c).toNat) (Nat.toDigits 2 ((n : Int)).natAbs)) = c :: cs := by
    rw [← hds]
    rfl
  rw [hneg, hmap, hal]
  obtain ⟨fl, al, sg, z0, alt, wd, gr, pr, ty⟩ := f
  simp only at hty hpr hz hal hw hgr hsg hfl hag
  subst hty hpr hz hal hw hgr hsg hfl hag
  refine wpAny_bind (wpAny_mkStr (wpAny_pure ?_) ?_)
  · refine strCast (Q := fun x => R (Except.ok (Flow.ret (Value.str x s.toks))) _) hq.2 ?_
    rw [hb]
    conv => lhs; whnf
    simp
    omega
  · refine strCast (Q := fun x => x.length ≤ sizeLine) hsz ?_
    rw [hb]
    conv => lhs; whnf
    simp
    omega
open Builtin Builtin.Float in
def fB : FormatSpec := { align := 62, type := some 98 }
theorem hpB : Builtin.Float.parseFormatSpec ("b" : Str).cps.toList "int" 62 = .ok fB := by kernel_rfl
theorem neB : (("b" : Str).length == 0) = false := by decide +kernel
theorem ascB : ((("b" : Str).cps.toList.drop 1).any (· ≥ 128) || (("b" : Str).cps.getD 0 0 ≥ 128 && !([60, 62, 61, 94] : List Nat).contains (("b" : Str).cps.getD 1 0))) = false := by decide +kernel
section
variable {X : Cx}
/-- {e:b} of a number not below nought -/
def tFmtB (te : TE) : TE := fun σ H Q => te σ H fun x H1 => ∃ n : Nat, x = .int (n : Int) ∧ (binT n).length ≤ sizeLine ∧ Q (.str (binT n)) H1
theorem pe_fmtB {e : Expr} {te : TE} {j : Nat} {p1 p2 pos : Pos} (he : PE X e te) : PE X (.FormattedValue e (-1) (some (.JoinedStr [.Constant (.str "b") j p1] p2)) pos) (tFmtB te) := by
  refine ⟨fun pins s σ H Q I h => ?_⟩
  refine wpAny_FormattedValue_spec (thn (he.run pins s σ H _ I h) fun v s1 hv => ?_)
  obtain ⟨x, H1, I1, r1, n, rfl, hz, q⟩ := hv
  obtain ⟨t, rfl⟩ := r1
  refine wpAny_JoinedStr_one (Calls.Constant_str ?_)
  refine ⟨_, _, rfl, ?_⟩
  refine wpAny_formatField_spec neB (fun s' => typeIs_int s' _ _) PyProof.Rows.slot_int_format PyProof.Rows.entry_int_format (PyProof.Rows.args_int_format) (fun u => gvB_gen hpB neB ascB rfl rfl rfl rfl rfl rfl rfl rfl rfl n t u) ?_ (by decide +kernel) hz
  exact ⟨.str (binT n), H1, I1.tok _, ⟨_, rfl⟩, q⟩
end
/-- eight signs by twos -/
def sg8 (m : Nat) : Str := ⟨#[48 + m / 128 % 2, 48 + m / 64 % 2, 48 + m / 32 % 2, 48 + m / 16 % 2, 48 + m / 8 % 2, 48 + m / 4 % 2, 48 + m / 2 % 2, 48 + m % 2]⟩
theorem zf8 : ∀ m : Nat, m < 256 → Txt.zfill (binT m) 8 = sg8 m := by decide +kernel
theorem binT_len : ∀ m : Nat, m < 256 → (binT m).length ≤ sizeLine := fun m h => Nat.le_trans (by revert m; decide +kernel : (binT m).length ≤ 8) (by decide)
section
variable {K : PySem.W.Frag} {σ : L2.St} {H H' : Hp} {ta te : TE} {z : V}
theorem ev_fmtB {n : Nat} (h : Ev te σ H (.int (n : Int))) (hn : n < 256) : Ev (tFmtB te) σ H (.str (binT n)) := fun A a Q q => h A a _ fun B b => ⟨n, rfl, binT_len n hn, q B b⟩
theorem ev_bmS {r : V → List V → Hp → VK → Prop} {t : TA} {s : Str} {vs : List V} (h : Ev te σ H (.str s)) (ha : EvA t σ H vs) (hr : ∀ A, Ex H A → ∀ Q : VK, (∀ B, Ex A B → Q z B) → r (.str s) vs A Q) : Ev (tBM K "str" r te t) σ H z := fun A a Q q =>
  h A a _ fun B b => ⟨rfl, ha B (a.trans b) _ fun C c => hr C ((a.trans b).trans c) Q fun D d => q D ((b.trans c).trans d)⟩
theorem ev_zfill {t : TA} {s : Str} {i : Int} (h : Ev te σ H (.str s)) (ha : EvA t σ H [.int i]) (hi : PadOk i = true) : Ev (tBM K "str" (fun x xs H Q => ∃ (a : Str) (i : Int), x = .str a ∧ xs = [.int i] ∧ PadOk i = true ∧ Q (.str (Txt.zfill a i)) H) te t) σ H (.str (Txt.zfill s i)) :=
  ev_bmS h ha fun A _ Q q => ⟨s, i, rfl, rfl, hi, q A (.refl A)⟩
end
theorem sg8_is (m : Nat) : sg8 m = sgs m 8 := by
  have e : m / 2 ^ (7 - 7) = m := Nat.div_one m
  unfold sg8 sgs bitN
  rw [show List.range 8 = [0, 1, 2, 3, 4, 5, 6, 7] from rfl]
  simp only [List.map_cons, List.map_nil]
  rw [e]
/-! ### a comprehension while an exception is handled -/
section
variable {X : Cx}
theorem ok_pn {p : Addr × Obj} (o : X.Ok) : ({ X with pn := [p] } : Cx).Ok := ⟨o.mod, o.kind, o.glob, o.blt, o.above, o.inj, o.has, o.cab, o.hd, o.frames, o.stk, o.exf, o.bs, o.bsz, o.noex, o.exfs, o.funs, o.frf⟩
theorem ok_np {pn : List (Addr × Obj)} (o : ({ X with pn := pn } : Cx).Ok) : X.Ok := ⟨o.mod, o.kind, o.glob, o.blt, o.above, o.inj, o.has, o.cab, o.hd, o.frames, o.stk, o.exf, o.bs, o.bsz, o.noex, o.exfs, o.funs, o.frf⟩
theorem inv_pn {p : Addr × Obj} {σ : L2.St} {H : Hp} {s : Shared} (I : L2.Inv X [] σ H s) (hp : s.heap.get? p.1 = some p.2) (hH : H p.1 = none) (hl : p.1 ≠ X.env.locals) (hf : p.1 ∉ X.fs) (hd : ∀ v, p.2.data ≠ Data.cell v) : L2.Inv ({ X with pn := [p] } : Cx) [] σ H s :=
  ⟨ok_pn I.ok, I.os, I.bare, I.base, I.loc, I.cell, I.free, I.freeC, fun q hq => by
    obtain rfl : q = p := by simpa using hq
    exact ⟨hp, hH, hl, hf, hd⟩, I.hok, I.len⟩
theorem inv_np {pn : List (Addr × Obj)} {σ : L2.St} {H : Hp} {s : Shared} (h0 : X.pn = []) (I : L2.Inv ({ X with pn := pn } : Cx) [] σ H s) : L2.Inv X [] σ H s :=
  ⟨ok_np I.ok, I.os, I.bare, I.base, I.loc, I.cell, I.free, I.freeC, fun q hq => by simp [h0] at hq, I.hok, I.len⟩
open PySem.Spec PyProof.Rows in
set_option maxHeartbeats 4000000 in
theorem pe_lcH {elt tg iter : Expr} {ifs : List Expr} {scope : Scope} {own : List (Str × Nat)} {pos : Pos} {wi : TI} {g : TG} {tt : TT} {te : TE} (hc : L2H.HotC X) (hN : X.N.Nodup) (hi : L2H.PIH X tg iter wi) (ok : BlkOk X.N X.env.scope scope own)
    (hg : ∀ (s : Shared) (H : Hp) (C : Addr) (cl : List (Str × Addr)) (fp : List Addr), PG (X.blk s H scope (compEnvC scope cl C X.env) fp) tg g)
    (ht : ∀ (s : Shared) (H : Hp) (C : Addr) (cl : List (Str × Addr)) (fp : List Addr), PTs (X.blk s H scope (compEnvC scope cl C X.env) fp) ifs tt)
    (he : ∀ (s : Shared) (H : Hp) (C : Addr) (cl : List (Str × Addr)) (fp : List Addr), PE (X.blk s H scope (compEnvC scope cl C X.env) fp) elt te)
    (hs : ∀ x : Value, foldedSetIterable iter X.env x = pure x := by intro _; rfl) :
    PE X (.ListComp elt [⟨tg, iter, ifs, 0⟩] scope pos) (tLc wi g tt te (own.map fun x => x.2)) := by
  refine ⟨fun pins s σ H Q I h => ?_⟩
  rw [eval_ListComp]
  obtain ⟨p, ⟨hh, vs, hd, hv⟩, hpm⟩ := hc
  have hfree : ∀ y ∈ scope.names, y.2 = .free → ∃ c, X.env.cells.lookup y.1 = some c := fun y hy e => (ok.free y hy e).elim (fun k => I.ok.has y.1 (.inl k)) fun k => I.ok.has y.1 (.inr k)
  refine wpAny_comprehension_free rfl hs (closure_ok hfree) ok.kind (fun y hy e => by rw [ok.uniq y hy, e]) (thn (hi.run pins s σ H _ I h) fun xv s1 hx => thn hx fun itv s2 h2 => ?_)
  obtain ⟨it, fp, tn, J, H2, rfl, I2, T, st2, f2, q⟩ := h2
  refine wpAny_newObj_type (newEnv_comp ?_) (show (0 : Nat) ≤ sizeLine from Nat.zero_le _)
  have hDn : H2 s2.heap.objs.size = none := I2.hok.fresh (Nat.le_refl _)
  obtain ⟨W, ⟨m0, w0⟩, turn⟩ := q s2.heap.objs.size hDn
  have I3 : L2.Inv X pins σ (upd H2 s2.heap.objs.size (.lst [])) { s2 with heap := s2.heap.push { cls := .type "list", data := .seq #[] } } :=
    Inv.laid I2 (fun b o e => Heap.get?_push_of_some _ e) (Nat.le_refl _) ⟨Nat.zero_le _, [], 0, Paired.nil, Heap.get?_push_size _ rfl⟩
  have sz : ∀ b ∈ fp, b < s2.heap.objs.size := fun b hb => by
    obtain ⟨o, e, _⟩ := T.obj 0 s2.heap st2 b hb
    exact Heap.lt_size e
  have st3 : tn 0 (s2.heap.push { cls := .type "list", data := .seq #[] }) := T.keep 0 s2.heap _ st2 fun b _ o e => Heap.get?_push_of_some _ e
  have f3 : ∀ b ∈ fp, FpOk X pins (upd H2 s2.heap.objs.size (.lst [])) b ∧ b < (s2.heap.push { cls := .type "list", data := .seq #[] }).objs.size := fun b hb => by
    refine ⟨⟨?_, (f2 b hb).2⟩, ?_⟩
    · rw [upd_ne (Nat.ne_of_lt (sz b hb))]
      exact (f2 b hb).1
    · rw [Heap.size_push]
      exact Nat.lt_succ_of_lt (sz b hb)
  generalize hD : s2.heap.objs.size = D at *
  generalize hS : ({ s2 with heap := s2.heap.push { cls := .type "list", data := .seq #[] } } : Shared) = s3 at I3
  have hh3 : s2.heap.push { cls := .type "list", data := .seq #[] } = s3.heap := by rw [← hS]
  rw [hh3] at st3 f3
  generalize upd H2 D (.lst []) = H3 at I3 f3 w0
  have I4 := block_start I3 ok hN f3
  have pg := hg s3 H3 s3.heap.objs.size (cellsFrom (s3.heap.objs.size + 1) scope.names (cloFrom X.env.cells scope.names [])) fp
  have pt := ht s3 H3 s3.heap.objs.size (cellsFrom (s3.heap.objs.size + 1) scope.names (cloFrom X.env.cells scope.names [])) fp
  have pe := he s3 H3 s3.heap.objs.size (cellsFrom (s3.heap.objs.size + 1) scope.names (cloFrom X.env.cells scope.names [])) fp
  have nfp : ∀ b ∈ fp, H3 b = none := fun b hb => (f3 b hb).1.1
  have st4 : tn 0 (pushCells (s3.heap.push { cls := .type "dict", data := .dict #[] }) scope.names) := T.keep 0 s3.heap _ st3 fun b _ o e => pushCells_keeps scope.names _ b o (Heap.get?_push_of_some _ e)
  have cL : (compEnvC scope (cellsFrom (s3.heap.objs.size + 1) scope.names (cloFrom X.env.cells scope.names [])) s3.heap.objs.size X.env).locals = s3.heap.objs.size := rfl
  obtain ⟨pg3, pH3, pl3, pf3, pd3⟩ := I3.pin p (List.mem_append_left _ hpm)
  have pfp : p.1 ∉ fp := fun hb => (f3 p.1 hb).1.2.2.2.2.2 p (List.mem_append_left _ hpm) rfl
  have pfr : p.1 ∉ frs X.stack := by
    rcases I3.ok.stk with e | ⟨e, e2⟩
    · rw [e]
      exact pf3
    · rw [e]
      intro hb
      unfold frs at hb
      rw [List.filterMap_cons, e2] at hb
      rcases List.mem_cons.mp hb with z | z
      · exact pl3 z
      · exact pf3 z
  generalize hce : compEnvC scope (cellsFrom (s3.heap.objs.size + 1) scope.names (cloFrom X.env.cells scope.names [])) s3.heap.objs.size X.env = ce at I4 pg pt pe cL
  have hotb : ∀ {σ5 : L2.St} {H5 : Hp} {s5 : Shared}, L2.Inv (X.blk s3 H3 scope ce fp) [] σ5 H5 s5 → L2.Inv ({ X.blk s3 H3 scope ce fp with pn := [p] } : Cx) [] σ5 H5 s5 := fun {σ5 H5 s5} I5 => by
    have g5 := I5.base.keep p.1 p.2 pg3 pH3 pfr pfp
    exact inv_pn I5 g5 (I5.base.free p.1 p.2 pg3 pH3 pfp) (by
      show p.1 ≠ ce.locals
      rw [cL]
      exact Nat.ne_of_lt (Heap.lt_size pg3)) pfr pd3
  have hotc : L2H.HotC ({ X.blk s3 H3 scope ce fp with pn := [p] } : Cx) := ⟨p, ⟨hh, vs, hd, hv⟩, List.mem_singleton.mpr rfl⟩
  have stat : ∀ {σ' : L2.St} {H' : Hp} {s' : Shared}, L2.Inv (X.blk s3 H3 scope ce fp) [] σ' H' s' → (∀ b ∈ fp, H' b = none) → ∀ b ∈ fp, FpOk (X.blk s3 H3 scope ce fp) [] H' b := fun {σ' H' s'} I' hn b hb =>
    ⟨hn b hb, (I'.ok.exf b hb).1, I'.ok.exfs b hb, .inl hb, fun x c e => (I'.ok.exf b hb).2 x c e, fun q hq => by simp at hq⟩
  have statP : ∀ {σ' : L2.St} {H' : Hp} {s' : Shared}, L2.Inv (X.blk s3 H3 scope ce fp) [] σ' H' s' → (∀ b ∈ fp, H' b = none) → ∀ b ∈ fp, FpOk ({ X.blk s3 H3 scope ce fp with pn := [p] } : Cx) [] H' b := fun {σ' H' s'} I' hn b hb =>
    ⟨hn b hb, (I'.ok.exf b hb).1, I'.ok.exfs b hb, .inl hb, fun x c e => (I'.ok.exf b hb).2 x c e, fun q hq => by
      obtain rfl : q = p := by simpa using hq
      exact fun z => pfp (z ▸ hb)⟩
  have loop : codeAny (model X.prog X.w) X.A (.compLoop (.ListComp elt [⟨tg, iter, ifs, 0⟩] scope pos) 0 (.ref it) (.ref D) ce) (compPost (model X.prog X.w) X.A X.xe none (EP X pins σ Q) (.ref D) s3.heap.objs.size) { s3 with heap := pushCells (s3.heap.push { cls := .type "dict", data := .dict #[] }) scope.names } := by
    refine compLoop_any (fun n s' => ∃ i H', L2.Inv (X.blk s3 H3 scope ce fp) [] (wipe σ (own.map fun x => x.2)) H' s' ∧ tn i s'.heap ∧ (∀ b ∈ fp, H' b = none) ∧ W i n H') ?_ m0 ⟨0, H3, I4, st4, nfp, w0⟩
    rintro n s5 ⟨i, H5, I5, st5, n5, w5⟩
    rcases turn i n H5 w5 with ⟨stop, qq⟩ | ⟨go, Nx, hNx, step⟩
    · refine thnF (T.done ({ X.blk s3 H3 scope ce fp with pn := [p] } : Cx) rfl rfl rfl hotc i [] s5 _ H5 (fun _ _ => False) (hotb I5) (statP I5 n5) st5 stop) ?_
      rintro r s6 ⟨rfl, I6p⟩
      have I6 : L2.Inv (X.blk s3 H3 scope ce fp) [] (wipe σ (own.map fun x => x.2)) H5 s6 := inv_np rfl I6p
      have I7 : L2.Inv X pins σ H5 s6 := Inv.call' I3 I6.os I6.base I6.hok I6.bare fun b hb => ⟨(f3 b hb).1.2.2.2.1, (f3 b hb).1.2.1, (f3 b hb).1.2.2.2.2.1, (f3 b hb).1.2.2.2.2.2⟩
      have nC : H5 s3.heap.objs.size = none := cL ▸ I6.free
      obtain ⟨m, hn, _⟩ := I6.loc
      have hn' : s6.heap.Ns s3.heap.objs.size m := cL ▸ hn
      obtain ⟨f0, f1, fx, f3', f4, f5⟩ := Inv.fpOk (H' := H5) I3 (Nat.le_refl s3.heap.objs.size) nC
      exact ⟨m, hn', fun h'' sb => ⟨.ref D, H5, Inv.turned I7 (fun b o hb e => (sb.right b hb).trans e) f0 f1 f3' f4 f5, rfl, qq⟩⟩
    · refine thnF (T.item ({ X.blk s3 H3 scope ce fp with pn := [p] } : Cx) rfl rfl rfl hotc i [] s5 _ H5 (fun _ _ => False) (hotb I5) (statP I5 n5) st5 go) ?_
      rintro r s6 ⟨u, rfl, h6⟩
      refine thnF h6 ?_
      rintro _ s7 ⟨x, H7, I7p, r7, y7, st7, n7⟩
      have I7 : L2.Inv (X.blk s3 H3 scope ce fp) [] (wipe σ (own.map fun x => x.2)) H7 s7 := inv_np rfl I7p
      have I7' := Inv.pinned I7 (stat I7 n7) (T.obj (i + 1) s7.heap st7)
      refine thnF (pg.run ([] ++ pinsAt fp s7.heap) s7 _ H7 x u _ I7' r7 (step x H7 y7)) ?_
      rintro _ s8 ⟨σ8, H8, I8, hw8, q8⟩
      refine thnF (pt.run ([] ++ pinsAt fp s7.heap) s8 σ8 H8 _ I8 q8) ?_
      rintro b s9 ⟨H9, I9, q9⟩
      have fin : ∀ {s' : Shared} {H' : Hp}, L2.Inv (X.blk s3 H3 scope ce fp) ([] ++ pinsAt fp s7.heap) σ8 H' s' → Nx H' → ∃ m, m < n ∧ ∃ i H', L2.Inv (X.blk s3 H3 scope ce fp) [] (wipe σ (own.map fun x => x.2)) H' s' ∧ tn i s'.heap ∧ (∀ b ∈ fp, H' b = none) ∧ W i m H' := fun {s' H'} I' nx => by
        obtain ⟨m', hm, w'⟩ := hNx H' nx
        have pin' : ∀ b ∈ fp, ∀ o, s7.heap.get? b = some o → s'.heap.get? b = some o ∧ H' b = none := fun b hb o e => by
          obtain ⟨z1, z2, _⟩ := I'.pin (b, o) (List.mem_append_right _ (List.mem_append_right [] (mem_pinsAt hb e)))
          exact ⟨z1, z2⟩
        refine ⟨m', hm, i + 1, H', Inv.weak (Inv.unpinned I') (by rw [← hw8, wipe_length]) fun j v e => ?_, T.keep (i + 1) s7.heap s'.heap st7 fun b hb o e => (pin' b hb o e).1, fun b hb => ?_, w'⟩
        · rw [← hw8] at e
          exact (wipe_some e).1
        · obtain ⟨o, e, _⟩ := T.obj (i + 1) s7.heap st7 b hb
          exact (pin' b hb o e).2
      cases b with
      | false => exact fin I9 q9
      | true =>
        refine thnF (pe.run ([] ++ pinsAt fp s7.heap) s9 σ8 H9 _ I9 q9) ?_
        rintro z s10 ⟨yv, H10, I10, r10, acc, hD10, hz10, nx⟩
        exact app_ok (X := X.blk s3 H3 scope ce fp) I10 hD10 hz10 r10 fun s11 I11 => fin I11 nx
  have done := codeAny_compStart_list loop (T.self X.A 0 _ _ _ st4 loop)
  subst hce hS hD
  exact done
end
/-! ### a def that is called while an exception of a known kind is handled -/
structure FnHZ (P : Program) (w : World) (K : PySem.W.Frag) (mg : Str → Option Value) (base : Heap) (CX : CXT) (k : Nat) (f : Addr) (fd : FuncData) (ps : List Str) (Z : Addr × Obj → Prop) (sp : Addr → Sp) : Prop where
  len : ∀ (a : Addr) (vs : List V) (H : Hp) (Q : VK) (E : XK), sp a vs H Q E → vs.length = ps.length
  run : ∀ (A : Around) (outer : List Env) (s : Shared) (H : Hp) (args : Args) (us : List Value) (vs : List V) (Q : VK) (E : XK) (p : Addr × Obj),
    L2H.RoomH k A → L2H.Hot1 A p → Z p → L2H.PinOk outer H s p → Env0 P w K mg base A outer s H → BindsTo s fd args (ps.zip us) → Vals vs us → sp p.1 vs H Q E → codeAny (model P w) A (.call (.ref f) args) (CR CX outer P w H s Q E) s
section
variable {CX : CXT} {P : Program} {w : World} {K : PySem.W.Frag} {mg : Str → Option Value} {base : Heap} {Z : Addr × Obj → Prop} {sp : Addr → Sp}
open PySem.Spec PyProof.Rows in
set_option maxHeartbeats 2000000 in
theorem fn_ofHZ {k : Nat} {f : Addr} {name qual : Str} {params : Arguments} {body : List Stmt} {scope : Scope} {dV kV doc pm cdv ct oc : Value} {an od : Option Addr} {osl : Array (Option Value)} {N ps : List Str}
    (lk : K.lookup f = some ⟨oc, od, .func (PySem.W.fnOf name qual params body scope dV kV doc pm an cdv ct), osl⟩) (hcd : PySem.W.codeIn K cdv qual = true) (S : FnScope N ps scope)
    (len : ∀ (a : Addr) (vs : List V) (H : Hp) (Q : VK) (E : XK), sp a vs H Q E → vs.length = ps.length)
    (hbody : ∀ (A : Around) (outer : List Env) (s : Shared) (H : Hp) (vs : List V) (Q : VK) (E : XK) (p : Addr × Obj), L2H.Hot1 A p → Z p → L2H.RoomH k (A.deeper (envOfC qual scope s.heap.objs.size f cdv)) → sp p.1 vs H Q E →
      ∃ t, PSs (L2H.cxH CX P w K mg base N qual scope f cdv A outer s H E p) body t ∧ t { nx := fun _ H' => Q .non H', rt := Q } (L2.start N vs) H) :
    FnHZ P w K mg base CX (k + 1) f (PySem.W.fnOf name qual params body scope dV kV doc pm an cdv ct) ps Z sp := by
  refine ⟨len, fun A outer s H args us vs Q E p hr hot hz hpin e0 hb r hsp => ?_⟩
  have hl := len p.1 vs H Q E hsp
  have KX := PySem.W.Frag.In.keeps e0.mod.kin fun b o e => (e0.bs b o e).1
  have lim := Heap.NoLimit.keeps e0.mod.nolimit fun b o e => (e0.bs b o e).1
  refine codeAny_call_function hr.depth (KX f _ lk) rfl S.co S.gen rfl (PySem.W.codeRec_of KX hcd) (hb (model P w) A.in1 _ _ ?_)
  refine wpAny_newFunctionEnv_cells S.kind (fun x hy => ?_) fun env he s1 x => ?_
  · obtain ⟨n, v⟩ := x
    rcases S.par n (List.of_mem_zip hy).1 with q | q
    · exact .inl q
    · exact .inr ⟨q, PySem.W.cellsFrom_some scope.names (s.heap.objs.size + 1) [] (.inl q)⟩
  subst he
  refine ⟨Heap.NoLimit.keeps lim x.toInCall.keep, codeAny_func ?_⟩
  obtain ⟨t, ht, hq⟩ := hbody A outer s H vs Q E p hot hz (hr.deeper _) hsp
  have I : L2.Inv (L2H.cxH CX P w K mg base N qual scope f cdv A outer s H E p) [] (L2.start N vs) H s1 := L2H.inv_startH S hpin e0 hl r x
  refine wpAny_mono (ht.run [] s1 (L2.start N vs) H { nx := fun _ H' => Q .non H', rt := Q } I hq) (fun fl s' hs => ?_) fun e s' hs => hs
  cases fl with
  | next =>
    obtain ⟨σ', H', J, q⟩ := hs
    exact ⟨.non, _, J.os, J.bare, J.base, J.hok, rfl, q⟩
  | ret u =>
    obtain ⟨v, σ', H', J, rv, q⟩ := hs
    exact ⟨_, _, J.os, J.bare, J.base, J.hok, rv, q⟩
  | brk =>
    obtain ⟨_, _, _, q⟩ := hs
    exact q.elim
  | cont =>
    obtain ⟨_, _, _, q⟩ := hs
    exact q.elim
open PySem.Spec PyProof.Rows in
set_option maxHeartbeats 2000000 in
theorem pe_callHZ {X : Cx} {k : Nat} {f : Addr} {fd : FuncData} {ps : List Str} {E : L2.St → XK} {x : Str} {q pos : Pos} {e : Expr} {es : List Expr} {t : TA} {p : Addr × Obj}
    (F : FnHZ X.prog X.w X.K X.mg X.base CX k f fd ps Z sp) (hr : L2H.RoomH k X.A) (hot : L2H.Hot1 X.A p) (hp : p ∈ X.pn) (hz : Z p) (hg : Gl X x) (hm : X.mg x = some (.ref f)) (hk : PySem.W.keepIn X.K (.ref f) = true) (hb : Binds X.K fd ps []) (hx : ∀ σ, PassesAt CX X σ (E σ))
    (ha : PA X (e :: es) t) (hdb : (x == ("__debug__" : Str)) = false := by decide +kernel) (he : starEach (e :: es) X.env = (false, eval e X.env) :: starEach es X.env := by rfl) (hpl : ((backTo pos (starEach es X.env)).any fun x => x.1) = false := by rfl) :
    PE X (.Call (.Name x q) (e :: es) [] pos) (tCallS (sp p.1) E t) := by
  refine ⟨fun pins s σ H Q I h => wpAny_Call_Name_kw (ld_glob I hg hm (PySem.W.callWith_K I.ok.mod.kin hk (thn (ha.run pos pins s σ H (fun vs H1 => sp p.1 vs H1 Q (E σ)) I h) fun us s1 z => ?_) he hpl) hdb)⟩
  obtain ⟨vs, H1, I1, r, q⟩ := z
  refine ⟨Inv.kIn I1, ?_⟩
  have hl : us.length = ps.length := r.length.symm.trans (F.len p.1 vs H1 Q (E σ) q)
  have b := hb s1 us (Inv.kIn I1) (by rw [List.append_nil]; exact hl)
  rw [List.append_nil] at b
  have P1 := I1.pin p (List.mem_append_left _ hp)
  refine wpAny_call (codeAny_mono (F.run X.A X.stack s1 H1 ⟨us, []⟩ us vs Q (E σ) p hr hot hz ⟨P1.1, P1.2.1, fun hm => ?_, P1.2.2.2.2⟩ (Inv.env0 I1) b r q) fun r s' hq => ?_)
  · rcases List.mem_cons.mp (Inv.stkSub I1 p.1 hm) with z | z
    · exact P1.2.2.1 z
    · exact P1.2.2.2.1 z
  · cases r with
    | error e => exact hx σ pins H1 s1 e s' I1 hq
    | ok fl =>
      cases fl with
      | next => exact hq.elim
      | brk => exact hq.elim
      | cont => exact hq.elim
      | ret u => exact Inv.after I1 hq
end
def top (i : Nat) : Stmt := PySem.Challenge.pw_splitrooms_k01_mixed_names.main.body.getD i (.Pass ⟨0, 0, 0, 0⟩)
abbrev s_check_name : Stmt := top 12
abbrev n_check_name : List Str := ["name"]
theorem sc_check_name : FnScope n_check_name ["name"] (defScope s_check_name) := ⟨rfl, rfl, rfl, by decide +kernel, rfl, by decide +kernel, by decide +kernel⟩
abbrev s_mixed : Stmt := top 13
abbrev n_mixed : List Str := ["name"]
theorem sc_mixed : FnScope n_mixed ["name"] (defScope s_mixed) := ⟨rfl, rfl, rfl, by decide +kernel, rfl, by decide +kernel, by decide +kernel⟩
abbrev s_unmixed : Stmt := top 14
abbrev n_unmixed : List Str := ["number"]
theorem sc_unmixed : FnScope n_unmixed ["number"] (defScope s_unmixed) := ⟨rfl, rfl, rfl, by decide +kernel, rfl, by decide +kernel, by decide +kernel⟩
abbrev s_signs : Stmt := top 15
abbrev n_signs : List Str := ["name", "by_twos"]
theorem sc_signs : FnScope n_signs ["name"] (defScope s_signs) := ⟨rfl, rfl, rfl, by decide +kernel, rfl, by decide +kernel, by decide +kernel⟩
abbrev s_l_whole : Stmt := top 17
abbrev n_l_whole : List Str := ["_law_found"]
theorem sc_l_whole : FnScope n_l_whole ["_law_found"] (defScope s_l_whole) := ⟨rfl, rfl, rfl, by decide +kernel, rfl, by decide +kernel, by decide +kernel⟩
abbrev s_l_cell_at : Stmt := top 18
abbrev n_l_cell_at : List Str := ["_law_script", "_law_k"]
theorem sc_l_cell_at : FnScope n_l_cell_at ["_law_script", "_law_k"] (defScope s_l_cell_at) := ⟨rfl, rfl, rfl, by decide +kernel, rfl, by decide +kernel, by decide +kernel⟩
abbrev s_l_none : Stmt := top 19
abbrev n_l_none : List Str := ["_law_cell", "_law_far"]
theorem sc_l_none : FnScope n_l_none ["_law_cell"] (defScope s_l_none) := ⟨rfl, rfl, rfl, by decide +kernel, rfl, by decide +kernel, by decide +kernel⟩
abbrev s_l_called : Stmt := top 20
abbrev n_l_called : List Str := ["_law_way", "_law_thing"]
theorem sc_l_called : FnScope n_l_called ["_law_way", "_law_thing"] (defScope s_l_called) := ⟨rfl, rfl, rfl, by decide +kernel, rfl, by decide +kernel, by decide +kernel⟩
abbrev s_l_alone : Stmt := top 21
abbrev n_l_alone : List Str := ["_law_e", "_law_which", "_law_kinds", "_law_k"]
theorem sc_l_alone : FnScope n_l_alone ["_law_e", "_law_which"] (defScope s_l_alone) := ⟨rfl, rfl, rfl, by decide +kernel, rfl, by decide +kernel, by decide +kernel⟩
abbrev s_l_refused : Stmt := top 22
abbrev n_l_refused : List Str := ["_law_way", "_law_thing", "_law_told", "_law_e"]
theorem sc_l_refused : FnScope n_l_refused ["_law_way", "_law_thing"] (defScope s_l_refused) := ⟨rfl, rfl, rfl, by decide +kernel, rfl, by decide +kernel, by decide +kernel⟩
abbrev s_law : Stmt := top 23
abbrev n_law : List Str := ["_law_script", "_law_name", "_law_number", "_law_told", "_law_back", "_law_one"]
theorem sc_law : FnScope n_law ["_law_script"] (defScope s_law) := ⟨rfl, rfl, rfl, by decide +kernel, rfl, by decide +kernel, by decide +kernel⟩
structure Top (K : PySem.W.Frag) (mg : Str → Option Value) where
  a_RoomError : Addr
  g_RoomError : mg "RoomError" = some (.ref a_RoomError)
  a_BadName : Addr
  g_BadName : mg "BadName" = some (.ref a_BadName)
  x_BadName : PySem.W.excIn K a_BadName [.type "ValueError", .type "Exception", .type "BaseException", .type "object"] "ValueError.__new__" = true
  kc_BadName : PySem.W.keepIn K (.ref a_BadName) = true
  bc_BadName : PySem.W.subIn K (.ref a_BadName) (.type "BaseException") = some true
  tc_BadName : PySem.W.typeIn K (.ref a_BadName) = some (.type "type")
  a_BadBound : Addr
  g_BadBound : mg "BadBound" = some (.ref a_BadBound)
  a_NoThing : Addr
  g_NoThing : mg "NoThing" = some (.ref a_NoThing)
  a_NoStore : Addr
  g_NoStore : mg "NoStore" = some (.ref a_NoStore)
  c_SIGNS : {t : Tok // mg "SIGNS" = some (.int 8 t)}
  c_NAMES : {t : Tok // mg "NAMES" = some (.int 256 t)}
  c_FACTOR : {t : Tok // mg "FACTOR" = some (.int 171 t)}
  c_SHIFT : {t : Tok // mg "SHIFT" = some (.int 37 t)}
  c_UNDOING_FACTOR : {t : Tok // mg "UNDOING_FACTOR" = some (.int 3 t)}
  a_check_name : Addr
  fd_check_name : FuncData
  F_check_name : Fun K "check_name" "check_name" s_check_name a_check_name fd_check_name
  g_check_name : mg "check_name" = some (.ref a_check_name)
  b_check_name : Binds K fd_check_name ["name"] []
  a_mixed : Addr
  fd_mixed : FuncData
  F_mixed : Fun K "mixed" "mixed" s_mixed a_mixed fd_mixed
  g_mixed : mg "mixed" = some (.ref a_mixed)
  b_mixed : Binds K fd_mixed ["name"] []
  a_unmixed : Addr
  fd_unmixed : FuncData
  F_unmixed : Fun K "unmixed" "unmixed" s_unmixed a_unmixed fd_unmixed
  g_unmixed : mg "unmixed" = some (.ref a_unmixed)
  b_unmixed : Binds K fd_unmixed ["number"] []
  a_signs : Addr
  fd_signs : FuncData
  F_signs : Fun K "signs" "signs" s_signs a_signs fd_signs
  g_signs : mg "signs" = some (.ref a_signs)
  b_signs : Binds K fd_signs ["name"] []
  a_l_whole : Addr
  fd_l_whole : FuncData
  F_l_whole : Fun K "_law_whole" "_law_whole" s_l_whole a_l_whole fd_l_whole
  g_l_whole : mg "_law_whole" = some (.ref a_l_whole)
  b_l_whole : Binds K fd_l_whole ["_law_found"] []
  a_l_cell_at : Addr
  fd_l_cell_at : FuncData
  F_l_cell_at : Fun K "_law_cell_at" "_law_cell_at" s_l_cell_at a_l_cell_at fd_l_cell_at
  g_l_cell_at : mg "_law_cell_at" = some (.ref a_l_cell_at)
  b_l_cell_at : Binds K fd_l_cell_at ["_law_script", "_law_k"] []
  a_l_none : Addr
  fd_l_none : FuncData
  F_l_none : Fun K "_law_none" "_law_none" s_l_none a_l_none fd_l_none
  g_l_none : mg "_law_none" = some (.ref a_l_none)
  b_l_none : Binds K fd_l_none ["_law_cell"] []
  a_l_called : Addr
  fd_l_called : FuncData
  F_l_called : Fun K "_law_called" "_law_called" s_l_called a_l_called fd_l_called
  g_l_called : mg "_law_called" = some (.ref a_l_called)
  b_l_called : Binds K fd_l_called ["_law_way", "_law_thing"] []
  a_l_alone : Addr
  fd_l_alone : FuncData
  F_l_alone : Fun K "_law_alone" "_law_alone" s_l_alone a_l_alone fd_l_alone
  g_l_alone : mg "_law_alone" = some (.ref a_l_alone)
  b_l_alone : Binds K fd_l_alone ["_law_e", "_law_which"] []
  a_l_refused : Addr
  fd_l_refused : FuncData
  F_l_refused : Fun K "_law_refused" "_law_refused" s_l_refused a_l_refused fd_l_refused
  g_l_refused : mg "_law_refused" = some (.ref a_l_refused)
  b_l_refused : Binds K fd_l_refused ["_law_way", "_law_thing"] []
  a_law : Addr
  fd_law : FuncData
  F_law : Fun K "law" "law" s_law a_law fd_law
  g_law : mg "law" = some (.ref a_law)
  b_law : Binds K fd_law ["_law_script"] []
  z_ValueError : mg "ValueError" = none
  z_bool : mg "bool" = none
  z_int : mg "int" = none
  z_isinstance : mg "isinstance" = none
  z_len : mg "len" = none
  z_range : mg "range" = none
  z_type : mg "type" = none
  X_BadName : L2.ExcC K a_BadName
  k_BadName : PySem.W.kitOne K (.ref a_BadName) (.ref a_BadName) = some true
  k_BadBound : PySem.W.kitOne K (.ref a_BadName) (.ref a_BadBound) = some false
  k_NoThing : PySem.W.kitOne K (.ref a_BadName) (.ref a_NoThing) = some false
  k_NoStore : PySem.W.kitOne K (.ref a_BadName) (.ref a_NoStore) = some false
  k_ValueError : PySem.W.kitOne K (.ref a_BadName) (.type "ValueError") = some true
  e_BadName_BadName : PySem.W.exmOne K (.ref a_BadName) (.ref a_BadName) = some true
  e_BadName_RoomError : PySem.W.exmOne K (.ref a_BadName) (.ref a_RoomError) = some true
section
variable {P : Program} {w : World} {K : PySem.W.Frag} {mg : Str → Option Value} {base : Heap}
theorem okN {x qual : Str} {st : Stmt} {f : Addr} {fd : FuncData} {N ps : List Str} {k : Nat} {sp : Sp} (F : Fun K x qual st f fd) (S : FnScope N ps (defScope st)) (len : ∀ (vs : List V) (H : Hp) (Q : VK) (E : XK), sp vs H Q E → vs.length = ps.length)
    (body : ∀ (cdv : Value) (A : Around) (outer : List Env) (s : Shared) (H : Hp) (vs : List V) (Q : VK) (E : XK), Room k (A.deeper (PyProof.Rows.envOfC qual (defScope st) s.heap.objs.size f cdv)) → sp vs H Q E →
      ∃ t, PSs (cxOf (L2N.CX P w) P w K mg base N qual (defScope st) f cdv A outer s H E) (defBody st) t ∧ t { nx := fun _ H' => Q V.non H', rt := Q } (L2.start N vs) H) : FnOk P w K mg base (L2N.CX P w) (k + 1) f fd ps sp := by
  obtain ⟨oc, od, kV, doc, pm, an, cdv, ct, osl, rfl, lk, hcd⟩ := F.ex
  exact fn_of lk hcd S len (body cdv)
/-- no name: what is handed in where one is asked for -/
inductive NoName (H : Hp) : V → Prop
  | int (i : Int) : ¬ (0 ≤ i ∧ i < 256) → NoName H (.int i)
  | bl (b : Bool) : NoName H (.bl b)
  | str (s : Str) : NoName H (.str s)
  | non : NoName H .non
  | lst {a : Addr} {xs : List V} : H a = some (.lst xs) → NoName H (.ref a)
  | tup {a : Addr} {xs : List V} : H a = some (.tup xs) → NoName H (.ref a)
theorem NoName.mono {H H' : Hp} {v : V} (e : Ex H H') (h : NoName H v) : NoName H' v := by
  cases h with
  | int i h => exact .int i h
  | bl b => exact .bl b
  | str s => exact .str s
  | non => exact .non
  | lst h => exact .lst (e.k h)
  | tup h => exact .tup (e.k h)
theorem noName_ty {H : Hp} {v : V} (h : NoName H v) : (∃ i : Int, v = .int i ∧ ¬ (0 ≤ i ∧ i < 256)) ∨ ∃ n : String, decide (n = "int") = false ∧ ∀ A, Ex H A → TyB K A v n := by
  cases h with
  | int i h => exact .inl ⟨i, rfl, h⟩
  | bl b => exact .inr ⟨"bool", by decide, fun _ _ => .bl b⟩
  | str s => exact .inr ⟨"str", by decide, fun _ _ => .str s⟩
  | non => exact .inr ⟨"NoneType", by decide, fun _ _ => .non⟩
  | lst h => exact .inr ⟨"list", by decide, fun _ e => .lst (sq_of (e.k h))⟩
  | tup h => exact .inr ⟨"tuple", by decide, fun _ e => .tup (st_of (e.k h))⟩
/-- a name, and what it tells; or none, and it is refused -/
def OrRefused (C : Addr) (x : V) (H : Hp) (Q : VK) (E : XK) (z : Nat → V) : Prop := (∃ n : Nat, x = .int (n : Int) ∧ n < 256 ∧ RetV (z n) H Q) ∨ NoName H x ∧ ∀ B, Ex H B → E (.ref C) none B
theorem OrRefused.mono {C : Addr} {x : V} {H H' : Hp} {Q : VK} {E : XK} {z : Nat → V} (e : Ex H H') (h : OrRefused C x H Q E z) : OrRefused C x H' Q E z :=
  h.elim (fun ⟨n, h1, h2, k⟩ => .inl ⟨n, h1, h2, k.mono e⟩) fun ⟨h, k⟩ => .inr ⟨h.mono e, fun B b => k B (e.trans b)⟩
def spX (C : Addr) (z : Nat → V) : Sp := fun vs H Q E => ∃ x, vs = [x] ∧ OrRefused C x H Q E z
/-- the name whose mixed name this is -/
def unmix (x : Nat) : Int := ((x : Int) - 37) * 3 % 256
theorem ok_check_name (T : Top K mg) : FnOk P w K mg base (L2N.CX P w) 1 T.a_check_name T.fd_check_name ["name"] (spX T.a_BadName fun _ => .non) := by
  refine okN T.F_check_name sc_check_name (fun vs H Q E h => ?_) (fun cdv A outer s H vs Q E hr h => ?_)
  · obtain ⟨x, rfl, _⟩ := h
    rfl
  · refine ⟨_, (pss_one (ps_if (PW.pt (pw_or (pt_cmpR op_notTyB (pe_callTy (r := rTyp K) call_type1 (by rfl) T.z_type (by decide +kernel) (pa_cons (pv 0) pa_nil)) (pe_bltn (v := .ty "int") (by rfl) T.z_int (by decide +kernel) rfl) (nomark _)) (pw_or1 (pt_not (pt_chain op_le op_lt pe_int (pv 0) (pe_glob (v := .int 256) rfl T.c_NAMES.2 ⟨_, rfl⟩)))))) (pss_one (L2N.ps_raise rfl (L2N.takes_of rfl rfl rfl rfl) (L2N.pmk_own PySem.F.excBase_ValueError T.x_BadName T.g_BadName T.kc_BadName (raises_own T.bc_BadName T.tc_BadName) (by exact rfl)))) pss_nil)), ?_⟩
    obtain ⟨x, rfl, ⟨n, rfl, hn, k⟩ | ⟨hx, k⟩⟩ := h
    · walk_at "when"
      · intro hb
        simp at hb
        omega
      · exact fun _ => k
    · rcases noName_ty (K := K) hx with ⟨i, rfl, hi⟩ | ⟨n, hn, ty⟩
      · walk_at "when"
        · intro hb B e
          exact k B e
        · intro hb
          simp at hb
          omega
      · refine s_when (b := !decide (n = "int") || true) (et_or (et_test (ev_op (ev_cb (by walk_at "ea") (fun A a Q q => ⟨x, n, rfl, ty A a, q A (.refl A)⟩)) (by walk_at "ev") rv_NT)) fun hb => absurd hb (by simp [hn])) (fun _ B e => k B e) (fun hb => absurd hb (by simp [hn]))
/-- a call that is refused, or tells: evaluated where it tells -/
def EvX (te : TE) (σ : L2.St) (H : Hp) (C : Addr) (x : V) (W : XK) (z : Nat → V) : Prop := ∀ A, Ex H A → ∀ Q : VK, OrRefused C x A Q W z → te σ A Q
theorem ex_call {σ : L2.St} {H : Hp} {C : Addr} {x : V} {z : Nat → V} {E : L2.St → XK} {ta : TA} (h : EvA ta σ H [x]) : EvX (tCallS (spX C z) E ta) σ H C x (E σ) z := fun A a Q q =>
  h A a _ fun B b => ⟨x, rfl, q.mono b⟩
theorem ok_mixed (T : Top K mg) : FnOk P w K mg base (L2N.CX P w) 2 T.a_mixed T.fd_mixed ["name"] (spX T.a_BadName fun n => .int (mixN n : Nat)) := by
  refine okN T.F_mixed sc_mixed (fun vs H Q E h => ?_) (fun cdv A outer s H vs Q E hr h => ?_)
  · obtain ⟨x, rfl, _⟩ := h
    rfl
  · refine ⟨_, (pss_cons (ps_expr (pe_callS (ok_check_name T) (hr.mono (by decide)) rfl T.g_check_name T.F_check_name.kp T.b_check_name (fun σ => L2N.passAt (L2N.takes_of rfl rfl rfl rfl) σ) (pa_cons (pv 0) pa_nil)))
      (pss_one (ps_ret (pe_op op_mod (pe_op op_add (pe_op op_mul (pe_glob (v := .int 171) rfl T.c_FACTOR.2 ⟨_, rfl⟩) (pv 0)) (pe_glob (v := .int 37) rfl T.c_SHIFT.2 ⟨_, rfl⟩)) (pe_glob (v := .int 256) rfl T.c_NAMES.2 ⟨_, rfl⟩))))), ?_⟩
    obtain ⟨x, rfl, h⟩ := h
    refine ex_call (C := T.a_BadName) (x := x) (z := fun _ => V.non) (by walk_at "ea") H (.refl H) _ ?_
    rcases h with ⟨n, rfl, hn, k⟩ | ⟨hx, k⟩
    · refine .inl ⟨n, rfl, hn, fun B b => ?_⟩
      dsimp only
      refine st_nf (t := tRet _) (σ' := [some (.int (n : Int))]) rfl ?_
      walk_at "ret"
      rw [mix_int]
      exact RetV.mono b k
    · exact .inr ⟨hx, k⟩
theorem ok_unmixed (T : Top K mg) : FnOk P w K mg base (L2N.CX P w) 2 T.a_unmixed T.fd_unmixed ["number"] (spX T.a_BadName fun n => .int (unmix n)) := by
  refine okN T.F_unmixed sc_unmixed (fun vs H Q E h => ?_) (fun cdv A outer s H vs Q E hr h => ?_)
  · obtain ⟨x, rfl, _⟩ := h
    rfl
  · refine ⟨_, (pss_cons (ps_expr (pe_callS (ok_check_name T) (hr.mono (by decide)) rfl T.g_check_name T.F_check_name.kp T.b_check_name (fun σ => L2N.passAt (L2N.takes_of rfl rfl rfl rfl) σ) (pa_cons (pv 0) pa_nil)))
      (pss_one (ps_ret (pe_op op_mod (pe_op op_mul (pe_op op_sub (pv 0) (pe_glob (v := .int 37) rfl T.c_SHIFT.2 ⟨_, rfl⟩)) (pe_glob (v := .int 3) rfl T.c_UNDOING_FACTOR.2 ⟨_, rfl⟩)) (pe_glob (v := .int 256) rfl T.c_NAMES.2 ⟨_, rfl⟩))))), ?_⟩
    obtain ⟨x, rfl, h⟩ := h
    refine ex_call (C := T.a_BadName) (x := x) (z := fun _ => V.non) (by walk_at "ea") H (.refl H) _ ?_
    rcases h with ⟨n, rfl, hn, k⟩ | ⟨hx, k⟩
    · refine .inl ⟨n, rfl, hn, fun B b => ?_⟩
      dsimp only
      refine st_nf (t := tRet _) (σ' := [some (.int (n : Int))]) rfl ?_
      walk_at "ret"
      exact RetV.mono b k
    · exact .inr ⟨hx, k⟩
theorem ok_signs (T : Top K mg) : FnOk P w K mg base (L2N.CX P w) 3 T.a_signs T.fd_signs ["name"] (spX T.a_BadName fun n => .str (sgs (mixN n) 8)) := by
  refine okN T.F_signs sc_signs (fun vs H Q E h => ?_) (fun cdv A outer s H vs Q E hr h => ?_)
  · obtain ⟨x, rfl, _⟩ := h
    rfl
  · refine ⟨_, (pss_cons (ps_set (i := 1) sc_signs.nd rfl (Or.inl rfl) (pe_joined1 (pe_fmtB (pe_callS (ok_mixed T) (hr.mono (by decide)) rfl T.g_mixed T.F_mixed.kp T.b_mixed (fun σ => L2N.passAt (L2N.takes_of rfl rfl rfl rfl) σ) (pa_cons (pv 0) pa_nil)))))
      (pss_one (ps_ret (pe_bm PySem.F.plainAttrs_str PySem.F.slot_str_zfill PySem.F.type_str_zfill mt_zfill (pv 1) (pa_cons (pe_glob (v := .int 8) rfl T.c_SIGNS.2 ⟨_, rfl⟩) pa_nil))))), ?_⟩
    obtain ⟨x, rfl, h⟩ := h
    refine ex_call (C := T.a_BadName) (x := x) (z := fun n => V.int (mixN n : Nat)) (by walk_at "ea") H (.refl H) _ ?_
    rcases h with ⟨n, rfl, hn, k⟩ | ⟨hx, k⟩
    · refine .inl ⟨n, rfl, hn, fun B b => ⟨mixN n, rfl, binT_len _ (mixN_lt n), ?_⟩⟩
      dsimp only [gName]
      refine st_nf (t := tRet _) (σ' := [some (.int (n : Int)), some (.str (binT (mixN n)))]) rfl ?_
      refine s_retk (v := .str (Txt.zfill (binT (mixN n)) 8)) (ev_zfill (by walk_at "ev") (by walk_at "ea") (by decide +kernel)) ?_
      rw [zf8 _ (mixN_lt n), sg8_is]
      exact RetV.mono b k
    · exact .inr ⟨hx, k⟩
def zCalled (y : Int) (n : Nat) : V := if y = 0 then .int (mixN n : Nat) else if y = 1 then .int (unmix n) else .str (sgs (mixN n) 8)
def spCalled (C : Addr) : Sp := fun vs H Q E => ∃ (y : Int) (x : V), vs = [.int y, x] ∧ OrRefused C x H Q E (zCalled y)
theorem OrRefused.z {C : Addr} {x : V} {H : Hp} {Q : VK} {E : XK} {z z' : Nat → V} (h : OrRefused C x H Q E z) (e : z = z') : OrRefused C x H Q E z' := e ▸ h
theorem ok_l_called (T : Top K mg) : FnOk P w K mg base (L2N.CX P w) 4 T.a_l_called T.fd_l_called ["_law_way", "_law_thing"] (spCalled T.a_BadName) := by
  refine okN T.F_l_called sc_l_called (fun vs H Q E h => ?_) (fun cdv A outer s H vs Q E hr h => ?_)
  · obtain ⟨y, x, rfl, _⟩ := h
    rfl
  · refine ⟨_, (pss_cons (ps_if (pt_cmpR op_eq (pv 0) pe_int (nomark _)) (pss_one (ps_ret (pe_callS (ok_mixed T) (hr.mono (by decide)) rfl T.g_mixed T.F_mixed.kp T.b_mixed (fun σ => L2N.passAt (L2N.takes_of rfl rfl rfl rfl) σ) (pa_cons (pv 1) pa_nil)))) pss_nil)
      (pss_cons (ps_if (pt_cmpR op_eq (pv 0) pe_int (nomark _)) (pss_one (ps_ret (pe_callS (ok_unmixed T) (hr.mono (by decide)) rfl T.g_unmixed T.F_unmixed.kp T.b_unmixed (fun σ => L2N.passAt (L2N.takes_of rfl rfl rfl rfl) σ) (pa_cons (pv 1) pa_nil)))) pss_nil)
      (pss_one (ps_ret (pe_callS (ok_signs T) (hr.mono (by decide)) rfl T.g_signs T.F_signs.kp T.b_signs (fun σ => L2N.passAt (L2N.takes_of rfl rfl rfl rfl) σ) (pa_cons (pv 1) pa_nil)))))), ?_⟩
    obtain ⟨y, x, rfl, h⟩ := h
    walk_at "when"
    · intro hb B b
      have h0 : y = 0 := by simpa [decide_int] using hb
      exact ex_call (C := T.a_BadName) (x := x) (z := fun n => V.int (mixN n : Nat)) (by walk_at "ea") B (.refl B) _ ((h.mono b).z (by funext n; exact if_pos h0))
    intro hb B b
    have h0 : ¬ y = 0 := by simpa [decide_int] using hb
    walk_at "when"
    · intro hb B' b'
      have h1 : y = 1 := by simpa [decide_int] using hb
      exact ex_call (C := T.a_BadName) (x := x) (z := fun n => V.int (unmix n)) (by walk_at "ea") B' (.refl B') _ ((h.mono (b.trans b')).z (by funext n; exact (if_neg h0).trans (if_pos h1)))
    intro hb B' b'
    have h1 : ¬ y = 1 := by simpa [decide_int] using hb
    exact ex_call (C := T.a_BadName) (x := x) (z := fun n => V.str (sgs (mixN n) 8)) (by walk_at "ea") B' (.refl B') _ ((h.mono (b.trans b')).z (by funext n; exact (if_neg h0).trans (if_neg h1)))
/-- items that are no names -/
def EvAN (t : TA) (σ : L2.St) (H : Hp) (n : Nat) : Prop := ∀ A, Ex H A → ∀ Q : List V → Hp → Prop, (∀ vs B, Ex A B → vs.length = n → (∀ v ∈ vs, NoName B v) → Q vs B) → t σ A Q
theorem an_nil {σ : L2.St} {H : Hp} : EvAN tNil σ H 0 := fun A _ _ q => q [] A (.refl A) rfl (by simp)
theorem an_consG {σ : L2.St} {H : Hp} {te : TE} {tr : TA} {n : Nat} (h : EvG te σ H fun _ v B => NoName B v) (i : EvAN tr σ H n) : EvAN (tCons te tr) σ H (n + 1) := fun A a Q q =>
  h A a _ fun v B b hv => i B (a.trans b) _ fun vs C c hl hvs => q (v :: vs) C (b.trans c) (by rw [List.length_cons, hl]) fun w hw => by
    rcases List.mem_cons.mp hw with e | e
    · rw [e]
      exact hv.mono c
    · exact hvs w e
theorem an_cons {σ : L2.St} {H : Hp} {te : TE} {tr : TA} {n : Nat} {v : V} (h : Ev te σ H v) (hv : NoName H v) (i : EvAN tr σ H n) : EvAN (tCons te tr) σ H (n + 1) := an_consG (h.g fun A B a b => hv.mono (a.trans b)) i
theorem eg_lstN {σ : L2.St} {H : Hp} {ta : TA} {n : Nat} (h : EvAN ta σ H n) (hn : n ≤ 100000) : EvG (tLst ta) σ H (fun _ v B => ∃ p vs, v = .ref p ∧ B p = some (.lst vs) ∧ vs.length = n ∧ ∀ v ∈ vs, NoName B v) := fun A a Q q =>
  h A a _ fun vs B b hl hv => ⟨by rw [hl]; exact sz_of hn, fun p hp => q _ _ (b.trans (.new hp)) ⟨p, vs, rfl, upd_same, hl, fun v m => (hv v m).mono (.new hp)⟩⟩
theorem eg_opL {σ : L2.St} {H : Hp} {ta tb : TE} {y : V} {r : R2} {P : V → Hp → Prop} {P' : V → Hp → Prop} (ha : EvG ta σ H fun _ v B => P v B) (hb : Ev tb σ H y) (hr : ∀ w B C, P w B → Ex B C → ∀ Q : VK, (∀ v D, Ex C D → P' v D → Q v D) → r w y C Q) : EvG (tOp r ta tb) σ H fun _ v D => P' v D := fun A a Q q =>
  ha A a _ fun w B b p => hb B (a.trans b) _ fun C c => hr w B C p c Q fun v D d p' => q v D ((b.trans c).trans d) p'
/-- what is handed in for a name and is none -/
def spNone : Sp := fun vs H Q _ => ∃ c : Int, vs = [.int c] ∧ ∀ (x : V) (B : Hp), Ex H B → NoName B x → Q x B
theorem ok_l_none (T : Top K mg) : FnOk P w K mg base CX0 1 T.a_l_none T.fd_l_none ["_law_cell"] spNone := by
  refine T.F_l_none.ok sc_l_none (fun vs H Q E h => ?_) (fun cdv A outer s H vs Q E hr h => ?_)
  · obtain ⟨c, rfl, _⟩ := h
    rfl
  · obtain ⟨c, rfl, k⟩ := h
    refine ⟨_, (pss_cons (ps_set (i := 1) sc_l_none.nd rfl (Or.inl rfl) (pe_op op_mod (pe_op op_fdiv (pv 0) pe_int) (pe_op op_pow pe_int pe_int)))
      (pss_one (ps_ret (pe_ix (r := rIxL K) ix_list (pe_lst (pa_cons (pe_op op_sub (pe_un un_neg pe_int) (pv 1)) (pa_cons (pe_op op_add pe_int (pv 1)) (pa_cons pe_bl (pa_cons pe_bl (pa_cons pe_str (pa_cons pe_non (pa_cons (pe_lst (pa_cons pe_int pa_nil)) (pa_cons (pe_tup (pa_cons pe_int pa_nil)) pa_nil))))))))) (pe_op op_mod (pv 0) pe_int) (fun _ _ => rfl))))), ?_⟩
    walk_at "asg"
    intro H1 e1
    generalize hfar : c / 8 % _ = far
    have hf : 0 ≤ far := by
      rw [← hfar]
      exact Int.emod_nonneg _ (by decide)
    refine st_nf (t := tRet _) (σ' := [some (.int c), some (.int far)]) rfl ?_
    have items : EvAN _ [some (.int c), some (.int far)] H1 8 := an_cons (te := tOp (rI0 fun i j => V.int (i - j)) (tUn (rU fun i => V.int (-i)) (tC (V.int 1))) (tVar 1)) (by walk_at "ev") (.int _ (by omega)) (an_cons (te := tOp (rI0 fun i j => V.int (i + j)) (tC (V.int 256)) (tVar 1)) (by walk_at "ev") (.int _ (by omega)) (an_cons ev_c (.bl true) (an_cons ev_c (.bl false) (an_cons ev_c (.str "7") (an_cons ev_c .non
      (an_consG ((eg_lst (ta := tCons (tC (V.int 7)) tNil) (vs := [.int 7]) (by walk_at "ea") (by decide)).imp fun A v B _ _ ⟨p, e, _, h⟩ => e ▸ .lst h) (an_consG ((eg_tup (ta := tCons (tC (V.int 7)) tNil) (vs := [.int 7]) (by walk_at "ea") (by decide)).imp fun A v B _ _ ⟨p, e, _, h⟩ => e ▸ .tup h) an_nil)))))))
    obtain ⟨n, hn, ln⟩ : ∃ n : Nat, c % 8 = (n : Int) ∧ (n : Int) < 8 := ⟨(c % 8).toNat, (Int.toNat_of_nonneg (Int.emod_nonneg _ (by decide))).symm, by rw [Int.toNat_of_nonneg (Int.emod_nonneg _ (by decide))]; exact Int.emod_lt_of_pos _ (by decide)⟩
    refine s_retG (eg_opL (P' := fun v B => NoName B v) (y := .int (n : Int)) (eg_lstN items (by decide)) (ev_is (by walk_at "ev") (congrArg V.int hn)) ?_) fun v B e hv => k v B (e1.trans e) hv
    rintro w B C ⟨p, vs, rfl, hp, hl, hv⟩ c Q' q'
    have hin : n < vs.length := by omega
    exact ⟨p, vs, (n : Int), vs[n], rfl, rfl, sq_of (c.k hp), atI_nat (List.getElem?_eq_getElem hin), q' _ C (.refl C) ((hv _ (List.getElem_mem hin)).mono c)⟩
end
theorem mark_self {A : Around} {v : Value} (h : A.handled = some v) : A.mark (some v) = A := by
  cases A
  simp only at h
  subst h
  rfl
theorem call_isN {X : Cx} {p : Addr × Obj} {D : Addr} (h : X.A.handled = some (.ref p.1)) (hc : X.calm = false) (hpn : X.pn = [p]) (hD : ExcC X.K D) (hz : Zc (.ref D) none p.2) (hd : ∃ vs, p.2.data = .fields vs) : CallR X.nox (.builtin "isinstance") (rIsE X.K D p.1) := by
  have e : X.nox = X.suite p.1 [p] := by
    show ({ X with xe := fun _ _ => False } : Cx) = { X with A := X.A.mark (some (.ref p.1)), calm := false, pn := [p], xe := fun _ _ => False }
    rw [mark_self h, ← hc, ← hpn]
  rw [e]
  exact call_isE (X := X) (pn := []) hD hz hd
section
variable {P : Program} {w : World} {K : PySem.W.Frag} {mg : Str → Option Value} {base : Heap}
def rpB : Rp Bool := ⟨fun _ v b => v = .bl b, fun _ h => h, fun _ h => h⟩
theorem dp_bools {H H' : Hp} : ∀ {xs : List V} {bs : List Bool}, PR rpB H xs bs → DpAll K H' xs (bs.map PyData.bool)
  | _, _, .nil => .nil
  | _, _, .cons h t => by
    rw [show _ = V.bl _ from h]
    exact .cons (.bl _) (dp_bools t)
def Zx (C : Addr) (p : Addr × Obj) : Prop := Zc (.ref C) none p.2
def spAlone (a : Addr) : Sp := fun vs H Q _ => vs = [.ref a, .int 0] ∧ RetV (.bl true) H Q
theorem ok_l_alone (T : Top K mg) : FnHZ P w K mg base CX0 1 T.a_l_alone T.fd_l_alone ["_law_e", "_law_which"] (Zx T.a_BadName) spAlone := by
  obtain ⟨oc, od, kV, doc, pm, an, cdv, ct, osl, hfd, lk, hcd⟩ := T.F_l_alone.ex
  rw [hfd] at lk ⊢
  refine fn_ofHZ lk hcd sc_l_alone (fun a vs H Q E h => ?_) fun A outer s H vs Q E p hot hz hr h => ?_
  · obtain ⟨rfl, _⟩ := h
    rfl
  · obtain ⟨rfl, k⟩ := h
    obtain ⟨hh, vsx, hdx, hvx⟩ := hot
    have isE := call_isN (X := L2H.cxH CX0 P w K mg base n_l_alone "_law_alone" (defScope s_l_alone) T.a_l_alone cdv A outer s H E p) (p := p) (D := T.a_BadName) hh rfl rfl T.X_BadName hz ⟨vsx, hdx⟩
    have hotc : L2H.HotC (L2H.cxH CX0 P w K mg base n_l_alone "_law_alone" (defScope s_l_alone) T.a_l_alone cdv A outer s H E p).nox := ⟨p, ⟨hh, vsx, hdx, hvx⟩, List.mem_singleton.mpr rfl⟩
    refine ⟨_, PSs.nox (pss_cons (ps_set (i := 2) sc_l_alone.nd rfl (Or.inl rfl) (pe_lst (pa_cons (pe_callB isE (by rfl) T.z_isinstance (by decide +kernel) (pa_cons (pv 0) (pa_cons (pe_glob (v := .ref T.a_BadName) rfl T.g_BadName rfl) pa_nil))) (pa_cons (pe_callB isE (by rfl) T.z_isinstance (by decide +kernel) (pa_cons (pv 0) (pa_cons (pe_glob (v := .ref T.a_BadBound) rfl T.g_BadBound rfl) pa_nil))) (pa_cons (pe_callB isE (by rfl) T.z_isinstance (by decide +kernel) (pa_cons (pv 0) (pa_cons (pe_glob (v := .ref T.a_NoThing) rfl T.g_NoThing rfl) pa_nil))) (pa_cons (pe_callB isE (by rfl) T.z_isinstance (by decide +kernel) (pa_cons (pv 0) (pa_cons (pe_glob (v := .ref T.a_NoStore) rfl T.g_NoStore rfl) pa_nil))) pa_nil))))))
      (pss_one (ps_ret (pe_and (pe_callB isE (by rfl) T.z_isinstance (by decide +kernel) (pa_cons (pv 0) (pa_cons (pe_bltn (v := .ty "ValueError") (by rfl) T.z_ValueError (by decide +kernel) rfl) pa_nil))) (pe_one (pe_cmpR (r := rEqD K) (op_eqD (by have z := hr.un; show (A.deeper (PyProof.Rows.envOfC "_law_alone" (defScope s_l_alone) s.heap.objs.size T.a_l_alone cdv)).units + 64 < cLine; omega)) (pv 2) (pe_lcH (own := [("_law_k", 3)]) (g := gName 3) (tt := tYes) hotc sc_l_alone.nd (L2H.pi_range1H (by rfl) T.z_range (pa_cons pe_int pa_nil)) (blkOk_by (N := n_l_alone) (sc := defScope s_l_alone) (by decide +kernel)) (fun _ _ _ _ _ => pg_name (i := 3) sc_l_alone.nd rfl (Or.inl rfl)) (fun _ _ _ _ _ => pts_nil) (fun _ _ _ _ _ => (pe_cmpR op_eq (pv 3) (pv 1) (nomark _)))) (nomark _))))))), ?_⟩
    have is1 : ∀ (c : V) (cv : Value) (b : Bool) (H : Hp), (∀ u, RelV c u → u = cv) → PySem.W.kitOne K (.ref T.a_BadName) cv = some b → RC (rIsE K T.a_BadName p.1) [.ref p.1, c] H (.bl b) := fun c cv b H h1 h2 A _ Q q => ⟨c, cv, b, rfl, h1, h2, q A (.refl A)⟩
    refine q_asgG (eg_lst (vs := [.bl true, .bl false, .bl false, .bl false]) (ea_cons (ev_cb (by walk_at "ea") (is1 (.ref T.a_BadName) (.ref T.a_BadName) _ _ (fun _ h => h) T.k_BadName)) (ea_cons (ev_cb (by walk_at "ea") (is1 (.ref T.a_BadBound) (.ref T.a_BadBound) _ _ (fun _ h => h) T.k_BadBound)) (ea_cons (ev_cb (by walk_at "ea") (is1 (.ref T.a_NoThing) (.ref T.a_NoThing) _ _ (fun _ h => h) T.k_NoThing)) (ea_cons (ev_cb (by walk_at "ea") (is1 (.ref T.a_NoStore) (.ref T.a_NoStore) _ _ (fun _ h => h) T.k_NoStore)) ea_nil)))) (by decide)) ?_
    rintro v B e ⟨pk, rfl, _, hpk⟩
    show tRet _ _ [some (.ref p.1), some (.int 0), some (.ref pk), none] B
    refine s_retk (v := .bl true) (ev_is (ev_andV (a := true) (b := true) (ev_cb (by walk_at "ea") (is1 (.ty "ValueError") (.type "ValueError") _ _ (fun _ h => h) T.k_ValueError)) fun _ => ?_) rfl) (k.mono e)
    refine ev_opR (by walk_at "ev") (EvLR.to (bs := [true, false, false, false]) (lcRR (r' := rpB) (n := 4) (fun _ => true) (fun i => decide (V.int (i : Int) = V.int 0)) (show EvA _ _ _ [.int 4] by walk_at "ea") (by decide) (fun _ => rfl) ?_ ?_) (by decide +kernel)) ?_
    · intro i H4 e4 hi
      exact fun H5 e5 Q' q' => q' H5 (Ex.refl H5)
    · intro i H4 e4 hi _
      exact ev_R (v := .bl (decide (V.int (i : Int) = V.int 0))) (by walk_at "ev") fun _ _ => rfl
    · rintro A' w' B' a' b' ⟨q, rfl, _, ys, h1, h2⟩ C c Q' k'
      refine ⟨.list [.bool true, .bool false, .bool false, .bool false], .list [.bool true, .bool false, .bool false, .bool false], .lst (sq_of (((a'.trans b').trans c).k hpk)) (.cons (.bl _) (.cons (.bl _) (.cons (.bl _) (.cons (.bl _) .nil)))), .lst (sq_of (c.k h1)) (dp_bools h2), by decide +kernel, by decide +kernel, ?_⟩
      have e0 : PyData.eqv (.list [.bool true, .bool false, .bool false, .bool false]) (.list [.bool true, .bool false, .bool false, .bool false]) = true := by decide +kernel
      rw [e0]
      exact k' C (.refl C)
end

theorem takesN0 {X : Cx} : L2N.Takes X (fun _ _ _ _ => False) := fun u s' h => by
  obtain ⟨_, _, _, _, _, _, _, _, _, _, _, _, _, _, _, _, h⟩ := h
  exact h.elim
theorem pss_if {X : Cx} {st : List Stmt} {t : TS} {φ : Prop} (h : φ → PSs X st t) : PSs X st (fun D σ H => φ ∧ t D σ H) := ⟨fun pins s σ H D I z => (h z.1).run pins s σ H D I z.2⟩
theorem rv_addI {i j : Int} {H : Hp} : RV (rI0 fun i j => V.int (i + j)) (.int i) (.int j) H (.int (i + j)) := rv_I0
section
variable {P : Program} {w : World} {K : PySem.W.Frag} {mg : Str → Option Value} {base : Heap}
theorem ev_alone {σ : L2.St} {H : Hp} {a : Addr} {E : L2.St → XK} {ta : TA} (h : EvA ta σ H [.ref a, .int 0]) : Ev (tCallS (spAlone a) E ta) σ H (.bl true) := fun A a Q q => h A a _ fun B b => ⟨rfl, fun C c => q C (b.trans c)⟩
theorem x_refused {σ : L2.St} {H : Hp} {y : Int} {x : V} {C : Addr} {W : WX} {D : Ends} {ta : TA} (h : EvA ta σ H [.int y, x]) (hx : NoName H x) (k : ∀ B, Ex H B → W (.ref C) none σ B) : tDrop (tCallS (spCalled C) (WE W) ta) D σ H :=
  h H (.refl H) _ fun B b => ⟨y, x, rfl, .inr ⟨hx.mono b, fun C c => k C (b.trans c)⟩⟩
def spRefused : Sp := fun vs H Q _ => ∃ (y : Int) (x : V), vs = [.int y, x] ∧ NoName H x ∧ RetV (.bl true) H Q
set_option maxHeartbeats 1000000 in
theorem ok_l_refused (T : Top K mg) : FnOk P w K mg base CX0 6 T.a_l_refused T.fd_l_refused ["_law_way", "_law_thing"] spRefused := by
  refine T.F_l_refused.ok sc_l_refused (fun vs H Q E h => ?_) (fun cdv A outer s H vs Q E hr h => ?_)
  · obtain ⟨y, x, rfl, _⟩ := h
    rfl
  · obtain ⟨y, x, rfl, hx, k⟩ := h
    refine ⟨_, (pss_cons (ps_set (i := 2) sc_l_refused.nd rfl (Or.inl rfl) pe_int)
      (pss_cons (L2N.ps_try_many rfl rfl takesN0 (tb := fun W => tDrop (tCallS (spCalled T.a_BadName) (WE W) (tCons (tVar 0) (tCons (tVar 1) tNil)))) (l := [(.ref T.a_BadName, fun _ _ _ => tAsg (tOp (rI0 fun i j => V.int (i + j)) (tVar 2) (tC (.int 1))) (gName 2))])
          (fun W pn xe tk _ => pss_one (ps_expr (pe_callS (ok_l_called T) (hr.mono (by decide)) rfl T.g_l_called T.F_l_called.kp T.b_l_called (fun σ => L2N.passAt tk σ) (pa_cons (pv 0) (pa_cons (pv 1) pa_nil)))))
          (.cons ⟨rfl, by decide, Or.inl T.g_BadName⟩ (fun a oe cls d pn _ _ => pss_one (ps_set (i := 2) sc_l_refused.nd rfl (Or.inl rfl) (pe_op op_add (pv 2) pe_int))) .nil))
      (pss_cons (L2N.ps_try_as (i := 3) (tb := fun W => tDrop (tCallS (spCalled T.a_BadName) (WE W) (tCons (tVar 0) (tCons (tVar 1) tNil)))) (ts := fun a cls d D σ H => (cls = .ref T.a_BadName ∧ d = none) ∧ tAsg (tOp (rI0 fun i j => V.int (i + j)) (tVar 2) (tCB (fun vs H Q => (∃ i, vs = [V.int i] ∧ Q (.int i) H) ∨ ∃ k, vs = [V.bl k] ∧ Q (.int (if k then 1 else 0)) H) (tCons (tCallS (spAlone a) (fun _ _ _ _ => False) (tCons (tVar 3) (tCons (tC (.int 0)) tNil))) tNil))) (gName 2) D σ H) (Wout := fun _ _ _ _ => False) rfl rfl sc_l_refused.nd rfl rfl ⟨rfl, by decide, Or.inl T.g_RoomError⟩ takesN0
          (fun W pn xe tk _ => pss_one (ps_expr (pe_callS (ok_l_called T) (hr.mono (by decide)) rfl T.g_l_called T.F_l_called.kp T.b_l_called (fun σ => L2N.passAt tk σ) (pa_cons (pv 0) (pa_cons (pv 1) pa_nil)))))
          (fun a oe cls d pn hz hf => pss_if fun hcd => pss_one (ps_set (i := 2) sc_l_refused.nd rfl (Or.inl rfl) (pe_op op_add (pv 2) (pe_callTy call_int1 (by rfl) T.z_int (by decide +kernel) (pa_cons (pe_callHZ (p := (a, oe)) (CX := CX0) (E := fun _ _ _ _ => False) (ok_l_alone T) ⟨(L2H.roomH_of (hr.mono (by decide : 1 ≤ 5))).dp, (L2H.roomH_of (hr.mono (by decide : 1 ≤ 5))).un⟩ ⟨rfl, hf.elim fun vs e => ⟨vs, e, hz.2.2 vs e⟩⟩ (List.mem_cons_self) (show Zc (.ref T.a_BadName) none oe from ⟨hcd.1 ▸ hz.1, hcd.2 ▸ hz.2.1⟩) rfl T.g_l_alone T.F_l_alone.kp T.b_l_alone (fun _ _ _ _ _ _ _ h => h) (pa_cons (pv 3) (pa_cons pe_int pa_nil))) pa_nil))))))
      (pss_one (ps_ret (pe_cmpR op_eq (pv 2) pe_int (nomark _))))))), ?_⟩
    refine q_asg (v := .int 0) (by walk_at "ev") ?_
    intro H1 e1
    refine st_nf (t := tSeq _ _) (σ' := [some (.int y), some x, some (.int 0), none]) rfl ?_
    show tDrop (tCallS (spCalled T.a_BadName) (WE (wMany K _ _ _)) (tCons (tVar 0) (tCons (tVar 1) tNil))) _ [some (.int y), some x, some (.int 0), none] H1
    refine x_refused (y := y) (x := x) (by walk_at "ea") (hx.mono e1) fun B b => ?_
    refine ⟨true, T.e_BadName_BadName, fun _ a1 ha1 => ?_, fun h => nomatch h⟩
    refine s_asg (v := .int 1) (ev_op (by walk_at "ev") (by walk_at "ev") rv_I0) ?_
    intro H3 e3
    have E3 := (e1.trans b).trans e3
    refine st_nf (t := tSeq _ _) (σ' := [some (.int y), some x, some (.int 1), none]) rfl ?_
    show tDrop (tCallS (spCalled T.a_BadName) (WE (wAs K _ _ _ _ _)) (tCons (tVar 0) (tCons (tVar 1) tNil))) _ [some (.int y), some x, some (.int 1), none] H3
    refine x_refused (y := y) (x := x) (by walk_at "ea") (hx.mono E3) fun B4 b4 => ?_
    refine ⟨true, T.e_BadName_RoomError, fun _ a2 ha2 => ⟨⟨rfl, rfl⟩, ?_⟩, fun h => nomatch h⟩
    refine st_nf (t := tAsg _ _) (σ' := [some (.int y), some x, some (.int 1), some (.ref a2)]) rfl ?_
    refine s_asg (v := .int 2) (ev_op (by walk_at "ev") (ev_cb (ea_cons (ev_alone (by walk_at "ea")) ea_nil) rc_intB) rv_I0) ?_
    intro H5 e5
    dsimp only
    refine st_nf (t := tRet _) (σ' := [some (.int y), some x, some (.int 2), none]) rfl ?_
    refine s_retk (v := .bl true) (ev_is (ev_op (by walk_at "ev") (by walk_at "ev") (rv_eq rfl)) (by decide +kernel)) ?_
    exact k.mono ((E3.trans b4).trans e5)
end

/-! ### the law's own -/
def cellN (ns : List Int) (k : Nat) : Int := ns.getD k 0
def spCell (K : PySem.W.Frag) : Sp := fun vs H Q _ => ∃ (a : Addr) (ns : List Int) (k : Nat), vs = [.ref a, .int (k : Int)] ∧ SqL K H a (ns.map V.int) ∧ RetV (.int (cellN ns k)) H Q
section
variable {P : Program} {w : World} {K : PySem.W.Frag} {mg : Str → Option Value} {base : Heap}
theorem ok_l_cell_at (T : Top K mg) : FnOk P w K mg base CX0 1 T.a_l_cell_at T.fd_l_cell_at ["_law_script", "_law_k"] (spCell K) := by
  refine T.F_l_cell_at.ok sc_l_cell_at (fun vs H Q E h => ?_) (fun cdv A outer s H vs Q E hr h => ?_)
  · obtain ⟨a, ns, k, rfl, _⟩ := h
    rfl
  · obtain ⟨a, ns, i, rfl, hS, k⟩ := h
    refine ⟨_, (pss_cons (ps_if (pt_cmpR op_lt (pv 1) (pe_callB (r := rLen K) call_len_seq (by rfl) T.z_len (by decide +kernel) (pa_cons (pv 0) pa_nil)) (nomark _)) (pss_one (ps_ret (pe_ix (r := rIxL K) ix_list (pv 0) (pv 1) (fun _ _ => rfl)))) pss_nil)
      (pss_one (ps_ret pe_int))), ?_⟩
    walk_at "when"
    · intro hb H1 e1
      have hlt : i < ns.length := by simpa using hb
      refine s_retk (v := .int (cellN ns i)) (ev_op (by walk_at "ev") (by walk_at "ev") (rv_ixL (ex_l e1 hS) (atI_nat ?_))) (RetV.mono e1 k)
      unfold cellN
      rw [List.getElem?_map, List.getD_eq_getElem?_getD, List.getElem?_eq_getElem hlt]
      rfl
    · intro hb H1 e1
      have hlt : ns.length ≤ i := by simpa using hb
      walk_at "ret"
      have e0 : cellN ns i = 0 := by
        unfold cellN
        rw [List.getD_eq_getElem?_getD, List.getElem?_eq_none hlt]
        rfl
      rw [e0] at k
      exact RetV.mono e1 k
theorem spv_cell {a : Addr} {ns : List Int} {H : Hp} (hS : SqL K H a (ns.map V.int)) (i : Int) (hi : 0 ≤ i) : SpV (spCell K) [.ref a, .int i] H (.int (cellN ns i.toNat)) := fun A e Q q E => ⟨a, ns, i.toNat, by rw [Int.toNat_of_nonneg hi], ex_l e hS, q⟩
end
local macro_rules | `(tactic| walk_at "spv") => `(tactic| (apply spv_cell; walk_at "seq"; decide))
theorem nat_mod (i : Int) (m : Int) (hm : 0 < m) : ∃ n : Nat, i % m = (n : Int) ∧ (n : Int) < m := ⟨(i % m).toNat, (Int.toNat_of_nonneg (Int.emod_nonneg _ (by omega))).symm, by rw [Int.toNat_of_nonneg (Int.emod_nonneg _ (by omega))]; exact Int.emod_lt_of_pos _ hm⟩

section
variable {P : Program} {w : World} {K : PySem.W.Frag} {mg : Str → Option Value} {base : Heap}
def spWhole : Sp := fun vs H Q _ => ∃ i : Int, vs = [.int i] ∧ RetV (.bl true) H Q
theorem ok_l_whole (T : Top K mg) : FnOk P w K mg base CX0 1 T.a_l_whole T.fd_l_whole ["_law_found"] spWhole := by
  refine T.F_l_whole.ok sc_l_whole (fun vs H Q E h => ?_) (fun cdv A outer s H vs Q E hr h => ?_)
  · obtain ⟨n, rfl, _⟩ := h
    rfl
  · obtain ⟨n, rfl, k⟩ := h
    refine ⟨_, (pss_one (ps_ret (pe_and (pe_callB (r := rIsi K) call_isi (by rfl) T.z_isinstance (by decide +kernel) (pa_cons (pv 0) (pa_cons (pe_bltn (v := .ty "int") (by rfl) T.z_int (by decide +kernel) rfl) pa_nil))) (pe_one (pe_not (pe_callB (r := rIsi K) call_isi (by rfl) T.z_isinstance (by decide +kernel) (pa_cons (pv 0) (pa_cons (pe_bltn (v := .ty "bool") (by rfl) T.z_bool (by decide +kernel) rfl) pa_nil)))))))), ?_⟩
    walk_at "ret"
    exact k
theorem spv_whole {i : Int} {H : Hp} : SpV spWhole [.int i] H (.bl true) := fun H1 _ _ q _ => ⟨i, rfl, q⟩
end
local macro_rules | `(tactic| walk_at "spv") => `(tactic| exact spv_whole)

theorem passF {P : Program} {w : World} {X : Cx} {σ : L2.St} (h : True := trivial) : PassesAt (L2N.CX P w) X σ (fun _ _ _ => False) := fun pins H s e s' I z => by
  obtain ⟨_, _, _, _, _, _, _, _, _, _, _, _, h⟩ := z
  exact h.elim
/-- a call that is not refused -/
theorem ev_X {σ : L2.St} {H : Hp} {C : Addr} {n : Nat} {z : Nat → V} {E : L2.St → XK} {ta : TA} (h : EvA ta σ H [.int (n : Int)]) (hn : n < 256) : Ev (tCallS (spX C z) E ta) σ H (z n) := fun A a Q q =>
  h A a _ fun B b => ⟨_, rfl, .inl ⟨n, rfl, hn, fun C c => q C (b.trans c)⟩⟩
theorem unmix_mix (n : Nat) (h : n < 256) : unmix (mixN n) = (n : Int) := by
  unfold unmix mixN
  omega
theorem my_filter : ∀ d : Nat, d < 256 → ((List.range 256).filter fun i => decide (mixN i = d)).map (fun i : Nat => (i : Int)) = [unmix d] := by decide +kernel
theorem dec_mix (i d : Nat) : decide (V.int ((171 * (i : Int) + 37) % 256) = V.int (d : Int)) = decide (mixN i = d) := by
  rw [mix_int, decide_int]
  exact decide_eq_decide.mpr (by omega)
theorem eqv_one (i : Int) : PyData.eqv (.list [.int i]) (.list [.int i]) = true := by simp [PyData.eqv, PyData.eqvAll]
theorem ev_neII {K : PySem.W.Frag} {σ : L2.St} {H : Hp} {ta tb : TE} {i : Int} (ha : EvLR rpInt ta σ H [i]) (hb : EvG tb σ H (NewL [.int i])) : Ev (tOp (rNeD K) ta tb) σ H (.bl false) := fun A a Q q =>
  ha A a _ fun _ B b ⟨p, ev, _, xs, h1, h2⟩ => hb B (a.trans b) _ fun _ C c ⟨p', ev', _, h3⟩ => by
    subst ev ev'
    refine ⟨.list [.int i], .list [.int i], .lst (sq_of (c.k h1)) (dp_ints (ms := [i]) (pr_mono c h2)), .lst (sq_of h3) (.cons (.int _) .nil), shaped_dI [i], shaped_dI [i], ?_⟩
    rw [eqv_one]
    exact q C (b.trans c)
theorem ev_refused {σ : L2.St} {H : Hp} {ta tb : TE} {y : Int} {E : XK} (h1 : Ev ta σ H (.int y)) (h2 : EvG tb σ H (fun _ v B => NoName B v)) : Ev (tCall spRefused [] E (tCons ta (tCons tb tNil))) σ H (.bl true) := fun A a Q q =>
  h1 A a _ fun B b => h2 B (a.trans b) _ fun v C c hv => ⟨y, v, rfl, hv, fun D d => q D ((b.trans c).trans d)⟩
theorem eg_none {σ : L2.St} {H : Hp} {te : TE} {c : Int} {E : XK} (h : Ev te σ H (.int c)) : EvG (tCall spNone [] E (tCons te tNil)) σ H (fun _ v B => NoName B v) := fun A a Q q =>
  h A a _ fun B b => ⟨c, rfl, fun x C e hx => q x C (b.trans e) hx⟩
theorem unmix_is (x : Nat) (h : x < 256) : ∃ k : Nat, unmix x = (k : Int) ∧ k < 256 ∧ mixN k = x := by
  unfold unmix mixN
  refine ⟨((((x : Int) - 37) * 3 % 256).toNat), ?_, ?_, ?_⟩ <;> omega
section
variable {P : Program} {w : World} {K : PySem.W.Frag} {mg : Str → Option Value} {base : Heap}
set_option maxHeartbeats 1000000 in
theorem ok_law (T : Top K mg) : FnOk P w K mg base CX0 7 T.a_law T.fd_law ["_law_script"] (spLaw K) := by
  refine T.F_law.ok sc_law (fun vs H Q E h => ?_) (fun cdv A outer s H vs Q E hr h => ?_)
  · obtain ⟨a, ns, rfl, _⟩ := h
    rfl
  · obtain ⟨a, ns, rfl, hS, hl, k⟩ := h
    refine ⟨_, (pss_cons (ps_set (i := 1) sc_law.nd rfl (Or.inl rfl) (pe_op op_mod (pe_call (ok_l_cell_at T) (hr.mono (by decide)) rfl T.g_l_cell_at T.F_l_cell_at.kp T.b_l_cell_at .nil pass0 (pa_cons (pv 0) (pa_cons pe_int pa_nil))) pe_int))
      (pss_cons (ps_set (i := 2) sc_law.nd rfl (Or.inr rfl) (pe_op op_mod (pe_call (ok_l_cell_at T) (hr.mono (by decide)) rfl T.g_l_cell_at T.F_l_cell_at.kp T.b_l_cell_at .nil pass0 (pa_cons (pv 0) (pa_cons pe_int pa_nil))) pe_int))
      (pss_cons (ps_set (i := 3) sc_law.nd rfl (Or.inl rfl) (pe_callS (ok_mixed T) (hr.mono (by decide)) rfl T.g_mixed T.F_mixed.kp T.b_mixed (fun σ => passF) (pa_cons (pv 1) pa_nil)))
      (pss_cons (ps_if (PW.pt (pw_or (pt_not (pt_val (pe_call (ok_l_whole T) (hr.mono (by decide)) rfl T.g_l_whole T.F_l_whole.kp T.b_l_whole .nil pass0 (pa_cons (pv 3) pa_nil)))) (pw_or1 (pt_cmpR op_ne (pv 3) (pe_op op_mod (pe_op op_add (pe_op op_mul pe_int (pv 1)) pe_int) pe_int) (nomark _))))) (pss_one (ps_ret pe_bl)) pss_nil)
      (pss_cons (ps_set (i := 4) sc_law.nd rfl (Or.inl rfl) (pe_callS (ok_unmixed T) (hr.mono (by decide)) rfl T.g_unmixed T.F_unmixed.kp T.b_unmixed (fun σ => passF) (pa_cons (pv 2) pa_nil)))
      (pss_cons (ps_if (PW.pt (pw_or (pt_not (pt_val (pe_call (ok_l_whole T) (hr.mono (by decide)) rfl T.g_l_whole T.F_l_whole.kp T.b_l_whole .nil pass0 (pa_cons (pv 4) pa_nil)))) (pw_or1 (pt_cmpR (r := rNeD K) (op_neD hr.units) (pe_lc (own := [("_law_one", 5)]) (g := gName 5) rfl sc_law.nd (pi_range1 (by rfl) T.z_range (pa_cons pe_int pa_nil)) (blkOk_by (N := n_law) (sc := defScope s_law) (by decide +kernel)) (fun _ _ _ _ _ => pg_name (i := 5) sc_law.nd rfl (Or.inl rfl)) (fun _ _ _ _ _ => (pts_one (pt_cmpR op_eq (pe_op op_mod (pe_op op_add (pe_op op_mul pe_int (pv 5)) pe_int) pe_int) (pv 2) (nomark _)))) (fun _ _ _ _ _ => (pv 5))) (pe_lst (pa_cons (pv 4) pa_nil)) (nomark _))))) (pss_one (ps_ret pe_bl)) pss_nil)
      (pss_cons (ps_if (pt_cmpR op_eq (pe_op op_mod (pe_call (ok_l_cell_at T) (hr.mono (by decide)) rfl T.g_l_cell_at T.F_l_cell_at.kp T.b_l_cell_at .nil pass0 (pa_cons (pv 0) (pa_cons pe_int pa_nil))) pe_int) pe_int (nomark _)) (pss_one (ps_ret (pe_call (ok_l_refused T) (hr.mono (by decide)) rfl T.g_l_refused T.F_l_refused.kp T.b_l_refused .nil pass0 (pa_cons (pe_op op_mod (pe_call (ok_l_cell_at T) (hr.mono (by decide)) rfl T.g_l_cell_at T.F_l_cell_at.kp T.b_l_cell_at .nil pass0 (pa_cons (pv 0) (pa_cons pe_int pa_nil))) pe_int) (pa_cons (pe_call (ok_l_none T) (hr.mono (by decide)) rfl T.g_l_none T.F_l_none.kp T.b_l_none .nil pass0 (pa_cons (pe_call (ok_l_cell_at T) (hr.mono (by decide)) rfl T.g_l_cell_at T.F_l_cell_at.kp T.b_l_cell_at .nil pass0 (pa_cons (pv 0) (pa_cons pe_int pa_nil))) pa_nil)) pa_nil))))) pss_nil)
      (pss_one (ps_ret (pe_and (pe_cmpR op_eq (pe_callS (ok_unmixed T) (hr.mono (by decide)) rfl T.g_unmixed T.F_unmixed.kp T.b_unmixed (fun σ => passF) (pa_cons (pv 3) pa_nil)) (pv 1) (nomark _)) (pe_one (pe_cmpR op_eq (pe_callS (ok_mixed T) (hr.mono (by decide)) rfl T.g_mixed T.F_mixed.kp T.b_mixed (fun σ => passF) (pa_cons (pv 4) pa_nil)) (pv 2) (nomark _))))))))))))), ?_⟩
    obtain ⟨n1, h1, l1⟩ := nat_mod (cellN ns (0 : Int).toNat) 256 (by decide)
    obtain ⟨n2, h2, l2⟩ := nat_mod (cellN ns (1 : Int).toNat) 256 (by decide)
    have l1' : n1 < 256 := by omega
    have l2' : n2 < 256 := by omega
    refine q_asg (v := .int (n1 : Int)) (ev_is (by walk_at "ev") (congrArg V.int h1)) ?_
    intro H1 e1
    have hS1 := ex_l e1 hS
    refine q_asg (v := .int (n2 : Int)) (ev_is (by walk_at "ev") (congrArg V.int h2)) ?_
    intro H2 e2
    have hS2 := ex_l e2 hS1
    refine st_nf (t := tSeq _ _) (σ' := [some (.ref a), some (.int (n1 : Int)), some (.int (n2 : Int)), none, none, none]) rfl ?_
    refine q_asg (v := .int (mixN n1 : Nat)) (ev_X (C := T.a_BadName) (z := fun n => V.int (mixN n : Nat)) (by walk_at "ea") l1') ?_
    intro H3 e3
    have hS3 := ex_l e3 hS2
    refine st_nf (t := tSeq _ _) (σ' := [some (.ref a), some (.int (n1 : Int)), some (.int (n2 : Int)), some (.int (mixN n1 : Nat)), none, none]) rfl ?_
    walk_at "when"
    · intro hb
      exact absurd hb (by simp [decide_int, mix_int])
    intro _ H4 e4
    have hS4 := ex_l e4 hS3
    refine q_asg (v := .int (unmix n2)) (ev_X (C := T.a_BadName) (z := fun n => V.int (unmix n)) (by walk_at "ea") l2') ?_
    intro H5 e5
    have hS5 := ex_l e5 hS4
    refine st_nf (t := tSeq _ _) (σ' := [some (.ref a), some (.int (n1 : Int)), some (.int (n2 : Int)), some (.int (mixN n1 : Nat)), some (.int (unmix n2)), none]) rfl ?_
    refine q_when (b := !true || false) (et_or (et_not (et_B (by walk_at "ev"))) fun _ => et_test (ev_neII (EvLR.to (lcRR (r' := rpInt) (n := 256) (fun i => decide (mixN i = n2)) (fun i => (i : Int)) (show EvA _ _ _ [.int 256] by walk_at "ea") (by decide) (fun _ => rfl) ?_ ?_) (my_filter n2 l2')) (eg_lst (by walk_at "ea") (show 1 ≤ 100000 by decide)))) ?_ ?_
    · intro i H6 e6 hi
      exact et_is (by walk_at "et") (dec_mix i n2)
    · intro i H6 e6 hi _
      exact ev_R (v := .int (i : Int)) (by walk_at "ev") fun _ _ => rfl
    · intro hb
      exact absurd hb (by decide)
    intro _ H6 e6
    have hS6 := ex_l e6 hS5
    walk_at "when"
    · intro _ H7 e7
      have hS7 := ex_l e7 hS6
      refine s_retk (v := .bl true) (ev_refused (by walk_at "ev") (eg_none (by walk_at "ev"))) ?_
      exact fun B _ => k B
    intro _ H7 e7
    obtain ⟨k2, q1, q2, q3⟩ := unmix_is n2 l2'
    refine s_retk (v := .bl true) (ev_is (ev_andV (a := true) (b := true) (ev_is (ev_op (ev_X (C := T.a_BadName) (n := mixN n1) (z := fun n => V.int (unmix n)) (by walk_at "ea") (mixN_lt n1)) (by walk_at "ev") (rv_eq rfl)) ?_) fun _ => ev_is (ev_op (ev_X (C := T.a_BadName) (n := k2) (z := fun n => V.int (mixN n : Nat)) (ea_cons (ev_is (by walk_at "ev") (congrArg V.int q1)) ea_nil) q2) (by walk_at "ev") (rv_eq rfl)) ?_) rfl) (fun B _ => k B)
    · rw [unmix_mix n1 l1', decide_eq_true rfl]
    · rw [q3, decide_eq_true rfl]
end

theorem all_mk {l : PySem.W.OpenLaw} {w : World} {K : PySem.W.Frag} {h : Heap} {mg : Str → Option Value} {fa : Addr} (X : K.In h) (G : h.Ns mainGlobals mg) (hfa : mg "law" = some (.ref fa))
    {f0 : Addr} {od0 an0 : Option Addr} {sl0 : Array (Option Value)} {oc0 kV0 dc0 pm0 cd0 ct0 : Value}
    {f1 : Addr} {od1 an1 : Option Addr} {sl1 : Array (Option Value)} {oc1 kV1 dc1 pm1 cd1 ct1 : Value}
    {f2 : Addr} {od2 an2 : Option Addr} {sl2 : Array (Option Value)} {oc2 kV2 dc2 pm2 cd2 ct2 : Value}
    {f3 : Addr} {od3 an3 : Option Addr} {sl3 : Array (Option Value)} {oc3 kV3 dc3 pm3 cd3 ct3 : Value}
    {f4 : Addr} {od4 an4 : Option Addr} {sl4 : Array (Option Value)} {oc4 kV4 dc4 pm4 cd4 ct4 : Value}
    {f5 : Addr} {od5 an5 : Option Addr} {sl5 : Array (Option Value)} {oc5 kV5 dc5 pm5 cd5 ct5 : Value}
    {f6 : Addr} {od6 an6 : Option Addr} {sl6 : Array (Option Value)} {oc6 kV6 dc6 pm6 cd6 ct6 : Value}
    {f7 : Addr} {od7 an7 : Option Addr} {sl7 : Array (Option Value)} {oc7 kV7 dc7 pm7 cd7 ct7 : Value}
    {f8 : Addr} {od8 an8 : Option Addr} {sl8 : Array (Option Value)} {oc8 kV8 dc8 pm8 cd8 ct8 : Value}
    {f9 : Addr} {od9 an9 : Option Addr} {sl9 : Array (Option Value)} {oc9 kV9 dc9 pm9 cd9 ct9 : Value}
    {f10 : Addr} {od10 an10 : Option Addr} {sl10 : Array (Option Value)} {oc10 kV10 dc10 pm10 cd10 ct10 : Value}
    {C0 : Addr}
    {C1 : Addr}
    {C2 : Addr}
    {C3 : Addr}
    {C4 : Addr}
    {t0 : Tok}
    {t1 : Tok}
    {t2 : Tok}
    {t3 : Tok}
    {t4 : Tok}
    (a0 : PySem.W.nsIn K mainGlobals "check_name" = some (some (.ref f0)))
    (l0 : K.lookup f0 = some ⟨oc0, od0, .func (PySem.W.fnOf "check_name" "check_name" (defArgs s_check_name) (defBody s_check_name) (defScope s_check_name) .none kV0 dc0 pm0 an0 cd0 ct0), sl0⟩)
    (c0 : PySem.W.codeIn K cd0 "check_name" = true) (k0 : PySem.W.keepIn K (.ref f0) = true)
    (a1 : PySem.W.nsIn K mainGlobals "mixed" = some (some (.ref f1)))
    (l1 : K.lookup f1 = some ⟨oc1, od1, .func (PySem.W.fnOf "mixed" "mixed" (defArgs s_mixed) (defBody s_mixed) (defScope s_mixed) .none kV1 dc1 pm1 an1 cd1 ct1), sl1⟩)
    (c1 : PySem.W.codeIn K cd1 "mixed" = true) (k1 : PySem.W.keepIn K (.ref f1) = true)
    (a2 : PySem.W.nsIn K mainGlobals "unmixed" = some (some (.ref f2)))
    (l2 : K.lookup f2 = some ⟨oc2, od2, .func (PySem.W.fnOf "unmixed" "unmixed" (defArgs s_unmixed) (defBody s_unmixed) (defScope s_unmixed) .none kV2 dc2 pm2 an2 cd2 ct2), sl2⟩)
    (c2 : PySem.W.codeIn K cd2 "unmixed" = true) (k2 : PySem.W.keepIn K (.ref f2) = true)
    (a3 : PySem.W.nsIn K mainGlobals "signs" = some (some (.ref f3)))
    (l3 : K.lookup f3 = some ⟨oc3, od3, .func (PySem.W.fnOf "signs" "signs" (defArgs s_signs) (defBody s_signs) (defScope s_signs) .none kV3 dc3 pm3 an3 cd3 ct3), sl3⟩)
    (c3 : PySem.W.codeIn K cd3 "signs" = true) (k3 : PySem.W.keepIn K (.ref f3) = true)
    (a4 : PySem.W.nsIn K mainGlobals "_law_whole" = some (some (.ref f4)))
    (l4 : K.lookup f4 = some ⟨oc4, od4, .func (PySem.W.fnOf "_law_whole" "_law_whole" (defArgs s_l_whole) (defBody s_l_whole) (defScope s_l_whole) .none kV4 dc4 pm4 an4 cd4 ct4), sl4⟩)
    (c4 : PySem.W.codeIn K cd4 "_law_whole" = true) (k4 : PySem.W.keepIn K (.ref f4) = true)
    (a5 : PySem.W.nsIn K mainGlobals "_law_cell_at" = some (some (.ref f5)))
    (l5 : K.lookup f5 = some ⟨oc5, od5, .func (PySem.W.fnOf "_law_cell_at" "_law_cell_at" (defArgs s_l_cell_at) (defBody s_l_cell_at) (defScope s_l_cell_at) .none kV5 dc5 pm5 an5 cd5 ct5), sl5⟩)
    (c5 : PySem.W.codeIn K cd5 "_law_cell_at" = true) (k5 : PySem.W.keepIn K (.ref f5) = true)
    (a6 : PySem.W.nsIn K mainGlobals "_law_none" = some (some (.ref f6)))
    (l6 : K.lookup f6 = some ⟨oc6, od6, .func (PySem.W.fnOf "_law_none" "_law_none" (defArgs s_l_none) (defBody s_l_none) (defScope s_l_none) .none kV6 dc6 pm6 an6 cd6 ct6), sl6⟩)
    (c6 : PySem.W.codeIn K cd6 "_law_none" = true) (k6 : PySem.W.keepIn K (.ref f6) = true)
    (a7 : PySem.W.nsIn K mainGlobals "_law_called" = some (some (.ref f7)))
    (l7 : K.lookup f7 = some ⟨oc7, od7, .func (PySem.W.fnOf "_law_called" "_law_called" (defArgs s_l_called) (defBody s_l_called) (defScope s_l_called) .none kV7 dc7 pm7 an7 cd7 ct7), sl7⟩)
    (c7 : PySem.W.codeIn K cd7 "_law_called" = true) (k7 : PySem.W.keepIn K (.ref f7) = true)
    (a8 : PySem.W.nsIn K mainGlobals "_law_alone" = some (some (.ref f8)))
    (l8 : K.lookup f8 = some ⟨oc8, od8, .func (PySem.W.fnOf "_law_alone" "_law_alone" (defArgs s_l_alone) (defBody s_l_alone) (defScope s_l_alone) .none kV8 dc8 pm8 an8 cd8 ct8), sl8⟩)
    (c8 : PySem.W.codeIn K cd8 "_law_alone" = true) (k8 : PySem.W.keepIn K (.ref f8) = true)
    (a9 : PySem.W.nsIn K mainGlobals "_law_refused" = some (some (.ref f9)))
    (l9 : K.lookup f9 = some ⟨oc9, od9, .func (PySem.W.fnOf "_law_refused" "_law_refused" (defArgs s_l_refused) (defBody s_l_refused) (defScope s_l_refused) .none kV9 dc9 pm9 an9 cd9 ct9), sl9⟩)
    (c9 : PySem.W.codeIn K cd9 "_law_refused" = true) (k9 : PySem.W.keepIn K (.ref f9) = true)
    (a10 : PySem.W.nsIn K mainGlobals "law" = some (some (.ref f10)))
    (l10 : K.lookup f10 = some ⟨oc10, od10, .func (PySem.W.fnOf "law" "law" (defArgs s_law) (defBody s_law) (defScope s_law) .none kV10 dc10 pm10 an10 cd10 ct10), sl10⟩)
    (c10 : PySem.W.codeIn K cd10 "law" = true) (k10 : PySem.W.keepIn K (.ref f10) = true)
    (q0 : PySem.W.nsIn K mainGlobals "RoomError" = some (some (.ref C0)))
    (q1 : PySem.W.nsIn K mainGlobals "BadName" = some (some (.ref C1)))
    (q2 : PySem.W.nsIn K mainGlobals "BadBound" = some (some (.ref C2)))
    (q3 : PySem.W.nsIn K mainGlobals "NoThing" = some (some (.ref C3)))
    (q4 : PySem.W.nsIn K mainGlobals "NoStore" = some (some (.ref C4)))
    (hx_BadName : PySem.W.excIn K C1 [.type "ValueError", .type "Exception", .type "BaseException", .type "object"] "ValueError.__new__" = true)
    (hkc_BadName : PySem.W.keepIn K (.ref C1) = true)
    (hbc_BadName : PySem.W.subIn K (.ref C1) (.type "BaseException") = some true)
    (htc_BadName : PySem.W.typeIn K (.ref C1) = some (.type "type"))
    (hX_BadName : L2.ExcC K C1)
    (hk_BadName : PySem.W.kitOne K (.ref C1) (.ref C1) = some true)
    (hk_BadBound : PySem.W.kitOne K (.ref C1) (.ref C2) = some false)
    (hk_NoThing : PySem.W.kitOne K (.ref C1) (.ref C3) = some false)
    (hk_NoStore : PySem.W.kitOne K (.ref C1) (.ref C4) = some false)
    (hk_ValueError : PySem.W.kitOne K (.ref C1) (.type "ValueError") = some true)
    (he_BadName_BadName : PySem.W.exmOne K (.ref C1) (.ref C1) = some true)
    (he_BadName_RoomError : PySem.W.exmOne K (.ref C1) (.ref C0) = some true)
    (e0 : PySem.W.nsIn K mainGlobals "SIGNS" = some (some (.int 8 t0)))
    (e1 : PySem.W.nsIn K mainGlobals "NAMES" = some (some (.int 256 t1)))
    (e2 : PySem.W.nsIn K mainGlobals "FACTOR" = some (some (.int 171 t2)))
    (e3 : PySem.W.nsIn K mainGlobals "SHIFT" = some (some (.int 37 t3)))
    (e4 : PySem.W.nsIn K mainGlobals "UNDOING_FACTOR" = some (some (.int 3 t4)))
    (z0 : PySem.W.nsIn K mainGlobals "ValueError" = some none)
    (z1 : PySem.W.nsIn K mainGlobals "bool" = some none)
    (z2 : PySem.W.nsIn K mainGlobals "int" = some none)
    (z3 : PySem.W.nsIn K mainGlobals "isinstance" = some none)
    (z4 : PySem.W.nsIn K mainGlobals "len" = some none)
    (z5 : PySem.W.nsIn K mainGlobals "range" = some none)
    (z6 : PySem.W.nsIn K mainGlobals "type" = some none) :
    ∃ fd : FuncData, (∀ (s : Shared) (v : Value), BindsTo s fd ⟨[v], []⟩ [("_law_script", v)]) ∧ ∀ base : Heap, K.In base → base.Ns mainGlobals mg → FnOk l.prog w K mg base CX0 7 fa fd ["_law_script"] (spLaw K) := by
  have e := hfa.symm.trans (PySem.W.mg_of X G a10)
  cases e
  let T : Top K mg := { a_check_name := f0, fd_check_name := _, F_check_name := fun_mk (st := s_check_name) l0 c0 k0, g_check_name := PySem.W.mg_of X G a0, b_check_name := (fun_mk (st := s_check_name) l0 c0 k0).binds (ps := ["name"]) fun _ _ _ _ _ _ us hl => (match us, hl with | [_], _ => rfl), a_mixed := f1, fd_mixed := _, F_mixed := fun_mk (st := s_mixed) l1 c1 k1, g_mixed := PySem.W.mg_of X G a1, b_mixed := (fun_mk (st := s_mixed) l1 c1 k1).binds (ps := ["name"]) fun _ _ _ _ _ _ us hl => (match us, hl with | [_], _ => rfl), a_unmixed := f2, fd_unmixed := _, F_unmixed := fun_mk (st := s_unmixed) l2 c2 k2, g_unmixed := PySem.W.mg_of X G a2, b_unmixed := (fun_mk (st := s_unmixed) l2 c2 k2).binds (ps := ["number"]) fun _ _ _ _ _ _ us hl => (match us, hl with | [_], _ => rfl), a_signs := f3, fd_signs := _, F_signs := fun_mk (st := s_signs) l3 c3 k3, g_signs := PySem.W.mg_of X G a3, b_signs := (fun_mk (st := s_signs) l3 c3 k3).binds (ps := ["name"]) fun _ _ _ _ _ _ us hl => (match us, hl with | [_], _ => rfl), a_l_whole := f4, fd_l_whole := _, F_l_whole := fun_mk (st := s_l_whole) l4 c4 k4, g_l_whole := PySem.W.mg_of X G a4, b_l_whole := (fun_mk (st := s_l_whole) l4 c4 k4).binds (ps := ["_law_found"]) fun _ _ _ _ _ _ us hl => (match us, hl with | [_], _ => rfl), a_l_cell_at := f5, fd_l_cell_at := _, F_l_cell_at := fun_mk (st := s_l_cell_at) l5 c5 k5, g_l_cell_at := PySem.W.mg_of X G a5, b_l_cell_at := (fun_mk (st := s_l_cell_at) l5 c5 k5).binds (ps := ["_law_script", "_law_k"]) fun _ _ _ _ _ _ us hl => (match us, hl with | [_, _], _ => rfl), a_l_none := f6, fd_l_none := _, F_l_none := fun_mk (st := s_l_none) l6 c6 k6, g_l_none := PySem.W.mg_of X G a6, b_l_none := (fun_mk (st := s_l_none) l6 c6 k6).binds (ps := ["_law_cell"]) fun _ _ _ _ _ _ us hl => (match us, hl with | [_], _ => rfl), a_l_called := f7, fd_l_called := _, F_l_called := fun_mk (st := s_l_called) l7 c7 k7, g_l_called := PySem.W.mg_of X G a7, b_l_called := (fun_mk (st := s_l_called) l7 c7 k7).binds (ps := ["_law_way", "_law_thing"]) fun _ _ _ _ _ _ us hl => (match us, hl with | [_, _], _ => rfl), a_l_alone := f8, fd_l_alone := _, F_l_alone := fun_mk (st := s_l_alone) l8 c8 k8, g_l_alone := PySem.W.mg_of X G a8, b_l_alone := (fun_mk (st := s_l_alone) l8 c8 k8).binds (ps := ["_law_e", "_law_which"]) fun _ _ _ _ _ _ us hl => (match us, hl with | [_, _], _ => rfl), a_l_refused := f9, fd_l_refused := _, F_l_refused := fun_mk (st := s_l_refused) l9 c9 k9, g_l_refused := PySem.W.mg_of X G a9, b_l_refused := (fun_mk (st := s_l_refused) l9 c9 k9).binds (ps := ["_law_way", "_law_thing"]) fun _ _ _ _ _ _ us hl => (match us, hl with | [_, _], _ => rfl), a_law := fa, fd_law := _, F_law := fun_mk (st := s_law) l10 c10 k10, g_law := PySem.W.mg_of X G a10, b_law := (fun_mk (st := s_law) l10 c10 k10).binds (ps := ["_law_script"]) fun _ _ _ _ _ _ us hl => (match us, hl with | [_], _ => rfl), a_RoomError := C0, g_RoomError := PySem.W.mg_of X G q0, a_BadName := C1, g_BadName := PySem.W.mg_of X G q1, a_BadBound := C2, g_BadBound := PySem.W.mg_of X G q2, a_NoThing := C3, g_NoThing := PySem.W.mg_of X G q3, a_NoStore := C4, g_NoStore := PySem.W.mg_of X G q4, x_BadName := hx_BadName, kc_BadName := hkc_BadName, bc_BadName := hbc_BadName, tc_BadName := htc_BadName, X_BadName := hX_BadName, k_BadName := hk_BadName, k_BadBound := hk_BadBound, k_NoThing := hk_NoThing, k_NoStore := hk_NoStore, k_ValueError := hk_ValueError, e_BadName_BadName := he_BadName_BadName, e_BadName_RoomError := he_BadName_RoomError, c_SIGNS := ⟨t0, PySem.W.mg_of X G e0⟩, c_NAMES := ⟨t1, PySem.W.mg_of X G e1⟩, c_FACTOR := ⟨t2, PySem.W.mg_of X G e2⟩, c_SHIFT := ⟨t3, PySem.W.mg_of X G e3⟩, c_UNDOING_FACTOR := ⟨t4, PySem.W.mg_of X G e4⟩, z_ValueError := PySem.W.mg_none_of X G z0, z_bool := PySem.W.mg_none_of X G z1, z_int := PySem.W.mg_none_of X G z2, z_isinstance := PySem.W.mg_none_of X G z3, z_len := PySem.W.mg_none_of X G z4, z_range := PySem.W.mg_none_of X G z5, z_type := PySem.W.mg_none_of X G z6 }
  exact ⟨_, fun s v => .of_eq rfl, fun base _ _ => ok_law (P := l.prog) (w := w) (base := base) T⟩
theorem walk {l : PySem.W.OpenLaw} {q : Program} {loose : List Str} {XP : (Str → Option Value) → Heap → Prop} {YP : World → Heap → Prop} {d : DefRec} {K : Params → PySem.W.Frag} (hn : l.most = some 63) (hdf : d.params.defaults = [])
    (hY : ∀ (w : World) (h : Heap), YP w h → (K w.params).In h)
    (F : ∀ (w : World) (mg : Str → Option Value) (fa : Addr) (h : Heap), (K w.params).In h → h.Ns mainGlobals mg → mg d.name = some (.ref fa) →
      ∃ fd : FuncData, (∀ (s : Shared) (u : Value), BindsTo s fd ⟨[u], []⟩ [("_law_script", u)]) ∧ ∀ base : Heap, (K w.params).In base → base.Ns mainGlobals mg → FnOk l.prog w (K w.params) mg base CX0 7 fa fd ["_law_script"] (spLaw (K w.params))) :
    PySem.W.WalkO q loose XP YP l.row.toRowW d [] (fun f vs => PySem.call f vs) :=
  L2.walk_of (n := 63) (k := 7) (x := "_law_script") (CX := fun _ => CX0) (sp := fun w => spLaw (K w.params)) hn (by decide) hdf ⟨rfl, by decide, by decide⟩ hY F (fun _ _ a ns hl _ hS => ⟨a, ns, rfl, hS, hl, fun _ => rfl⟩) fun _ _ _ _ _ z => z
end Vf
open PySem PySem.W PyProof.Rows
set_option maxRecDepth 100000 in
set_option maxHeartbeats 0 in
theorem PySem.Challenge.cw_splitrooms_k01_mixed_names_holds : PySem.Challenge.rw_splitrooms_k01_mixed_names.Holds := by
  w_on; o_law; k_head; (case hw => w_witness2)
  k_fill
  refine Vf.walk (l := PySem.Challenge.rw_splitrooms_k01_mixed_names) rfl rfl (fun w h Y => PySem.W.kIn_of Y) ?F
  case F =>
    intro w mg fa h KX G hmg
    refine' Vf.all_mk KX G hmg ?a0 ?l0 ?c0 ?k0 ?a1 ?l1 ?c1 ?k1 ?a2 ?l2 ?c2 ?k2 ?a3 ?l3 ?c3 ?k3 ?a4 ?l4 ?c4 ?k4 ?a5 ?l5 ?c5 ?k5 ?a6 ?l6 ?c6 ?k6 ?a7 ?l7 ?c7 ?k7 ?a8 ?l8 ?c8 ?k8 ?a9 ?l9 ?c9 ?k9 ?a10 ?l10 ?c10 ?k10 ?q0 ?q1 ?q2 ?q3 ?q4 ?hx_BadName ?hkc_BadName ?hbc_BadName ?htc_BadName ?hX_BadName ?hk_BadName ?hk_BadBound ?hk_NoThing ?hk_NoStore ?hk_ValueError ?he_BadName_BadName ?he_BadName_RoomError ?e0 ?e1 ?e2 ?e3 ?e4 ?z0 ?z1 ?z2 ?z3 ?z4 ?z5 ?z6
    (case a0 => k_is)
    (case l0 => k_is)
    (case c0 => k_is)
    (case k0 => k_is)
    (case a1 => k_is)
    (case l1 => k_is)
    (case c1 => k_is)
    (case k1 => k_is)
    (case a2 => k_is)
    (case l2 => k_is)
    (case c2 => k_is)
    (case k2 => k_is)
    (case a3 => k_is)
    (case l3 => k_is)
    (case c3 => k_is)
    (case k3 => k_is)
    (case a4 => k_is)
    (case l4 => k_is)
    (case c4 => k_is)
    (case k4 => k_is)
    (case a5 => k_is)
    (case l5 => k_is)
    (case c5 => k_is)
    (case k5 => k_is)
    (case a6 => k_is)
    (case l6 => k_is)
    (case c6 => k_is)
    (case k6 => k_is)
    (case a7 => k_is)
    (case l7 => k_is)
    (case c7 => k_is)
    (case k7 => k_is)
    (case a8 => k_is)
    (case l8 => k_is)
    (case c8 => k_is)
    (case k8 => k_is)
    (case a9 => k_is)
    (case l9 => k_is)
    (case c9 => k_is)
    (case k9 => k_is)
    (case a10 => k_is)
    (case l10 => k_is)
    (case c10 => k_is)
    (case k10 => k_is)
    (case q0 => k_is)
    (case q1 => k_is)
    (case q2 => k_is)
    (case q3 => k_is)
    (case q4 => k_is)
    (case hx_BadName => k_exc)
    (case hkc_BadName => k_is)
    (case hbc_BadName => k_is)
    (case htc_BadName => k_is)
    (case hX_BadName => (refine ⟨?_, ?_, ?_, ?_, ?_, ?_, ?_, ?_⟩ <;> first | rfl | k_is))
    (case hk_BadName => (first | rfl | k_is))
    (case hk_BadBound => (first | rfl | k_is))
    (case hk_NoThing => (first | rfl | k_is))
    (case hk_NoStore => (first | rfl | k_is))
    (case hk_ValueError => (first | rfl | k_is))
    (case he_BadName_BadName => (first | rfl | k_is))
    (case he_BadName_RoomError => (first | rfl | k_is))
    (case e0 => k_is)
    (case e1 => k_is)
    (case e2 => k_is)
    (case e3 => k_is)
    (case e4 => k_is)
    (case z0 => k_is)
    (case z1 => k_is)
    (case z2 => k_is)
    (case z3 => k_is)
    (case z4 => k_is)
    (case z5 => k_is)
    (case z6 => k_is)
