import PyProof.Rows.All
import Wide.All
import OpenK.AllK
import Wide.FinOn
import HandS.ForMost
import HandS.Lambda
import HandS.More
import HandS.IsInst
import HandS.FStr
import HandS.StrMore
import HandS.Walk
import HandS.Star
import HandS.SortInts
import HandS.SortRule
import HandS.EndTab
import HandS.Style
import KE.KRevSl
import KE.SortKeyHeap
import HandS.ForExc
import HandS.HotCalls
import HandS.TryOnly
import HandS.Exc
import HandS.ExcIs
import HandS.ExcCtx
import HandS.CallSlots
import PyProof.Rows.SortShellAny
import HandS.Codes
import HandS.TryMany
import HandS.RaiseFrom
import HandS.SuiteRaise
import KE.KTryMore
import KE.GoesComp
import KE.IntTextText
import KE.KUnpackStar
import PySem.Challenge.RW_splitrooms_k12_read
set_option Elab.async false
set_option linter.all false
set_option maxRecDepth 100000
namespace Vf
open PySem L2
section
/-! ### heaps that grow: what stood stands; a table of code objects that was known is known -/
def lamQ : Str := Str.ofString "joined" ++ Str.ofString ".<locals>." ++ Str.ofString "<lambda>"
/-- the tables of code objects that lambdas write: where each stands, the name that its codes have -/
class TabCx where
  T : List (Addr × Str)
  nd : (T.map (·.1)).Nodup
variable [TabCx]
def TabsOk (H : Hp) : Prop := ∀ t ∈ TabCx.T, LamX.TabS H t.1 t.2
theorem TabsOk.ext {H H' : Hp} (h : TabsOk H) (e : ∀ a o, H a = some o → H' a = some o) : TabsOk H' := fun t ht => LamX.TabS.ext (h t ht) e
/-- a list changes: the tables stand -/
theorem TabsOk.lst {H : Hp} (h : TabsOk H) {p : Addr} {o : HO} {xs : List V} (hp : H p = some (.lst xs)) : TabsOk (upd H p o) := fun t ht => by
  obtain ⟨ps, h1, h2, h3⟩ := h t ht
  refine ⟨ps, by rw [upd_ne (ne_of h1 hp (by intro z; cases z))]; exact h1, h2, fun pos cv hc => ?_⟩
  obtain ⟨c, e1, e2⟩ := h3 pos cv hc
  exact ⟨c, e1, by rw [upd_ne (ne_of e2 hp (by intro z; unfold LamX.CodeO at z; cases z))]; exact e2⟩
structure Ex (H H' : Hp) : Prop where
  keep : ∀ (a : Addr) (o : HO), H a = some o → (∀ ps, o ≠ .tbl ps) → H' a = some o
  dom : ∀ a : Addr, H' a = none → H a = none
  tabs : TabsOk H → TabsOk H'
theorem Ex.k {H H' : Hp} {a : Addr} {o : HO} (e : Ex H H') (h : H a = some o) (n : ∀ ps, o ≠ .tbl ps := by intro _ z; cases z) : H' a = some o := e.keep a o h n
theorem Ex.refl (H : Hp) : Ex H H := ⟨fun _ _ h _ => h, fun _ h => h, fun h => h⟩
theorem Ex.trans {H H1 H2 : Hp} (a : Ex H H1) (b : Ex H1 H2) : Ex H H2 :=
  ⟨fun x o h n => b.keep x o (a.keep x o h n) n, fun x h => a.dom x (b.dom x h), fun h => b.tabs (a.tabs h)⟩
theorem Ex.of {H H' : Hp} (e : ∀ a o, H a = some o → H' a = some o) : Ex H H' := by
  refine ⟨fun a o h _ => e a o h, fun a h => ?_, fun t => t.ext e⟩
  cases q : H a with
  | none => rfl
  | some o =>
    rw [e a o q] at h
    cases h
theorem Ex.new {H : Hp} {p : Addr} {o : HO} (h : H p = none) : Ex H (upd H p o) := .of fun a u q => by
  rw [upd_ne (ne_of_none q h)]
  exact q
/-- a list that was not there ahead may change -/
theorem Ex.mut {H H' : Hp} {p : Addr} {o : HO} {xs : List V} (e : Ex H H') (h : H p = none) (hp : H' p = some (.lst xs)) : Ex H (upd H' p o) := by
  refine ⟨fun a u q n => ?_, fun a q => ?_, fun t => (e.tabs t).lst hp⟩
  · rw [upd_ne (ne_of_none q h)]
    exact e.keep a u q n
  · by_cases ha : a = p
    · rw [ha]
      exact h
    · rw [upd_ne ha] at q
      exact e.dom a q
/-- what is never changed in place but by its maker -/
def Imm : HO → Prop
  | .lst _ => True
  | .tup _ => True
  | .frz _ (.lst _) => True
  | .frz _ (.tup _) => True
  | _ => False
/-- what may change: dicts, instances; lists and tuples stand -/
structure ExW (H H' : Hp) : Prop where
  keep : ∀ (a : Addr) (o : HO), H a = some o → Imm o → H' a = some o
  dom : ∀ a : Addr, H' a = none → H a = none
  tabs : TabsOk H → TabsOk H'
theorem Ex.w {H H' : Hp} (e : Ex H H') : ExW H H' := ⟨fun a o h i => e.keep a o h fun ps z => by rw [z] at i; exact i, e.dom, e.tabs⟩
instance {H H' : Hp} : Coe (Ex H H') (ExW H H') := ⟨Ex.w⟩
theorem ExW.refl (H : Hp) : ExW H H := (Ex.refl H).w
theorem ExW.trans {H H1 H2 : Hp} (a : ExW H H1) (b : ExW H1 H2) : ExW H H2 :=
  ⟨fun x o h n => b.keep x o (a.keep x o h n) n, fun x h => a.dom x (b.dom x h), fun h => b.tabs (a.tabs h)⟩
theorem ExW.k {H H' : Hp} {a : Addr} {o : HO} (e : ExW H H') (h : H a = some o) (n : Imm o := by trivial) : H' a = some o := e.keep a o h n
theorem ExW.l {K : PySem.W.Frag} {H H' : Hp} {a : Addr} {xs : List V} (e : ExW H H') (h : SqL K H a xs) : SqL K H' a xs :=
  h.elim (fun r => .inl (r.elim (fun r => .inl (e.k r)) fun ⟨o, r⟩ => .inr ⟨o, e.k r⟩)) .inr
/-- a list that was not there ahead may change -/
theorem ExW.mut {H H' : Hp} {p : Addr} {o : HO} {xs : List V} (e : ExW H H') (h : H p = none) (hp : H' p = some (.lst xs)) : ExW H (upd H' p o) := by
  refine ⟨fun a u q n => ?_, fun a q => ?_, fun t => (e.tabs t).lst hp⟩
  · rw [upd_ne (ne_of_none q h)]
    exact e.keep a u q n
  · by_cases ha : a = p
    · rw [ha]
      exact h
    · rw [upd_ne ha] at q
      exact e.dom a q

theorem fresh_back {H H' : Hp} {p : Addr} (e : Ex H H') (h : H' p = none) : H p = none := e.dom p h
theorem ex_l {K : PySem.W.Frag} {H H' : Hp} {a : Addr} {xs : List V} (e : Ex H H') (h : SqL K H a xs) : SqL K H' a xs :=
  h.elim (fun r => .inl (r.elim (fun r => .inl (e.k r)) fun ⟨o, r⟩ => .inr ⟨o, e.k r⟩)) .inr
theorem ex_t {K : PySem.W.Frag} {H H' : Hp} {a : Addr} {xs : List V} (e : Ex H H') (h : SqT K H a xs) : SqT K H' a xs :=
  h.elim (fun r => .inl (r.elim (fun r => .inl (e.k r)) fun ⟨o, r⟩ => .inr ⟨o, e.k r⟩)) .inr
theorem sq_of {K : PySem.W.Frag} {H : Hp} {a : Addr} {xs : List V} (h : H a = some (.lst xs)) : SqL K H a xs := SqL.of h
theorem st_of {K : PySem.W.Frag} {H : Hp} {a : Addr} {xs : List V} (h : H a = some (.tup xs)) : SqT K H a xs := SqT.of h
theorem sz_of {n : Nat} (h : n ≤ 100000) : n ≤ sizeLine := Nat.le_trans h (by decide)
theorem sz_lt {n : Nat} (h : n < 100000) : n < sizeLine := Nat.lt_of_lt_of_le h (by decide)

/-! ### what a reading comes to, in every heap that has grown out of this one -/
/-- P: the heap ahead, the value, the heap behind -/
def EvG (te : TE) (σ : L2.St) (H : Hp) (P : Hp → V → Hp → Prop) : Prop := ∀ A, Ex H A → ∀ Q : VK, (∀ v B, Ex A B → P A v B → Q v B) → te σ A Q
def Ev (te : TE) (σ : L2.St) (H : Hp) (v : V) : Prop := ∀ A, Ex H A → ∀ Q : VK, (∀ B, Ex A B → Q v B) → te σ A Q
def EvT (t : TT) (σ : L2.St) (H : Hp) (b : Bool) : Prop := ∀ A, Ex H A → ∀ Q : Bool → Hp → Prop, (∀ B, Ex A B → Q b B) → t σ A Q
def EvA (t : TA) (σ : L2.St) (H : Hp) (vs : List V) : Prop := ∀ A, Ex H A → ∀ Q : List V → Hp → Prop, (∀ B, Ex A B → Q vs B) → t σ A Q
def EvO (t : TO) (σ : L2.St) (H : Hp) (o : Option Int) : Prop := ∀ A, Ex H A → ∀ Q : Option Int → Hp → Prop, (∀ B, Ex A B → Q o B) → t σ A Q
def RV (r : R2) (x y : V) (H : Hp) (z : V) : Prop := ∀ A, Ex H A → ∀ Q : VK, (∀ B, Ex A B → Q z B) → r x y A Q
def RC (r : List V → Hp → VK → Prop) (vs : List V) (H : Hp) (z : V) : Prop := ∀ A, Ex H A → ∀ Q : VK, (∀ B, Ex A B → Q z B) → r vs A Q
def RetV (v : V) (H : Hp) (Q : VK) : Prop := ∀ B, Ex H B → Q v B
def SpV (sp : Sp) (vs : List V) (H : Hp) (z : V) : Prop := ∀ A, Ex H A → ∀ Q : VK, RetV z A Q → ∀ E : XK, sp vs A Q E
/-- a new tuple, a new list, of just these -/
abbrev NewT (xs : List V) : Hp → V → Hp → Prop := fun A v B => ∃ p, v = .ref p ∧ A p = none ∧ B p = some (.tup xs)
abbrev NewL (xs : List V) : Hp → V → Hp → Prop := fun A v B => ∃ p, v = .ref p ∧ A p = none ∧ B p = some (.lst xs)
section
variable {K : PySem.W.Frag} {σ : L2.St} {H H' : Hp} {ta tb tc te tx : TE} {t u : TT} {x y z v : V} {r r' : R2} {P P' : Hp → V → Hp → Prop}
theorem Ev.mono (e : Ex H H') (h : Ev te σ H v) : Ev te σ H' v := fun A a => h A (e.trans a)
theorem EvT.mono {b : Bool} (e : Ex H H') (h : EvT t σ H b) : EvT t σ H' b := fun A a => h A (e.trans a)
theorem EvA.mono {ta : TA} {vs : List V} (e : Ex H H') (h : EvA ta σ H vs) : EvA ta σ H' vs := fun A a => h A (e.trans a)
theorem EvG.mono (e : Ex H H') (h : EvG te σ H P) : EvG te σ H' P := fun A a => h A (e.trans a)
theorem RetV.mono {Q : VK} (e : Ex H H') (k : RetV v H Q) : RetV v H' Q := fun B b => k B (e.trans b)
theorem EvG.imp (h : EvG te σ H P) (i : ∀ A v B, Ex H A → Ex A B → P A v B → P' A v B) : EvG te σ H P' := fun A a Q q => h A a Q fun v B b p => q v B b (i A v B a b p)
theorem Ev.g (h : Ev te σ H v) (i : ∀ A B, Ex H A → Ex A B → P A v B) : EvG te σ H P := fun A a Q q => h A a _ fun B b => q v B b (i A B a b)
theorem ev_var {i : Nat} (h : σ[i]? = some (some v)) : Ev (tVar i) σ H v := fun A _ _ q => ⟨v, h, q A (.refl A)⟩
theorem ev_c : Ev (tC v) σ H v := fun A _ _ q => q A (.refl A)
theorem ev_op (ha : Ev ta σ H x) (hb : Ev tb σ H y) (hr : RV r x y H z) : Ev (tOp r ta tb) σ H z := fun A a Q q =>
  ha A a _ fun B b => hb B (a.trans b) _ fun C c => hr C ((a.trans b).trans c) Q fun D d => q D ((b.trans c).trans d)
theorem ev_un {r : V → Hp → VK → Prop} (ha : Ev ta σ H x) (hr : ∀ A, Ex H A → ∀ Q : VK, (∀ B, Ex A B → Q z B) → r x A Q) : Ev (tUn r ta) σ H z := fun A a Q q =>
  ha A a _ fun B b => hr B (a.trans b) Q fun C c => q C (b.trans c)
/-- the right operand is told by P -/
theorem ev_opR (ha : Ev ta σ H x) (hb : EvG tb σ H P) (hr : ∀ A w B, Ex H A → Ex A B → P A w B → RV r x w B z) : Ev (tOp r ta tb) σ H z := fun A a Q q =>
  ha A a _ fun B b => hb B (a.trans b) _ fun w C c p => hr B w C (a.trans b) c p C (.refl C) Q fun D d => q D ((b.trans c).trans d)
theorem ev_cb {r : List V → Hp → VK → Prop} {ta : TA} {vs : List V} (ha : EvA ta σ H vs) (hr : RC r vs H z) : Ev (tCB r ta) σ H z := fun A a Q q =>
  ha A a _ fun B b => hr B (a.trans b) Q fun C c => q C (b.trans c)
theorem ev_call {sp : Sp} {dvs vs : List V} {E : XK} {ta : TA} (ha : EvA ta σ H vs) (hs : SpV sp (vs ++ dvs) H z) : Ev (tCall sp dvs E ta) σ H z := fun A a Q q =>
  ha A a _ fun B b => hs B (a.trans b) Q (fun C c => q C (b.trans c)) E
theorem ev_is {w : V} (h : Ev te σ H v) (e : v = w) : Ev te σ H w := e ▸ h
theorem ev_notV {a : Bool} (h : Ev ta σ H (.bl a)) : Ev (tNotV ta) σ H (.bl (!a)) := fun A e _ q => h A e _ fun B b => ⟨a, rfl, q B b⟩
theorem ev_andV {a b : Bool} (h : Ev ta σ H (.bl a)) (i : a = true → Ev tb σ H (.bl b)) : Ev (tAndV ta tb) σ H (.bl (a && b)) := fun A e Q q => h A e _ fun B f => ⟨a, rfl, by
  cases a with
  | false => exact q B f
  | true => exact i rfl B (e.trans f) Q fun C g => q C (f.trans g)⟩
theorem ev_orV {a b : Bool} (h : Ev ta σ H (.bl a)) (i : a = false → Ev tb σ H (.bl b)) : Ev (tOrV ta tb) σ H (.bl (a || b)) := fun A e Q q => h A e _ fun B f => ⟨a, rfl, by
  cases a with
  | true => exact q B f
  | false => exact i rfl B (e.trans f) Q fun C g => q C (f.trans g)⟩
theorem ev_if {b : Bool} (h : EvT t σ H b) (h1 : b = true → Ev ta σ H v) (h2 : b = false → Ev tb σ H v) : Ev (tIf t ta tb) σ H v := fun A e Q q => h A e _ fun B f => by
  cases b with
  | true => exact h1 rfl B (e.trans f) Q fun C g => q C (f.trans g)
  | false => exact h2 rfl B (e.trans f) Q fun C g => q C (f.trans g)
theorem rv_I0 {g : Int → Int → V} {i j : Int} : RV (rI0 g) (.int i) (.int j) H (g i j) := fun A _ _ q => ⟨i, j, rfl, rfl, q A (.refl A)⟩
theorem rv_I {C : Int → Int → Prop} {g : Int → Int → V} {i j : Int} (h : C i j) : RV (rI C g) (.int i) (.int j) H (g i j) := fun A _ _ q => ⟨i, j, rfl, rfl, h, q A (.refl A)⟩
theorem rv_eq (h : scal x y = true) : RV rEq x y H (.bl (decide (x = y))) := fun A _ _ q => ⟨h, q A (.refl A)⟩
theorem rv_ne (h : scal x y = true) : RV rNe x y H (.bl (!decide (x = y))) := fun A _ _ q => ⟨h, q A (.refl A)⟩
theorem rv_ixL {p : Addr} {xs : List V} {i : Int} (h : SqL K H p xs) (ha : atI xs i = some v) : RV (rIxL K) (.ref p) (.int i) H v := fun A a _ q => ⟨p, xs, i, v, rfl, rfl, ex_l a h, ha, q A (.refl A)⟩
theorem rv_ixT {p : Addr} {xs : List V} {i : Int} (h : SqT K H p xs) (ha : atI xs i = some v) : RV (rIxT K) (.ref p) (.int i) H v := fun A a _ q => ⟨p, xs, i, v, rfl, rfl, ex_t a h, ha, q A (.refl A)⟩
theorem rv_ixS {s : Str} {i : Int} {c : Nat} (h : s.length ≤ 100000) (ha : atI s.cps.toList i = some c) : RV rIxS (.str s) (.int i) H (.str ⟨#[c]⟩) := fun A _ _ q => ⟨s, i, c, rfl, rfl, sz_of h, ha, q A (.refl A)⟩
theorem rv_in {neg : Bool} {p : Addr} {xs : List V} (h : SqL K H p xs ∨ SqT K H p xs) (hx : flatV x = true) (hf : xs.all flatV = true) : RV (rIn K neg) x (.ref p) H (.bl (if neg then !inV x xs else inV x xs)) :=
  fun A a _ q => ⟨p, xs, rfl, h.elim (fun h => .inl (ex_l a h)) (fun h => .inr (ex_t a h)), hx, hf, q A (.refl A)⟩
theorem et_is {a b : Bool} (h : EvT t σ H a) (e : a = b) : EvT t σ H b := e ▸ h
theorem et_test {b : Bool} (h : Ev te σ H (.bl b)) : EvT (tTest te) σ H b := fun A a _ q => h A a _ fun B f => ⟨b, rfl, q B f⟩
theorem et_B {b : Bool} (h : Ev te σ H (.bl b)) : EvT (tB te) σ H b := fun A a _ q => h A a _ fun B f => ⟨b, rfl, q B f⟩
theorem et_not {a : Bool} (h : EvT t σ H a) : EvT (tNot t) σ H (!a) := fun A e _ q => h A e _ fun B f => q B f
theorem et_and {a b : Bool} (h : EvT t σ H a) (i : a = true → EvT u σ H b) : EvT (tAnd t u) σ H (a && b) := fun A e Q q => h A e _ fun B f => by
  cases a with
  | false => exact q B f
  | true => exact i rfl B (e.trans f) Q fun C g => q C (f.trans g)
theorem et_or {a b : Bool} (h : EvT t σ H a) (i : a = false → EvT u σ H b) : EvT (tOr t u) σ H (a || b) := fun A e Q q => h A e _ fun B f => by
  cases a with
  | true => exact q B f
  | false => exact i rfl B (e.trans f) Q fun C g => q C (f.trans g)
theorem et_chain {a b : Bool} (ha : Ev ta σ H x) (hb : Ev tb σ H y) (hr : RV r x y H (.bl a)) (hc : a = true → Ev tc σ H z) (hr2 : a = true → RV r' y z H (.bl b)) : EvT (tTest (tChain r r' ta tb tc)) σ H (a && b) := fun A e Q q =>
  ha A e _ fun B f => hb B (e.trans f) _ fun C g => hr C ((e.trans f).trans g) _ fun D d => ⟨a, rfl, by
    cases a with
    | false => exact ⟨false, rfl, q D ((f.trans g).trans d)⟩
    | true => exact hc rfl D (((e.trans f).trans g).trans d) _ fun G i => hr2 rfl G ((((e.trans f).trans g).trans d).trans i) _ fun J j => ⟨b, rfl, q J ((((f.trans g).trans d).trans i).trans j)⟩⟩
theorem ea_nil : EvA tNil σ H [] := fun A _ _ q => q A (.refl A)
theorem ea_cons {tr : TA} {vs : List V} (h : Ev ta σ H x) (i : EvA tr σ H vs) : EvA (tCons ta tr) σ H (x :: vs) := fun A e _ q => h A e _ fun B f => i B (e.trans f) _ fun C g => q C (f.trans g)
theorem eo_none : EvO tNoPart σ H none := fun A _ _ q => q A (.refl A)
theorem eo_some {i : Int} (h : Ev te σ H (.int i)) : EvO (tPart te) σ H (some i) := fun A e _ q => h A e _ fun B f => ⟨i, rfl, q B f⟩
theorem eg_tup {ta : TA} {vs : List V} (h : EvA ta σ H vs) (l : vs.length ≤ 100000) : EvG (tTup ta) σ H (NewT vs) := fun A e _ q =>
  h A e _ fun B f => ⟨sz_of l, fun p hp => q _ _ (f.trans (.new hp)) ⟨p, rfl, fresh_back f hp, upd_same⟩⟩
theorem eg_lst {ta : TA} {vs : List V} (h : EvA ta σ H vs) (l : vs.length ≤ 100000) : EvG (tLst ta) σ H (NewL vs) := fun A e _ q =>
  h A e _ fun B f => ⟨sz_of l, fun p hp => q _ _ (f.trans (.new hp)) ⟨p, rfl, fresh_back f hp, upd_same⟩⟩

/-! ### statements -/
variable {D : Ends} {tu tw : TS} {tz : TS}
theorem s_asgG {i : Nat} (h : EvG te σ H P) (k : ∀ v B, Ex H B → P H v B → D.nx (σ.set i (some v)) B) : tAsg te (gName i) D σ H := h H (.refl H) _ fun v B b p => k v B b p
theorem q_asgG {i : Nat} (h : EvG te σ H P) (k : ∀ v B, Ex H B → P H v B → tz D (σ.set i (some v)) B) : tSeq (tAsg te (gName i)) tz D σ H := s_asgG (D := { D with nx := tz D }) h k
theorem s_asg {i : Nat} (h : Ev te σ H v) (k : ∀ B, Ex H B → D.nx (σ.set i (some v)) B) : tAsg te (gName i) D σ H := h H (.refl H) _ k
theorem q_asg {i : Nat} (h : Ev te σ H v) (k : ∀ B, Ex H B → tz D (σ.set i (some v)) B) : tSeq (tAsg te (gName i)) tz D σ H := s_asg (D := { D with nx := tz D }) h k
theorem s_retk (h : Ev te σ H v) (k : RetV v H D.rt) : tRet te D σ H := h H (.refl H) _ k
theorem s_retG (h : EvG te σ H P) (k : ∀ v B, Ex H B → P H v B → D.rt v B) : tRet te D σ H := h H (.refl H) _ k
theorem s_if {b : Bool} (h : EvT t σ H b) (h1 : b = true → ∀ B, Ex H B → tu D σ B) (h2 : b = false → ∀ B, Ex H B → tw D σ B) : tIfS t tu tw D σ H := h H (.refl H) _ fun B e => by
  cases b with
  | true => exact h1 rfl B e
  | false => exact h2 rfl B e
theorem q_if {b : Bool} (h : EvT t σ H b) (h1 : b = true → ∀ B, Ex H B → tu { D with nx := tz D } σ B) (h2 : b = false → ∀ B, Ex H B → tw { D with nx := tz D } σ B) : tSeq (tIfS t tu tw) tz D σ H := s_if (D := { D with nx := tz D }) h h1 h2
theorem s_when {b : Bool} (h : EvT t σ H b) (h1 : b = true → ∀ B, Ex H B → tu D σ B) (h2 : b = false → ∀ B, Ex H B → D.nx σ B) : tIfS t tu tNext D σ H := s_if h h1 h2
theorem q_when {b : Bool} (h : EvT t σ H b) (h1 : b = true → ∀ B, Ex H B → tu { D with nx := tz D } σ B) (h2 : b = false → ∀ B, Ex H B → tz D σ B) : tSeq (tIfS t tu tNext) tz D σ H := s_if (D := { D with nx := tz D }) h h1 h2
theorem s_drop (h : Ev te σ H v) (k : ∀ B, Ex H B → D.nx σ B) : tDrop te D σ H := h H (.refl H) _ k
theorem q_drop (h : Ev te σ H v) (k : ∀ B, Ex H B → tz D σ B) : tSeq (tDrop te) tz D σ H := s_drop (D := { D with nx := tz D }) h k
/-- if c: x = e, by the value that x has behind it -/
theorem q_ifAsg {b : Bool} {i : Nat} (h : EvT t σ H b) (h1 : b = true → Ev te σ H v) (h2 : b = false → σ.set i (some v) = σ) (k : ∀ B, Ex H B → tz D (σ.set i (some v)) B) : tSeq (tIfS t (tAsg te (gName i)) tNext) tz D σ H :=
  q_when h (fun hb B e => s_asg (D := { D with nx := tz D }) ((h1 hb).mono e) fun C f => k C (e.trans f)) (fun hb B e => (h2 hb) ▸ k B e)
theorem s_app {l : Addr} {xs : List V} (hl : H l = some (.lst xs)) (ha : Ev ta σ H (.ref l)) (h : EvG te σ H P) (hz : xs.length < 100000) (k : ∀ A v B, Ex H A → Ex A B → P A v B → D.nx σ (upd B l (.lst (xs ++ [v])))) :
    tDrop (tBM K "list" rAppend ta (tCons te tNil)) D σ H := ha H (.refl H) _ fun A a =>
  ⟨.inl ⟨rfl, xs, sq_of (a.k hl)⟩, h A a _ fun v B b p => ⟨l, xs, v, rfl, rfl, b.k (a.k hl), sz_lt hz, k A v B a b p⟩⟩
theorem q_app {l : Addr} {xs : List V} (hl : H l = some (.lst xs)) (ha : Ev ta σ H (.ref l)) (h : EvG te σ H P) (hz : xs.length < 100000) (k : ∀ A v B, Ex H A → Ex A B → P A v B → tz D σ (upd B l (.lst (xs ++ [v])))) :
    tSeq (tDrop (tBM K "list" rAppend ta (tCons te tNil))) tz D σ H := s_app (D := { D with nx := tz D }) hl ha h hz k

/-! ### loops -/
theorem q_forR1 {ta : TA} {j : Nat} {n : Nat} (h : EvA ta σ H [.int (n : Int)]) (hn : n ≤ 100000) (W : Nat → L2.St → Hp → Prop) (h0 : ∀ B, Ex H B → W 0 σ B)
    (hs : ∀ (i : Nat) σ' B, i < n → W i σ' B → tu { D with nx := W (i + 1), ct := W (i + 1), bk := tz D } (σ'.set j (some (.int (i : Int)))) B) (hd : ∀ σ' B, W n σ' B → tz D σ' B) : tSeq (tFor (iRng1 ta) (gName j) tu) tz D σ H :=
  h H (.refl H) _ fun B e => ⟨(n : Int), rfl, by omega, by omega, for_range (lo := 0) (n := n) W (h0 B e) (fun i σ' C hi w => by
    have z := hs i σ' C hi w
    rw [← Int.zero_add (i : Int)] at z
    exact z) hd⟩
theorem q_forL {a : Addr} {xs : List V} {tl : TE} {g : TG} (h : Ev tl σ H (.ref a)) (hx : SqL K H a xs) (W : Nat → L2.St → Hp → Prop) (h0 : ∀ B, Ex H B → W 0 σ B) (hl : ∀ i σ' B, i ≤ xs.length → W i σ' B → SqL K B a xs)
    (hs : ∀ i x σ' B, xs[i]? = some x → W i σ' B → g x σ' B fun σ2 C => tu { D with nx := W (i + 1), ct := W (i + 1), bk := tz D } σ2 C) (hd : ∀ σ' B, W xs.length σ' B → tz D σ' B) : tSeq (tFor (iList K tl) g tu) tz D σ H :=
  h H (.refl H) _ fun B e => ⟨a, rfl, ⟨xs, ex_l e hx⟩, for_list (D := { D with nx := tz D }) W (h0 B e) hl hs hd⟩
/-- over a list that is made for it -/
theorem q_forNL {xs : List V} {tl : TE} {g : TG} (h : EvG tl σ H (NewL xs)) (W : Addr → Nat → L2.St → Hp → Prop) (h0 : ∀ p B, Ex H B → B p = some (.lst xs) → W p 0 σ B) (hl : ∀ p i σ' B, i ≤ xs.length → W p i σ' B → SqL K B p xs)
    (hs : ∀ p i x σ' B, xs[i]? = some x → W p i σ' B → g x σ' B fun σ2 C => tu { D with nx := W p (i + 1), ct := W p (i + 1), bk := tz D } σ2 C) (hd : ∀ p σ' B, W p xs.length σ' B → tz D σ' B) : tSeq (tFor (iList K tl) g tu) tz D σ H :=
  h H (.refl H) _ fun v B e ⟨p, ev, _, hp⟩ => ⟨p, ev, ⟨xs, sq_of hp⟩, for_list (D := { D with nx := tz D }) (W p) (h0 p B e hp) (hl p) (hs p) (hd p)⟩
theorem q_forS {s : Str} {j : Nat} (h : Ev te σ H (.str s)) (W : Nat → L2.St → Hp → Prop) (h0 : ∀ B, Ex H B → W 0 σ B)
    (hs : ∀ i c σ' B, s.cps[i]? = some c → W i σ' B → tu { D with nx := W (i + 1), ct := W (i + 1), bk := tz D } (σ'.set j (some (.str ⟨#[c]⟩))) B) (hd : ∀ σ' B, W s.cps.size σ' B → tz D σ' B) : tSeq (tFor (iStr te) (gName j) tu) tz D σ H :=
  h H (.refl H) _ fun B e => ⟨s, rfl, for_it (D := { D with nx := tz D }) walk_str W (h0 B e) (fun _ _ _ _ _ => trivial) (fun i x σ' C C' hi w y => by
    obtain ⟨rfl, c, hc, rfl⟩ := y
    exact hs i c σ' C' hc w) hd⟩
theorem q_asgCall {sp : Sp} {dvs vs : List V} {E : XK} {ta : TA} {i : Nat} (h : EvA ta σ H vs) (k : ∀ B, Ex H B → sp (vs ++ dvs) B (fun v C => tz D (σ.set i (some v)) C) E) : tSeq (tAsg (tCall sp dvs E ta) (gName i)) tz D σ H := h H (.refl H) _ k
theorem st_nf {t : TS} {σ' : L2.St} (e : σ = σ') (h : t D σ' H) : t D σ H := e ▸ h
end
def spLaw (K : PySem.W.Frag) : Sp := fun vs H Q _ => ∃ (a : Addr) (ns : List Int), vs = [.ref a] ∧ SqL K H a (ns.map V.int) ∧ ns.length ≤ 63 ∧ ∀ B, Q (.bl true) B

end
section
variable [TabCx]
/-! ### calls of what is built in; the tactics that lay these lines -/
section
variable {K : PySem.W.Frag} {σ : L2.St} {H H' : Hp} {ta tb tc te tx : TE} {t u : TT} {x y z v : V} {r r' : R2}
abbrev rLen (K : PySem.W.Frag) : List V → Hp → VK → Prop := fun vs H Q => ∃ p ys, vs = [V.ref p] ∧ (SqL K H p ys ∨ SqT K H p ys) ∧ Q (.int ys.length) H
abbrev rList (K : PySem.W.Frag) : List V → Hp → VK → Prop := fun vs H Q => ∃ p ys, vs = [V.ref p] ∧ (SqL K H p ys ∨ SqT K H p ys) ∧ ∀ l, H l = none → Q (.ref l) (upd H l (.lst ys))
theorem rc_len {p : Addr} {xs : List V} (h : SqL K H p xs) : RC (rLen K) [.ref p] H (.int xs.length) := fun A e _ q => ⟨p, xs, rfl, .inl (ex_l e h), q A (.refl A)⟩
theorem rc_lenT {p : Addr} {xs : List V} (h : SqT K H p xs) : RC (rLen K) [.ref p] H (.int xs.length) := fun A e _ q => ⟨p, xs, rfl, .inr (ex_t e h), q A (.refl A)⟩
theorem rc_lenS {s : Str} (h : s.length ≤ 100000) : RC (fun vs H Q => ∃ z, vs = [V.str z] ∧ z.length ≤ sizeLine ∧ Q (.int z.length) H) [.str s] H (.int s.length) := fun A _ _ q => ⟨s, rfl, sz_of h, q A (.refl A)⟩
theorem rc_intB {b : Bool} : RC (fun vs H Q => (∃ i, vs = [V.int i] ∧ Q (.int i) H) ∨ ∃ k, vs = [V.bl k] ∧ Q (.int (if k then 1 else 0)) H) [.bl b] H (.int (if b then 1 else 0)) := fun A _ _ q => .inr ⟨b, rfl, q A (.refl A)⟩
theorem rc_strI {i : Int} (h : i.natAbs.log2 < 1920) : RC (fun vs H Q => ∃ i, vs = [V.int i] ∧ i.natAbs.log2 < 1920 ∧ Q (.str (toString i)) H) [.int i] H (.str (toString i)) := fun A _ _ q => ⟨i, rfl, h, q A (.refl A)⟩
/-- isinstance of a value whose type is known, and a built-in type -/
theorem rc_isi {c : String} {n : String} {b : Bool} (ht : ∀ B, Ex H B → TyX K B x (.type c)) (hk : kitB c n = some b) : RC (rIsi K) [x, .ty n] H (.bl b) := fun A e _ q => ⟨x, .ty n, .type c, .type n, b, rfl, .ty n, ht A e, kit_ty hk, q A (.refl A)⟩
theorem tx_int {i : Int} : ∀ B, Ex H B → TyX K B (.int i) (.type "int") := fun _ _ => .base (.int i)
theorem tx_str {s : Str} : ∀ B, Ex H B → TyX K B (.str s) (.type "str") := fun _ _ => .base (.str s)
theorem tx_lst {a : Addr} {xs : List V} (h : H a = some (.lst xs)) : ∀ B, Ex H B → TyX K B (.ref a) (.type "list") := fun _ e => .base (.lst (e.k h))
theorem tx_tup {a : Addr} {xs : List V} (h : H a = some (.tup xs)) : ∀ B, Ex H B → TyX K B (.ref a) (.type "tuple") := fun _ e => .base (.tup (e.k h))
theorem rv_add_str {a b : Str} (h : a.length + b.length ≤ 100000) : RV (fun x y H Q => ∃ i j, x = V.str i ∧ y = V.str j ∧ i.length + j.length ≤ sizeLine ∧ Q (.str (i ++ j)) H) (.str a) (.str b) H (.str (a ++ b)) := fun A _ _ q => ⟨a, b, rfl, rfl, sz_of h, q A (.refl A)⟩
theorem rv_NT {a b : String} : RV rNT (.ty a) (.ty b) H (.bl (!decide (a = b))) := fun A _ _ q => ⟨a, b, rfl, rfl, q A (.refl A)⟩
theorem rc_typI {i : Int} : RC (rTyp K) [.int i] H (.ty "int") := fun A _ _ q => ⟨.int i, "int", rfl, .int i, q A (.refl A)⟩
theorem rv_isN : RV (fun x y H Q => y = V.non ∧ Q (.bl (decide (x = .non))) H) x .non H (.bl (decide (x = .non))) := fun A _ _ q => ⟨rfl, q A (.refl A)⟩
theorem ev_neg {i : Int} (h : Ev ta σ H (.int i)) : Ev (tUn (rU fun i => .int (-i)) ta) σ H (.int (-i)) := ev_un h fun A _ _ q => ⟨i, rfl, q A (.refl A)⟩
end
theorem kb_ss : kitB "str" "str" = some true := by decide +kernel
theorem kb_ii : kitB "int" "int" = some true := by decide +kernel
theorem kb_ib : kitB "int" "bool" = some false := by decide +kernel
theorem kb_ll : kitB "list" "list" = some true := by decide +kernel
theorem kb_tt : kitB "tuple" "tuple" = some true := by decide +kernel
theorem decide_int (i j : Int) : decide (V.int i = V.int j) = decide (i = j) := by
  by_cases h : i = j
  · rw [h, decide_eq_true rfl, decide_eq_true rfl]
  · rw [decide_eq_false h, decide_eq_false (fun q => h (V.int.inj q))]
theorem decide_str (i j : Str) : decide (V.str i = V.str j) = decide (i = j) := by
  by_cases h : i = j
  · rw [h, decide_eq_true rfl, decide_eq_true rfl]
  · rw [decide_eq_false h, decide_eq_false (fun q => h (V.str.inj q))]
local macro_rules | `(tactic| walk_at "cond") => `(tactic| first | (with_reducible assumption) | decide | (show (0 : Int) < _; decide) | (exact ⟨by decide, by decide⟩) | (exact ⟨by decide, by decide, by decide⟩) | (exact ⟨by omega, by omega⟩) | (exact Or.inl ⟨by decide, by decide⟩) | (exact Or.inr ⟨by decide, by decide⟩) | (exact Or.inl ⟨by omega, by omega⟩) | (exact Or.inr ⟨by omega, by omega⟩) | omega)
local macro_rules | `(tactic| walk_at "seq") => `(tactic| first | (with_reducible assumption) | (exact sq_of (by with_reducible assumption)) | (exact st_of (by with_reducible assumption)) | (exact ex_l (by with_reducible assumption) (by with_reducible assumption)) | (exact ex_t (by with_reducible assumption) (by with_reducible assumption)))
local macro_rules | `(tactic| walk_at "rv") => `(tactic| first | (with_reducible exact rv_I0) | ((with_reducible apply rv_I); walk_at "cond") | ((with_reducible apply rv_eq); rfl) | ((with_reducible apply rv_ne); rfl) | (with_reducible exact rv_NT) | (with_reducible exact rv_isN) | ((with_reducible apply rv_add_str); walk_at "cond") | ((with_reducible apply rv_ixT); walk_at "seq"; rfl))
local macro_rules | `(tactic| walk_at "rc") => `(tactic| first | ((with_reducible apply rc_len); walk_at "seq") | ((with_reducible apply rc_lenT); walk_at "seq") | ((with_reducible apply rc_lenS); walk_at "cond") | (with_reducible exact rc_intB) | (with_reducible exact rc_typI) | ((with_reducible apply rc_strI); walk_at "cond") | (exact rc_isi tx_str kb_ss) | (exact rc_isi tx_int kb_ii) | (exact rc_isi tx_int kb_ib) | (exact rc_isi (tx_lst (by with_reducible assumption)) kb_ll) | (exact rc_isi (tx_tup (by with_reducible assumption)) kb_tt))
local macro_rules | `(tactic| walk_at "spv") => `(tactic| fail "no promise")
local macro_rules | `(tactic| walk_at "ea") => `(tactic| first | (with_reducible exact ea_nil) | ((with_reducible apply ea_cons); walk_at "ev"; walk_at "ea"))
local macro_rules | `(tactic| walk_at "eo") => `(tactic| first | (with_reducible exact eo_none) | ((with_reducible apply eo_some); walk_at "ev"))
local macro_rules | `(tactic| walk_at "ev") => `(tactic| first
  | (with_reducible exact ev_c)
  | ((with_reducible apply ev_var); rfl)
  | ((with_reducible apply ev_op); walk_at "ev"; walk_at "ev"; walk_at "rv")
  | ((with_reducible apply ev_cb); walk_at "ea"; walk_at "rc")
  | ((with_reducible apply ev_call); walk_at "ea"; walk_at "spv")
  | ((with_reducible apply ev_neg); walk_at "ev")
  | ((with_reducible apply ev_notV); walk_at "ev")
  | ((with_reducible apply ev_andV); walk_at "ev"; (intro _; walk_at "ev"))
  | ((with_reducible apply ev_orV); walk_at "ev"; (intro _; walk_at "ev")))
local macro_rules | `(tactic| walk_at "et") => `(tactic| first
  | ((with_reducible apply et_chain); walk_at "ev"; walk_at "ev"; walk_at "rv"; (intro _; walk_at "ev"); (intro _; walk_at "rv"))
  | ((with_reducible apply et_test); walk_at "ev")
  | ((with_reducible apply et_B); walk_at "ev")
  | ((with_reducible apply et_not); walk_at "et")
  | ((with_reducible apply et_or); walk_at "et"; (intro _; walk_at "et"))
  | ((with_reducible apply et_and); walk_at "et"; (intro _; walk_at "et")))
local macro_rules | `(tactic| walk_at "asg") => `(tactic| ((first | with_reducible apply q_asg | with_reducible apply s_asg); walk_at "ev"))
local macro_rules | `(tactic| walk_at "drop") => `(tactic| ((first | with_reducible apply q_drop | with_reducible apply s_drop); walk_at "ev"))
local macro_rules | `(tactic| walk_at "ret") => `(tactic| ((with_reducible apply s_retk); walk_at "ev"))
local macro_rules | `(tactic| walk_at "when") => `(tactic| ((first | with_reducible apply q_when | with_reducible apply s_when | with_reducible apply q_if | with_reducible apply s_if); walk_at "et"))

variable [TabCx]
/-! ### lists of things told by data -/
/-- F: places at which none of its lists stands -/
structure Rp (α : Type) where
  R : (Addr → Prop) → Hp → V → α → Prop
  mono : ∀ {F : Addr → Prop} {H H' : Hp} {v : V} {a : α}, ExW H H' → R F H v a → R F H' v a
  away : ∀ {F G : Addr → Prop} {H : Hp} {v : V} {a : α}, R G H v a → (∀ x, F x → G x ∨ H x = none) → R F H v a
  lst : ∀ {F : Addr → Prop} {H : Hp} {D : Addr} {xs : List V} {o : HO} {v : V} {a : α}, F D → H D = some (.lst xs) → R F H v a → R F (upd H D o) v a
abbrev F0 : Addr → Prop := fun _ => False
abbrev F1 (D : Addr) : Addr → Prop := fun x => x = D
def rpInt : Rp Int := ⟨fun _ _ v i => v = .int i, fun _ h => h, fun h _ => h, fun _ _ h => h⟩
def rpStr : Rp Str := ⟨fun _ _ v s => v = .str s, fun _ h => h, fun h _ => h, fun _ _ h => h⟩
/-- a thing: a tuple of a name and a value -/
def Thg (H : Hp) (v : V) (p : Int × Int) : Prop := ∃ t, v = .ref t ∧ H t = some (.tup [.int p.1, .int p.2])
def rpT : Rp (Int × Int) := ⟨fun _ => Thg, fun e ⟨t, h1, h2⟩ => ⟨t, h1, e.k h2⟩, fun h _ => h, fun _ hD ⟨t, h1, h2⟩ => ⟨t, h1, by rw [upd_ne (ne_of h2 hD (by intro z; cases z))]; exact h2⟩⟩
abbrev PRF {α : Type} (r : Rp α) (F : Addr → Prop) (H : Hp) (xs : List V) (as : List α) : Prop := Paired (r.R F H) xs as
abbrev PR {α : Type} (r : Rp α) (H : Hp) (xs : List V) (as : List α) : Prop := PRF r F0 H xs as
/-- at p a list that is told by as -/
def LR {α : Type} (r : Rp α) (H : Hp) (p : Addr) (as : List α) : Prop := ∃ ys, H p = some (.lst ys) ∧ PR r H ys as
section
variable {α β : Type} {r : Rp α} {r' : Rp β} {H H' : Hp} {xs ys : List V} {as bs : List α} {F G : Addr → Prop}
theorem pr_monoW (e : ExW H H') : ∀ {xs : List V} {as : List α}, PRF r F H xs as → PRF r F H' xs as
  | _, _, .nil => .nil
  | _, _, .cons h t => .cons (r.mono e h) (pr_monoW e t)
theorem pr_mono (e : Ex H H') {xs : List V} {as : List α} (h : PRF r F H xs as) : PRF r F H' xs as := pr_monoW e.w h
theorem Rp.mo (r : Rp α) (e : Ex H H') {v : V} {a : α} (h : r.R F H v a) : r.R F H' v a := r.mono e.w h
theorem pr_lst {D : Addr} {zs : List V} {o : HO} (f : F D) (h : H D = some (.lst zs)) : ∀ {xs : List V} {as : List α}, PRF r F H xs as → PRF r F (upd H D o) xs as
  | _, _, .nil => .nil
  | _, _, .cons a t => .cons (r.lst f h a) (pr_lst f h t)
theorem pr_away (k : ∀ x, F x → G x ∨ H x = none) : ∀ {xs : List V} {as : List α}, PRF r G H xs as → PRF r F H xs as
  | _, _, .nil => .nil
  | _, _, .cons a t => .cons (r.away a k) (pr_away k t)
theorem pr_0 {xs : List V} {as : List α} (h : PRF r F H xs as) : PR r H xs as := pr_away (fun _ z => nomatch z) h
theorem pr_get : ∀ {xs : List V} {as : List α} {i : Nat} {x : V}, PRF r F H xs as → xs[i]? = some x → ∃ a, as[i]? = some a ∧ r.R F H x a
  | _, _, i, x, .nil, h => by simp at h
  | _, _, 0, x, .cons a t, h => by
    cases (Option.some.inj h)
    exact ⟨_, rfl, a⟩
  | _, _, i + 1, x, .cons a t, h => pr_get (i := i) t h
theorem pr_at : ∀ {xs : List V} {as : List α} {i : Nat} {a : α}, PRF r F H xs as → as[i]? = some a → ∃ x, xs[i]? = some x ∧ r.R F H x a
  | _, _, i, x, .nil, h => by simp at h
  | _, _, 0, x, .cons a t, h => by
    cases (Option.some.inj h)
    exact ⟨_, rfl, a⟩
  | _, _, i + 1, x, .cons a t, h => pr_at (i := i) t h
theorem pr_app : ∀ {xs ys : List V} {as bs : List α}, PRF r F H xs as → PRF r F H ys bs → PRF r F H (xs ++ ys) (as ++ bs)
  | _, _, _, _, .nil, h => h
  | _, _, _, _, .cons a t, h => .cons a (pr_app t h)
theorem LR.monoW (e : ExW H H') {p : Addr} (h : LR r H p as) : LR r H' p as := by
  obtain ⟨ys, h1, h2⟩ := h
  exact ⟨ys, e.k h1, pr_monoW e h2⟩
theorem LR.mono (e : Ex H H') {p : Addr} (h : LR r H p as) : LR r H' p as := h.monoW e.w
theorem pr_ints : ∀ {ms : List Int}, PRF rpInt F H (ms.map V.int) ms
  | [] => .nil
  | _ :: _ => .cons rfl pr_ints
theorem pr_ints_eq : ∀ {xs : List V} {ms : List Int}, PRF rpInt F H xs ms → xs = ms.map V.int
  | _, _, .nil => rfl
  | _, _, .cons h t => by
    rw [pr_ints_eq t, show _ = V.int _ from h]
    rfl
theorem take_snoc {γ : Type} {l : List γ} {i : Nat} {x : γ} (h : l[i]? = some x) : l.take (i + 1) = l.take i ++ [x] := by
  rw [List.take_add_one, h]
  rfl
theorem Ex.fdom (e : Ex H H') {F : Addr → Prop} (h : ∀ y, F y → H y ≠ none) : ∀ y, F y → H' y ≠ none := fun y f z => h y f (e.dom y z)
/-- a list of lists -/
def rpL (r : Rp α) : Rp (List α) := ⟨fun F H v as => ∃ p ys, v = .ref p ∧ ¬ F p ∧ H p = some (.lst ys) ∧ PRF r F H ys as, fun e ⟨p, ys, h1, h2, h3, h4⟩ => ⟨p, ys, h1, h2, e.k h3, pr_monoW e h4⟩,
  fun ⟨p, ys, h1, h2, h3, h4⟩ k => ⟨p, ys, h1, (fun f => (k p f).elim h2 fun z => by rw [h3] at z; cases z), h3, pr_away k h4⟩,
  fun {F H D xs o v a} f hD ⟨p, ys, h1, h2, h3, h4⟩ => ⟨p, ys, h1, h2, (by rw [upd_ne (show p ≠ D from fun z => h2 (by rw [z]; exact f))]; exact h3), pr_lst f hD h4⟩⟩
/-- a pair of two told values -/
def rpP (r : Rp α) (r' : Rp β) : Rp (α × β) := ⟨fun F H v c => ∃ t x y, v = .ref t ∧ H t = some (.tup [x, y]) ∧ r.R F H x c.1 ∧ r'.R F H y c.2, fun e ⟨t, x, y, h1, h2, h3, h4⟩ => ⟨t, x, y, h1, e.k h2, r.mono e h3, r'.mono e h4⟩,
  fun ⟨t, x, y, h1, h2, h3, h4⟩ k => ⟨t, x, y, h1, h2, r.away h3 k, r'.away h4 k⟩,
  fun f hD ⟨t, x, y, h1, h2, h3, h4⟩ => ⟨t, x, y, h1, by rw [upd_ne (ne_of h2 hD (by intro z; cases z))]; exact h2, r.lst f hD h3, r'.lst f hD h4⟩⟩
end
/-- what evaluates to something told; to a new list of things told -/
abbrev EvR (te : TE) (σ : L2.St) (H : Hp) (P : Hp → V → Prop) : Prop := EvG te σ H fun _ v B => P B v
/-- a value told, none of whose lists is among places that stand already -/
abbrev EvE {β : Type} (r : Rp β) (F : Addr → Prop) (te : TE) (σ : L2.St) (H : Hp) (b : β) : Prop := EvG te σ H fun _ v B => r.R F B v b
abbrev EvLR {β : Type} (r : Rp β) (te : TE) (σ : L2.St) (H : Hp) (bs : List β) : Prop := EvG te σ H fun A v B => ∃ p, v = .ref p ∧ A p = none ∧ LR r B p bs
def RetLR {β : Type} (r : Rp β) (bs : List β) (H : Hp) (Q : VK) : Prop := ∀ p B, H p = none → Ex H B → LR r B p bs → Q (.ref p) B
section
variable {α β : Type} {r : Rp α} {r' : Rp β} {K : PySem.W.Frag} {σ : L2.St} {H H' : Hp} {ta tb te tl : TE} {t : TT} {x y v : V} {D : Ends} {tz : TS} {F : Addr → Prop}
theorem RetLR.mono {bs : List β} {Q : VK} (e : Ex H H') (k : RetLR r' bs H Q) : RetLR r' bs H' Q := fun p B hp b h => k p B (fresh_back e hp) (e.trans b) h
theorem ev_R {P : Hp → V → Prop} (h : Ev te σ H v) (hp : ∀ B, Ex H B → P B v) : EvR te σ H P := h.g fun A B a b => hp B (a.trans b)
theorem ev_Rtup {vs : List V} {ta : TA} {P : Hp → V → Prop} (h : EvA ta σ H vs) (hl : vs.length ≤ 100000) (hp : ∀ p B, B p = some (.tup vs) → P B (.ref p)) : EvR (tTup ta) σ H P := (eg_tup h hl).imp fun A v B _ _ ⟨p, e, _, h⟩ => e ▸ hp p B h
theorem EvLR.to {as bs : List β} (h : EvLR r' te σ H as) (e : as = bs) : EvLR r' te σ H bs := e ▸ h
/-- a value that stands -/
theorem ee_var {b : β} (h : Ev te σ H v) (hv : r'.R F H v b) : EvE r' F te σ H b := h.g fun A B a b => r'.mo (a.trans b) hv
theorem EvE.mono {b : β} (e : Ex H H') (h : EvE r' F te σ H b) : EvE r' F te σ H' b := EvG.mono e h
/-- a new list, told -/
theorem ee_L {bs : List β} (h : EvLR r' te σ H bs) (hF : ∀ y, F y → H y ≠ none) (hb : ∀ B ys, Ex H B → PRF r' F0 B ys bs → PRF r' F B ys bs) : EvE (rpL r') F te σ H bs := fun A a Q q =>
  h A a _ fun v B b ⟨p, e, hp, ys, h1, h2⟩ => q v B b ⟨p, ys, e, fun f => hF p f (a.dom p hp), h1, hb B ys (a.trans b) h2⟩
/-- a pair, made -/
theorem ee_P {ta tb : TE} {a : α} {b : β} (ha : EvE r F ta σ H a) (hb : EvE r' F tb σ H b) : EvE (rpP r r') F (tTup (tCons ta (tCons tb tNil))) σ H (a, b) := fun A aa Q q =>
  ha A aa _ fun v B e hv => hb B (aa.trans e) _ fun u C c hu => ⟨by show 2 ≤ sizeLine; decide, fun p hp => q _ _ ((e.trans c).trans (.new hp)) ⟨p, v, u, rfl, upd_same, r.mo (c.trans (.new hp)) hv, r'.mo (Ex.new hp) hu⟩⟩
theorem lcE {xs : List V} {as : List α} {a : Addr} {j : TG} {vs : List Nat} (sj : V → L2.St) (q : α → Bool) (g : α → β) (h : Ev tl σ H (.ref a)) (hx : SqL K H a xs) (hp : PR r H xs as) (hz : as.length ≤ 40000)
    (hg : ∀ x b H1 F Q, Ex H H1 → b ∈ as → r.R F H1 x b → Q (sj x) H1 → j x (wipe σ vs) H1 Q)
    (hw : ∀ x, wipe (sj x) vs = wipe σ vs)
    (ht : ∀ x b H1 F, Ex H H1 → b ∈ as → r.R F H1 x b → EvT t (sj x) H1 (q b))
    (he : ∀ x b H1 F, Ex H H1 → (∀ y, F y → H1 y ≠ none) → b ∈ as → r.R F H1 x b → q b = true → EvE r' F te (sj x) H1 (g b)) :
    EvLR r' (tLc (iList K tl) j t te vs) σ H ((as.filter q).map g) := fun H0 e Q qq => h H0 e _ fun H1 e1 => ⟨a, rfl, ⟨xs, ex_l (e.trans e1) hx⟩, fun Dl hD => by
  have hlen := hp.length
  have hp1 : PRF r (F1 Dl) H1 xs as := pr_away (fun x z => .inr (z ▸ hD)) (pr_mono (e.trans e1) hp)
  refine lc_list (xs := xs) (fun i H' => Ex H1 H' ∧ ∃ ys, H' Dl = some (.lst ys) ∧ ys.length ≤ i ∧ PRF r' (F1 Dl) H' ys (((as.take i).filter q).map g)) ⟨Ex.new hD, [], upd_same, Nat.le_refl _, by rw [List.take_zero]; exact .nil⟩ (fun i H' _ p => ex_l ((e.trans e1).trans p.1) hx) (fun i x H' hi p => ?_) fun H' p => ?_
  · obtain ⟨p1, ys, p2, p3, p4⟩ := p
    obtain ⟨b, hb, rb⟩ := pr_get hp1 hi
    have hmem : b ∈ as := List.mem_of_getElem? hb
    have hil : i < xs.length := (List.getElem?_eq_some_iff.mp hi).1
    have eE := (e.trans e1).trans p1
    have rb' := r.mo p1 rb
    refine hg x b H' (F1 Dl) _ eE hmem rb' ⟨hw x, ?_⟩
    refine ht x b H' (F1 Dl) eE hmem rb' H' (Ex.refl H') _ fun H3 e3 => ?_
    cases hq : q b with
    | true =>
      show te (sj x) H3 _
      refine he x b H' (F1 Dl) eE (fun y z => by rw [show y = Dl from z, p2]; intro w; cases w) hmem rb' hq H3 e3 _ fun y H4 e4 ry => ⟨ys, e4.k (e3.k p2), sz_lt (by omega), Ex.mut ((p1.trans e3).trans e4) hD (e4.k (e3.k p2)), ys ++ [y], upd_same, by rw [List.length_append]; exact Nat.succ_le_succ p3, ?_⟩
      have hD4 : H4 Dl = some (.lst ys) := e4.k (e3.k p2)
      rw [take_snoc hb, List.filter_append, List.map_append, List.filter_cons, if_pos hq]
      exact pr_lst (show F1 Dl Dl from rfl) hD4 (pr_app (pr_mono (e3.trans e4) p4) (.cons ry .nil))
    | false =>
      show Ex H1 H3 ∧ _
      refine ⟨p1.trans e3, ys, e3.k p2, by omega, ?_⟩
      rw [take_snoc hb, List.filter_append, List.filter_cons, if_neg (by rw [hq]; decide), List.filter_nil, List.append_nil]
      exact pr_mono (e3) p4
  · obtain ⟨p1, ys, p2, p3, p4⟩ := p
    refine qq _ H' (e1.trans p1) ⟨Dl, rfl, fresh_back e1 hD, ys, p2, ?_⟩
    rw [hlen, List.take_length] at p4
    exact pr_0 p4⟩
/-- with a plain name -/
theorem lcLR {xs : List V} {as : List α} {a : Addr} {j : Nat} {vs : List Nat} (q : α → Bool) (g : α → β) (h : Ev tl σ H (.ref a)) (hx : SqL K H a xs) (hp : PR r H xs as) (hz : as.length ≤ 40000)
    (hw : ∀ x, wipe ((wipe σ vs).set j (some x)) vs = wipe σ vs)
    (ht : ∀ x b H1 F, Ex H H1 → b ∈ as → r.R F H1 x b → EvT t ((wipe σ vs).set j (some x)) H1 (q b))
    (he : ∀ x b H1 F, Ex H H1 → (∀ y, F y → H1 y ≠ none) → b ∈ as → r.R F H1 x b → q b = true → EvE r' F te ((wipe σ vs).set j (some x)) H1 (g b)) :
    EvLR r' (tLc (iList K tl) (gName j) t te vs) σ H ((as.filter q).map g) :=
  lcE (r := r) (r' := r') (fun x => (wipe σ vs).set j (some x)) q g h hx hp hz (fun _ _ _ _ _ _ _ _ k => k) hw ht he
/-- over range(n) -/
theorem lcRR {ta : TA} {j : Nat} {vs : List Nat} {n : Nat} (q : Nat → Bool) (g : Nat → β) (h : EvA ta σ H [.int (n : Int)]) (hn : n ≤ 40000) (hw : ∀ x, wipe ((wipe σ vs).set j (some x)) vs = wipe σ vs)
    (ht : ∀ (i : Nat) H1, Ex H H1 → i < n → EvT t ((wipe σ vs).set j (some (.int (i : Int)))) H1 (q i))
    (he : ∀ (i : Nat) H1 F, Ex H H1 → (∀ y, F y → H1 y ≠ none) → i < n → q i = true → EvE r' F te ((wipe σ vs).set j (some (.int (i : Int)))) H1 (g i)) :
    EvLR r' (tLc (iRng1 ta) (gName j) t te vs) σ H (((List.range n).filter q).map g) := fun H0 e Q qq => h H0 e _ fun H1 e1 => ⟨(n : Int), rfl, by omega, by omega, fun Dl hD => by
  refine lc_range (lo := 0) (n := n) (fun i H' => Ex H1 H' ∧ ∃ ys, H' Dl = some (.lst ys) ∧ ys.length ≤ i ∧ PRF r' (F1 Dl) H' ys (((List.range i).filter q).map g)) ⟨Ex.new hD, [], upd_same, Nat.le_refl _, .nil⟩ (fun i H' hi p => ?_) fun H' p => ?_
  · obtain ⟨p1, ys, p2, p3, p4⟩ := p
    have e0 : (0 : Int) + (i : Int) = (i : Int) := Int.zero_add _
    rw [e0]
    refine ⟨hw _, ?_⟩
    have eE := (e.trans e1).trans p1
    refine ht i H' eE hi H' (Ex.refl H') _ fun H3 e3 => ?_
    cases hq : q i with
    | true =>
      show te ((wipe σ vs).set j (some (.int (i : Int)))) H3 _
      refine he i H' (F1 Dl) eE (fun y z => by rw [show y = Dl from z, p2]; intro w; cases w) hi hq H3 e3 _ fun y H4 e4 ry => ⟨ys, e4.k (e3.k p2), sz_lt (by omega), Ex.mut ((p1.trans e3).trans e4) hD (e4.k (e3.k p2)), ys ++ [y], upd_same, by rw [List.length_append]; exact Nat.succ_le_succ p3, ?_⟩
      have hD4 : H4 Dl = some (.lst ys) := e4.k (e3.k p2)
      rw [List.range_succ, List.filter_append, List.map_append, List.filter_cons, if_pos hq]
      exact pr_lst (show F1 Dl Dl from rfl) hD4 (pr_app (pr_mono (e3.trans e4) p4) (.cons ry .nil))
    | false =>
      show Ex H1 H3 ∧ _
      refine ⟨p1.trans e3, ys, e3.k p2, by omega, ?_⟩
      rw [List.range_succ, List.filter_append, List.filter_cons, if_neg (by rw [hq]; decide), List.filter_nil, List.append_nil]
      exact pr_mono (e3) p4
  · obtain ⟨p1, ys, p2, p3, p4⟩ := p
    exact qq _ H' (e1.trans p1) ⟨Dl, rfl, fresh_back e1 hD, ys, p2, pr_0 p4⟩⟩
theorem q_asgLR {i : Nat} {bs : List β} (h : EvLR r' te σ H bs) (k : ∀ p B, H p = none → Ex H B → LR r' B p bs → tz D (σ.set i (some (.ref p))) B) : tSeq (tAsg te (gName i)) tz D σ H := q_asgG h fun _ B e ⟨p, ev, hp, l⟩ => ev ▸ k p B hp e l
theorem s_retLR {bs : List β} (h : EvLR r' te σ H bs) (k : RetLR r' bs H D.rt) : tRet te D σ H := s_retG h fun _ B e ⟨p, ev, hp, l⟩ => ev ▸ k p B hp e l
/-- a promise that hands back a new list -/
def SpLR (r : Rp β) (sp : Sp) (vs : List V) (H : Hp) (bs : List β) : Prop := ∀ A, Ex H A → ∀ Q : VK, RetLR r bs A Q → ∀ E : XK, sp vs A Q E
theorem ev_callLR {sp : Sp} {dvs vs : List V} {E : XK} {ta : TA} {bs : List β} (h : EvA ta σ H vs) (hs : SpLR r' sp (vs ++ dvs) H bs) : EvLR r' (tCall sp dvs E ta) σ H bs := fun A a Q q =>
  h A a _ fun B b => hs B (a.trans b) Q (fun p C hp c l => q _ C (b.trans c) ⟨p, rfl, fresh_back b hp, l⟩) E
/-- l + m of two lists, both new -/
theorem ev_catLR {as bs : List β} (ha : EvLR r' ta σ H as) (hb : EvLR r' tb σ H bs) (hz : as.length + bs.length ≤ 100000) : EvLR r' (tOp rCat ta tb) σ H (as ++ bs) := fun A a Q q =>
  ha A a _ fun _ B b ⟨p, ev, _, xs, h1, h2⟩ => hb B (a.trans b) _ fun _ C c ⟨p', ev', _, ys, h3, h4⟩ => by
    refine ⟨p, p', xs, ys, ev, ev', c.k h1, h3, ?_, fun l hl => ?_⟩
    · rw [h2.length, h4.length]
      exact sz_of hz
    · exact q _ _ ((b.trans c).trans (.new hl)) ⟨l, rfl, fresh_back (b.trans c) hl, _, upd_same, pr_mono (Ex.new hl) (pr_app (pr_mono (c) h2) h4)⟩
/-- l + m of two lists that stand -/
theorem ev_catV {as bs : List β} {p p' : Addr} (ha : Ev ta σ H (.ref p)) (hb : Ev tb σ H (.ref p')) (h1 : LR r' H p as) (h2 : LR r' H p' bs) (hz : as.length + bs.length ≤ 100000) : EvLR r' (tOp rCat ta tb) σ H (as ++ bs) := fun A a Q q =>
  ha A a _ fun B b => hb B (a.trans b) _ fun C c => by
    obtain ⟨xs, g1, g2⟩ := h1.mono ((a.trans b).trans c)
    obtain ⟨ys, g3, g4⟩ := h2.mono ((a.trans b).trans c)
    refine ⟨p, p', xs, ys, rfl, rfl, g1, g3, ?_, fun l hl => ?_⟩
    · rw [g2.length, g4.length]
      exact sz_of hz
    · exact q _ _ ((b.trans c).trans (.new hl)) ⟨l, rfl, fresh_back (b.trans c) hl, _, upd_same, pr_mono (Ex.new hl) (pr_app g2 g4)⟩
/-- l + m, the right one new -/
theorem ev_catVN {as bs : List β} {p : Addr} (ha : Ev ta σ H (.ref p)) (h1 : LR r' H p as) (hb : EvLR r' tb σ H bs) (hz : as.length + bs.length ≤ 100000) : EvLR r' (tOp rCat ta tb) σ H (as ++ bs) := fun A a Q q =>
  ha A a _ fun B b => hb B (a.trans b) _ fun _ C c ⟨p', ev', _, ys, h3, h4⟩ => by
    obtain ⟨xs, g1, g2⟩ := h1.mono ((a.trans b).trans c)
    subst ev'
    refine ⟨p, p', xs, ys, rfl, rfl, g1, h3, ?_, fun l hl => ?_⟩
    · rw [g2.length, h4.length]
      exact sz_of hz
    · exact q _ _ ((b.trans c).trans (.new hl)) ⟨l, rfl, fresh_back (b.trans c) hl, _, upd_same, pr_mono (Ex.new hl) (pr_app g2 h4)⟩
theorem ev_catNV {as bs : List β} {p : Addr} (hb : EvLR r' ta σ H as) (ha : Ev tb σ H (.ref p)) (h1 : LR r' H p bs) (hz : as.length + bs.length ≤ 100000) : EvLR r' (tOp rCat ta tb) σ H (as ++ bs) := fun A a Q q =>
  hb A a _ fun _ B b ⟨p', ev', _, ys, h3, h4⟩ => ha B (a.trans b) _ fun C c => by
    obtain ⟨xs, g1, g2⟩ := h1.mono ((a.trans b).trans c)
    subst ev'
    refine ⟨p', p, ys, xs, rfl, rfl, c.k h3, g1, ?_, fun l hl => ?_⟩
    · rw [g2.length, h4.length]
      exact sz_of hz
    · exact q _ _ ((b.trans c).trans (.new hl)) ⟨l, rfl, fresh_back (b.trans c) hl, _, upd_same, pr_mono (Ex.new hl) (pr_app (pr_mono (c) h4) g2)⟩
end
/-! ### data compared -/
mutual
theorem eqv_self : ∀ d : PyData, d.canLay0 = true → PyData.eqv d d = true
  | .none, _ => by simp [PyData.eqv]
  | .bool b, _ => by simp [PyData.eqv]
  | .int i, _ => by simp [PyData.eqv]
  | .str s, _ => by simp [PyData.eqv]
  | .list xs, h => by
    have := eqv_selfAll xs (by simpa [PyData.canLay0] using h)
    simpa [PyData.eqv] using this
  | .tuple xs, h => by
    have := eqv_selfAll xs (by simpa [PyData.canLay0] using h)
    simpa [PyData.eqv] using this
  | .dict _, h => by simp [PyData.canLay0] at h
theorem eqv_selfAll : ∀ ds : List PyData, PyData.canLayAll0 ds = true → PyData.eqvAll ds ds = true
  | [], _ => by simp [PyData.eqvAll]
  | d :: r, h => by
    have h' : d.canLay0 = true ∧ PyData.canLayAll0 r = true := by simpa [PyData.canLayAll0] using h
    simp only [PyData.eqvAll, eqv_self d h'.1, eqv_selfAll r h'.2, Bool.and_true]
end
/-- told as data: what it is, of at most dep levels -/
structure Enc {α : Type} (r : Rp α) (ok : α → Prop) where
  enc : α → PyData
  dp : ∀ {K : PySem.W.Frag} {F : Addr → Prop} {H : Hp} {v : V} {a : α}, r.R F H v a → Dp K H v (enc a)
  lay : ∀ {a : α}, ok a → (enc a).canLay0 = true
  dep : Nat
  hd : ∀ a : α, (enc a).depth ≤ dep
section
variable {α β : Type} {r : Rp α} {r' : Rp β} {ok : α → Prop} {ok' : β → Prop} {K : PySem.W.Frag} {σ : L2.St} {H H' : Hp} {ta tb te : TE} {F : Addr → Prop}
theorem dp_all (E : Enc r ok) : ∀ {xs : List V} {as : List α}, PRF r F H xs as → DpAll K H xs (as.map E.enc)
  | _, _, .nil => .nil
  | _, _, .cons a t => .cons (E.dp a) (dp_all E t)
theorem lay_all (E : Enc r ok) : ∀ {as : List α}, (∀ a ∈ as, ok a) → PyData.canLayAll0 (as.map E.enc) = true
  | [], _ => rfl
  | a :: t, h => by
    show ((E.enc a).canLay0 && PyData.canLayAll0 (t.map E.enc)) = true
    rw [E.lay (h a List.mem_cons_self), lay_all E fun b hb => h b (List.mem_cons_of_mem _ hb)]
    rfl
theorem dep_all (E : Enc r ok) : ∀ {as : List α}, PyData.depthAll (as.map E.enc) ≤ E.dep
  | [] => by simp [PyData.depthAll]
  | a :: t => by
    have h1 := E.hd a
    have h2 := dep_all E (as := t)
    show max (E.enc a).depth (PyData.depthAll (t.map E.enc)) ≤ E.dep
    omega
def encInt : Enc rpInt (fun _ => True) := ⟨PyData.int, fun h => by rw [show _ = V.int _ from h]; exact .int _, fun _ => rfl, 0, fun _ => by simp [PyData.depth]⟩
def encStr : Enc rpStr (fun s => PyData.strOk s = true) := ⟨PyData.str, fun h => by rw [show _ = V.str _ from h]; exact .str _, fun h => h, 0, fun _ => by simp [PyData.depth]⟩
def encT : Enc rpT (fun _ => True) := ⟨fun p => .tuple [.int p.1, .int p.2], fun ⟨t, e, h⟩ => by rw [e]; exact .tup (st_of h) (.cons (.int _) (.cons (.int _) .nil)), fun _ => rfl, 1, fun _ => by simp [PyData.depth, PyData.depthAll]⟩
def encL (E : Enc r ok) : Enc (rpL r) (fun as => ∀ a ∈ as, ok a) := ⟨fun as => .list (as.map E.enc), fun ⟨p, ys, e, _, h, hp⟩ => by rw [e]; exact .lst (sq_of h) (dp_all E hp), fun h => lay_all E h, E.dep + 1, fun as => by
  have := dep_all E (as := as)
  show PyData.depthAll (as.map E.enc) + 1 ≤ E.dep + 1
  omega⟩
def encP (E : Enc r ok) (E' : Enc r' ok') : Enc (rpP r r') (fun c => ok c.1 ∧ ok' c.2) := ⟨fun c => .tuple [E.enc c.1, E'.enc c.2], fun ⟨t, x, y, e, h, h1, h2⟩ => by rw [e]; exact .tup (st_of h) (.cons (E.dp h1) (.cons (E'.dp h2) .nil)), fun {c} h => by
  show ((E.enc c.1).canLay0 && ((E'.enc c.2).canLay0 && true)) = true
  rw [E.lay h.1, E'.lay h.2]
  rfl, max E.dep E'.dep + 1, fun c => by
  have h1 := E.hd c.1
  have h2 := E'.hd c.2
  show max (E.enc c.1).depth (max (E'.enc c.2).depth 0) + 1 ≤ _
  omega⟩
theorem shaped_l (E : Enc r ok) (hd : E.dep ≤ 60) {as : List α} (h : ∀ a ∈ as, ok a) : SeqAt.shaped (.list (as.map E.enc)) = true := by
  unfold SeqAt.shaped
  have h1 : (PyData.list (as.map E.enc)).canLay0 = true := lay_all E h
  have h2 : (PyData.list (as.map E.enc)).depth ≤ 64 := by
    have := dep_all E (as := as)
    show PyData.depthAll (as.map E.enc) + 1 ≤ 64
    omega
  rw [h1, decide_eq_true h2]
  rfl
theorem eqv_nilL (ds : List PyData) : PyData.eqv (.list ds) (.list []) = ds.isEmpty := by
  cases ds <;> simp [PyData.eqv, PyData.eqvAll]
/-- xs != [] -/
theorem ev_neNil (E : Enc r ok) (hd : E.dep ≤ 60) {p : Addr} {as : List α} (ha : Ev ta σ H (.ref p)) (h : LR r H p as) (ho : ∀ a ∈ as, ok a) : Ev (tOp (rNeD K) ta (tLst tNil)) σ H (.bl (!as.isEmpty)) := by
  obtain ⟨ys, h1, h2⟩ := h
  refine ev_opR ha (eg_lst ea_nil (by decide)) fun A w B a b ⟨q, e, _, hq⟩ C c Q k => ?_
  subst e
  refine ⟨.list (as.map E.enc), .list [], .lst (sq_of (((a.trans b).trans c).k h1)) (dp_all E (pr_mono ((a.trans b).trans c) h2)), .lst (sq_of (c.k hq)) .nil, shaped_l E hd ho, by decide +kernel, ?_⟩
  rw [eqv_nilL, List.isEmpty_map]
  exact k C (.refl C)
theorem ev_eqNil (E : Enc r ok) (hd : E.dep ≤ 60) {p : Addr} {as : List α} (ha : Ev ta σ H (.ref p)) (h : LR r H p as) (ho : ∀ a ∈ as, ok a) : Ev (tOp (rEqD K) ta (tLst tNil)) σ H (.bl as.isEmpty) := by
  obtain ⟨ys, h1, h2⟩ := h
  refine ev_opR ha (eg_lst ea_nil (by decide)) fun A w B a b ⟨q, e, _, hq⟩ C c Q k => ?_
  subst e
  refine ⟨.list (as.map E.enc), .list [], .lst (sq_of (((a.trans b).trans c).k h1)) (dp_all E (pr_mono ((a.trans b).trans c) h2)), .lst (sq_of (c.k hq)) .nil, shaped_l E hd ho, by decide +kernel, ?_⟩
  rw [eqv_nilL, List.isEmpty_map]
  exact k C (.refl C)
/-- two lists told alike -/
theorem rv_eqL (E : Enc r ok) (hd : E.dep ≤ 60) {p p' : Addr} {as : List α} (h1 : LR r H p as) (h2 : LR r H p' as) (ho : ∀ a ∈ as, ok a) : RV (rEqD K) (.ref p) (.ref p') H (.bl true) := fun A a Q q => by
  obtain ⟨xs, g1, g2⟩ := h1.mono (a)
  obtain ⟨ys, g3, g4⟩ := h2.mono (a)
  refine ⟨.list (as.map E.enc), .list (as.map E.enc), .lst (sq_of g1) (dp_all E g2), .lst (sq_of g3) (dp_all E g4), shaped_l E hd ho, shaped_l E hd ho, ?_⟩
  rw [eqv_self (.list (as.map E.enc)) (show (PyData.list (as.map E.enc)).canLay0 = true from lay_all E ho)]
  exact q A (.refl A)
theorem rv_neL (E : Enc r ok) (hd : E.dep ≤ 60) {p p' : Addr} {as : List α} (h1 : LR r H p as) (h2 : LR r H p' as) (ho : ∀ a ∈ as, ok a) : RV (rNeD K) (.ref p) (.ref p') H (.bl false) := fun A a Q q => by
  obtain ⟨xs, g1, g2⟩ := h1.mono (a)
  obtain ⟨ys, g3, g4⟩ := h2.mono (a)
  refine ⟨.list (as.map E.enc), .list (as.map E.enc), .lst (sq_of g1) (dp_all E g2), .lst (sq_of g3) (dp_all E g4), shaped_l E hd ho, shaped_l E hd ho, ?_⟩
  rw [eqv_self (.list (as.map E.enc)) (show (PyData.list (as.map E.enc)).canLay0 = true from lay_all E ho)]
  exact q A (.refl A)
theorem ev_listLR {p : Addr} {as : List α} (ha : Ev ta σ H (.ref p)) (h : LR r H p as) : EvLR r (tCB (rList K) (tCons ta tNil)) σ H as := fun A a Q q =>
  ha A a _ fun B b => by
    obtain ⟨ys, h1, h2⟩ := h.mono (a.trans b)
    exact ⟨p, ys, rfl, .inl (sq_of h1), fun l hl => q _ _ (b.trans (.new hl)) ⟨l, rfl, fresh_back b hl, ys, upd_same, pr_mono (Ex.new hl) h2⟩⟩
theorem el_nil : EvLR r (tLst tNil) σ H [] := (eg_lst ea_nil (by decide)).imp fun A v B _ _ ⟨p, e, hp, h⟩ => ⟨p, e, hp, _, h, .nil⟩
theorem el_one {b : α} (h : EvE r F0 te σ H b) : EvLR r (tLst (tCons te tNil)) σ H [b] := fun A a Q q =>
  h A a _ fun v B e hv => ⟨by show 1 ≤ sizeLine; decide, fun l hl => q _ _ (e.trans (.new hl)) ⟨l, rfl, fresh_back e hl, _, upd_same, .cons (r.mo (Ex.new hl) hv) .nil⟩⟩
theorem el_two {b c : α} (h : EvE r F0 ta σ H b) (h2 : EvE r F0 tb σ H c) : EvLR r (tLst (tCons ta (tCons tb tNil))) σ H [b, c] := fun A a Q q =>
  h A a _ fun v B e hv => h2 B (a.trans e) _ fun u C f hu => ⟨by show 2 ≤ sizeLine; decide, fun l hl => q _ _ ((e.trans f).trans (.new hl)) ⟨l, rfl, fresh_back (e.trans f) hl, _, upd_same, .cons (r.mo (f.trans (.new hl)) hv) (.cons (r.mo (Ex.new hl) hu) .nil)⟩⟩
end

end
section
local macro_rules | `(tactic| walk_at "cond") => `(tactic| first | (with_reducible assumption) | decide | (show (0 : Int) < _; decide) | (exact ⟨by decide, by decide⟩) | (exact ⟨by decide, by decide, by decide⟩) | (exact ⟨by omega, by omega⟩) | (exact Or.inl ⟨by decide, by decide⟩) | (exact Or.inr ⟨by decide, by decide⟩) | (exact Or.inl ⟨by omega, by omega⟩) | (exact Or.inr ⟨by omega, by omega⟩) | omega)

local macro_rules | `(tactic| walk_at "seq") => `(tactic| first | (with_reducible assumption) | (exact sq_of (by with_reducible assumption)) | (exact st_of (by with_reducible assumption)) | (exact ex_l (by with_reducible assumption) (by with_reducible assumption)) | (exact ex_t (by with_reducible assumption) (by with_reducible assumption)))

local macro_rules | `(tactic| walk_at "rv") => `(tactic| first | (with_reducible exact rv_I0) | ((with_reducible apply rv_I); walk_at "cond") | ((with_reducible apply rv_eq); rfl) | ((with_reducible apply rv_ne); rfl) | (with_reducible exact rv_NT) | (with_reducible exact rv_isN) | ((with_reducible apply rv_add_str); walk_at "cond") | ((with_reducible apply rv_ixT); walk_at "seq"; rfl))

local macro_rules | `(tactic| walk_at "rc") => `(tactic| first | ((with_reducible apply rc_len); walk_at "seq") | ((with_reducible apply rc_lenT); walk_at "seq") | ((with_reducible apply rc_lenS); walk_at "cond") | (with_reducible exact rc_intB) | (with_reducible exact rc_typI) | ((with_reducible apply rc_strI); walk_at "cond") | (exact rc_isi tx_str kb_ss) | (exact rc_isi tx_int kb_ii) | (exact rc_isi tx_int kb_ib) | (exact rc_isi (tx_lst (by with_reducible assumption)) kb_ll) | (exact rc_isi (tx_tup (by with_reducible assumption)) kb_tt))

local macro_rules | `(tactic| walk_at "spv") => `(tactic| fail "no promise")

local macro_rules | `(tactic| walk_at "ea") => `(tactic| first | (with_reducible exact ea_nil) | ((with_reducible apply ea_cons); walk_at "ev"; walk_at "ea"))

local macro_rules | `(tactic| walk_at "eo") => `(tactic| first | (with_reducible exact eo_none) | ((with_reducible apply eo_some); walk_at "ev"))

local macro_rules | `(tactic| walk_at "ev") => `(tactic| first
  | (with_reducible exact ev_c)
  | ((with_reducible apply ev_var); rfl)
  | ((with_reducible apply ev_op); walk_at "ev"; walk_at "ev"; walk_at "rv")
  | ((with_reducible apply ev_cb); walk_at "ea"; walk_at "rc")
  | ((with_reducible apply ev_call); walk_at "ea"; walk_at "spv")
  | ((with_reducible apply ev_neg); walk_at "ev")
  | ((with_reducible apply ev_notV); walk_at "ev")
  | ((with_reducible apply ev_andV); walk_at "ev"; (intro _; walk_at "ev"))
  | ((with_reducible apply ev_orV); walk_at "ev"; (intro _; walk_at "ev")))

local macro_rules | `(tactic| walk_at "et") => `(tactic| first
  | ((with_reducible apply et_chain); walk_at "ev"; walk_at "ev"; walk_at "rv"; (intro _; walk_at "ev"); (intro _; walk_at "rv"))
  | ((with_reducible apply et_test); walk_at "ev")
  | ((with_reducible apply et_B); walk_at "ev")
  | ((with_reducible apply et_not); walk_at "et")
  | ((with_reducible apply et_or); walk_at "et"; (intro _; walk_at "et"))
  | ((with_reducible apply et_and); walk_at "et"; (intro _; walk_at "et")))

local macro_rules | `(tactic| walk_at "asg") => `(tactic| ((first | with_reducible apply q_asg | with_reducible apply s_asg); walk_at "ev"))

local macro_rules | `(tactic| walk_at "drop") => `(tactic| ((first | with_reducible apply q_drop | with_reducible apply s_drop); walk_at "ev"))

local macro_rules | `(tactic| walk_at "ret") => `(tactic| ((with_reducible apply s_retk); walk_at "ev"))

local macro_rules | `(tactic| walk_at "when") => `(tactic| ((first | with_reducible apply q_when | with_reducible apply s_when | with_reducible apply q_if | with_reducible apply s_if); walk_at "et"))

variable [TabCx]
/-! ### more of what evaluates -/
theorem ev_opL {K : PySem.W.Frag} {σ : L2.St} {H : Hp} {ta tb : TE} {y z : V} {r : R2} {P : Hp → V → Hp → Prop} (ha : EvG ta σ H P) (hb : Ev tb σ H y) (hr : ∀ A w B, Ex H A → Ex A B → P A w B → RV r w y B z) : Ev (tOp r ta tb) σ H z := fun A a Q q =>
  ha A a _ fun w B b p => hb B (a.trans b) _ fun C c => hr A w B a b p C c Q fun D d => q D ((b.trans c).trans d)
theorem el_sortI {K : PySem.W.Frag} {σ : L2.St} {H : Hp} {te : TE} {ns : List Int} (h : EvLR rpInt te σ H ns) : EvG (tCB (rSortedI K) (tCons te tNil)) σ H (fun A v B => ∃ p ms, v = .ref p ∧ A p = none ∧ LR rpInt B p ms ∧ ms.Perm ns ∧ ms.Pairwise (· ≤ ·)) := fun A a Q q =>
  h A a _ fun v B b ⟨p, ev, hp, xs, h1, h2⟩ => ⟨p, ns, by rw [ev], sq_of (by rw [h1, pr_ints_eq h2]), fun ms p' perm pw hp' => q _ _ (b.trans (.new hp')) ⟨p', ms, rfl, fresh_back b hp', ⟨_, upd_same, pr_ints⟩, perm, pw⟩⟩
/-! ### a comprehension over what is told; a slice; sorted pairs -/
section
variable {K : PySem.W.Frag} {σ : L2.St} {H H' : Hp} {ta tb te tl : TE} {t : TT} {g : TG} {vs : List Nat} {P P3 : Hp → V → Hp → Prop}
theorem lcG (h : EvG tl σ H P) (k : ∀ A v B, Ex H A → Ex A B → P A v B → EvG (tLc (iList K (tC v)) g t te vs) σ B (fun _ w C => P3 A w C)) : EvG (tLc (iList K tl) g t te vs) σ H P3 := fun A a Q q =>
  h A a _ fun v B b p => k A v B a b p B (.refl B) Q fun w C c r => q w C (b.trans c) r
theorem ev_callG {sp : Sp} {dvs us : List V} {E : XK} {ta : TA} {R : V → Hp → Prop} (h : EvA ta σ H us) (hs : ∀ B, Ex H B → ∀ Q : VK, (∀ v C, Ex B C → R v C → Q v C) → ∀ E, sp (us ++ dvs) B Q E) : EvG (tCall sp dvs E ta) σ H (fun _ v C => R v C) := fun A a Q q =>
  h A a _ fun B b => hs B (a.trans b) Q (fun v C c r => q v C (b.trans c) r) E
theorem cutV_take (xs : List V) (n : Nat) : cutV xs none (some (n : Int)) = xs.take n := by
  unfold cutV
  rw [HT.sIx_none, HT.sIx_nat, List.drop_zero, Nat.sub_zero]
  rcases Nat.le_total n xs.length with h | h
  · rw [Nat.min_eq_left h]
  · rw [Nat.min_eq_right h, List.take_length, List.take_of_length_le h]
theorem pr_take {α : Type} {r : Rp α} : ∀ (n : Nat) {xs : List V} {as : List α}, PR r H xs as → PR r H (xs.take n) (as.take n)
  | 0, _, _, _ => by
    rw [List.take_zero, List.take_zero]
    exact .nil
  | _ + 1, _, _, .nil => .nil
  | n + 1, _, _, .cons a t => .cons a (pr_take n t)
theorem el_slice {α : Type} {r : Rp α} {as : List α} {p : Addr} {th : TO} (n : Nat) (h : Ev te σ H (.ref p)) (hl : LR r H p as) (hh : EvO th σ H (some (n : Int))) : EvLR r (tSl (rSlL K) te tNoPart th) σ H (as.take n) := fun A a Q q =>
  h A a _ fun B b => hh B (a.trans b) _ fun C c => by
    obtain ⟨xs, h1, h2⟩ := hl.mono ((a.trans b).trans c)
    refine ⟨p, xs, rfl, sq_of h1, fun l hnew => ?_⟩
    rw [cutV_take]
    exact q _ _ ((b.trans c).trans (.new hnew)) ⟨l, rfl, fresh_back (b.trans c) hnew, _, upd_same, pr_mono (.new hnew) (pr_take n h2)⟩
def kH (H : Hp) : V → Int × Int
  | .ref t => (match H t with
    | some (.tup [.int i, .int j]) => (i, j)
    | _ => (0, 0))
  | _ => (0, 0)
theorem kH_is {v : V} {p : Int × Int} (h : Thg H v p) : kH H v = p := by
  obtain ⟨t, rfl, h⟩ := h
  show (match H t with
    | some (.tup [.int i, .int j]) => (i, j)
    | _ => ((0, 0) : Int × Int)) = p
  rw [h]
theorem kH_all : ∀ {xs : List V} {as : List (Int × Int)}, PR rpT H xs as → xs.map (kH H) = as ∧ ∀ x ∈ xs, ∃ t, x = .ref t ∧ H t = some (.tup [.int (kH H x).1, .int (kH H x).2])
  | _, _, .nil => ⟨rfl, by simp⟩
  | _, _, .cons h t => by
    obtain ⟨h1, h2⟩ := kH_all t
    refine ⟨by rw [List.map_cons, kH_is h, h1], fun x hx => ?_⟩
    rcases List.mem_cons.mp hx with e | e
    · obtain ⟨u, e1, e2⟩ := id h
      rw [e, kH_is h]
      exact ⟨u, e1, e2⟩
    · exact h2 x e
theorem kH_pr : ∀ {xs : List V}, (∀ x ∈ xs, ∃ t, x = .ref t ∧ H t = some (.tup [.int (kH H x).1, .int (kH H x).2])) → PR rpT H xs (xs.map (kH H))
  | [], _ => .nil
  | x :: xs, h => .cons (h x List.mem_cons_self) (kH_pr fun y hy => h y (List.mem_cons_of_mem _ hy))
theorem lex_le {a b : Int × Int} (h : SrtO.lexB b a = false) : a.1 ≤ b.1 := by
  unfold SrtO.lexB at h
  by_cases e : b.1 = a.1
  · omega
  · rw [if_neg e] at h
    have := of_decide_eq_false h
    omega
theorem el_sortT {as : List (Int × Int)} (h : EvLR rpT te σ H as) : EvG (tCB (rSortedPO K) (tCons te tNil)) σ H (fun A v B => ∃ p rs, v = .ref p ∧ A p = none ∧ LR rpT B p rs ∧ rs.Perm as ∧ rs.Pairwise (fun a b => a.1 ≤ b.1)) := fun A a Q q =>
  h A a _ fun v B b ⟨p, ev, hp, xs, h1, h2⟩ => by
    obtain ⟨e1, e2⟩ := kH_all h2
    refine ⟨p, xs, kH B, by rw [ev], sq_of h1, e2, fun ys p' srt stb hp' => ?_⟩
    refine q _ _ (b.trans (.new hp')) ⟨p', ys.map (kH B), rfl, fresh_back b hp', ⟨ys, upd_same, pr_mono (.new hp') (kH_pr fun x hx => e2 x (stb.perm.mem_iff.mp hx))⟩, ?_, ?_⟩
    · rw [← e1]
      exact stb.perm.map _
    · rw [List.pairwise_map]
      exact srt.imp fun {x y} hxy => lex_le hxy
end
theorem ev_slS {te : TE} {tl th : TO} {σ : L2.St} {H : Hp} {s : Str} {lo hi : Option Int} (h : Ev te σ H (.str s)) (h1 : EvO tl σ H lo) (h2 : EvO th σ H hi) (hz : s.length ≤ 100000) : Ev (tSl rSlS te tl th) σ H (.str (cutS s lo hi)) := fun A a Q q =>
  h A a _ fun B b => h1 B (a.trans b) _ fun C c => h2 C ((a.trans b).trans c) _ fun D d => ⟨s, rfl, sz_of hz, q D ((b.trans c).trans d)⟩
section
variable {α β : Type} {r : Rp α} {K : PySem.W.Frag} {σ : L2.St} {H : Hp} {ta te : TE} {z : V}
/-- a call with a new list -/
theorem ev_callL1 {sp : Sp} {E : XK} {as : List α} (h : EvLR r te σ H as) (hs : ∀ p B, LR r B p as → SpV sp [.ref p] B z) : Ev (tCall sp [] E (tCons te tNil)) σ H z := fun A a Q q =>
  h A a _ fun _ B b ⟨p, ev, _, l⟩ => by
    subst ev
    exact hs p B l B (.refl B) Q (fun C c => q C (b.trans c)) E
theorem ev_callL2 {sp : Sp} {E : XK} {as : List α} {y : V} (h : EvLR r te σ H as) (ht : Ev ta σ H y) (hs : ∀ p B, Ex H B → LR r B p as → SpV sp [.ref p, y] B z) : Ev (tCall sp [] E (tCons te (tCons ta tNil))) σ H z := fun A a Q q =>
  h A a _ fun _ B b ⟨p, ev, _, l⟩ => ht B (a.trans b) _ fun C c => by
    subst ev
    exact hs p C ((a.trans b).trans c) (l.mono c) C (.refl C) Q (fun D d => q D ((b.trans c).trans d)) E
theorem rv_isB {a b : Bool} : RV rIsB (.bl a) (.bl b) H (.bl (decide (a = b))) := fun A _ _ q => ⟨a, b, rfl, rfl, q A (.refl A)⟩
theorem rv_notB {a b : Bool} : RV rNotB (.bl a) (.bl b) H (.bl (!decide (a = b))) := fun A _ _ q => ⟨a, b, rfl, rfl, q A (.refl A)⟩
theorem tx_bl {b : Bool} : ∀ B, Ex H B → TyX K B (.bl b) (.type "bool") := fun _ _ => .base (.bl b)
end
theorem kb_bb : kitB "bool" "bool" = some true := by decide +kernel
theorem decide_bl (i j : Bool) : decide (V.bl i = V.bl j) = decide (i = j) := by
  by_cases h : i = j
  · rw [h, decide_eq_true rfl, decide_eq_true rfl]
  · rw [decide_eq_false h, decide_eq_false (fun q => h (V.bl.inj q))]
section
variable {α β : Type} {r : Rp α} {r' : Rp β} {K : PySem.W.Frag} {σ : L2.St} {H : Hp} {ta tb te : TE} {z y : V}
/-- a call with two new lists -/
theorem ev_callP2 {sp : Sp} {E : XK} {as : List α} {bs : List β} (ha : EvLR r ta σ H as) (hb : EvLR r' tb σ H bs) (hs : ∀ p q B, LR r B p as → LR r' B q bs → SpV sp [.ref p, .ref q] B z) : Ev (tCall sp [] E (tCons ta (tCons tb tNil))) σ H z := fun A a Q k =>
  ha A a _ fun _ B b ⟨p, ev, _, l⟩ => hb B (a.trans b) _ fun _ C c ⟨q, ev', _, l'⟩ => by
    subst ev ev'
    exact hs p q C (l.mono c) l' C (.refl C) Q (fun D d => k D ((b.trans c).trans d)) E
/-- a call with a new list, that hands back a new list -/
theorem ev_callG1 {sp : Sp} {E : XK} {as : List α} {bs : List β} (ha : EvLR r ta σ H as) (hb : Ev tb σ H y) (hs : ∀ p B, LR r B p as → SpLR r' sp [.ref p, y] B bs) : EvLR r' (tCall sp [] E (tCons ta (tCons tb tNil))) σ H bs := fun A a Q k =>
  ha A a _ fun _ B b ⟨p, ev, _, l⟩ => hb B (a.trans b) _ fun C c => by
    subst ev
    exact hs p C (l.mono c) C (.refl C) Q (fun q D hq d l => k _ D ((b.trans c).trans d) ⟨q, rfl, fresh_back (b.trans c) hq, l⟩) E
end

end
section
/-! ### texts of signs, by their length and their number -/
abbrev Code := Nat × Nat
def bl (l k : Nat) : List Nat := (List.range l).map fun t => 48 + k / 2 ^ (l - 1 - t) % 2
def bt (c : Code) : Str := ⟨(bl c.1 c.2).toArray⟩
theorem bl_len (l k : Nat) : (bl l k).length = l := by simp [bl]
theorem bt_len (c : Code) : (bt c).length = c.1 := by
  show (bl c.1 c.2).toArray.size = c.1
  rw [List.size_toArray, bl_len]
theorem bl_get {l t : Nat} (k : Nat) (h : t < l) : (bl l k)[t]? = some (48 + k / 2 ^ (l - 1 - t) % 2) := by
  unfold bl
  rw [List.getElem?_map, List.getElem?_range h]
  rfl
theorem bl_snoc (l k : Nat) : bl (l + 1) k = bl l (k / 2) ++ [48 + k % 2] := by
  unfold bl
  rw [List.range_succ, List.map_append]
  congr 1
  · refine List.map_congr_left fun t ht => ?_
    have ht := List.mem_range.mp ht
    rw [Nat.div_div_eq_div_mul, show l + 1 - 1 - t = (l - 1 - t) + 1 by omega, Nat.pow_succ, Nat.mul_comm (2 ^ _) 2]
  · rw [List.map_cons, List.map_nil, show l + 1 - 1 - l = 0 by omega, Nat.pow_zero, Nat.div_one]
theorem bl_take {j l : Nat} (k : Nat) (h : j ≤ l) : (bl l k).take j = bl j (k / 2 ^ (l - j)) := by
  unfold bl
  rw [← List.map_take, List.take_range, Nat.min_eq_left h]
  refine List.map_congr_left fun t ht => ?_
  have ht := List.mem_range.mp ht
  rw [Nat.div_div_eq_div_mul, ← Nat.pow_add, show l - j + (j - 1 - t) = l - 1 - t by omega]
theorem bl_cons (l k : Nat) : bl (l + 1) k = (48 + k / 2 ^ l % 2) :: bl l (k % 2 ^ l) := by
  apply List.ext_getElem?
  intro t
  cases t with
  | zero => rw [bl_get k (by omega)]; rfl
  | succ t =>
    rw [List.getElem?_cons_succ]
    by_cases h : t < l
    · rw [bl_get k (by omega), bl_get _ h]
      refine congrArg (fun x => some (48 + x)) ?_
      rw [show l + 1 - 1 - (t + 1) = l - 1 - t by omega]
      have e : 2 ^ l = 2 ^ (l - 1 - t) * 2 ^ (t + 1) := by rw [← Nat.pow_add]; congr 1; omega
      rw [e, Nat.mod_mul_right_div_self, Nat.pow_succ, Nat.mul_comm (2 ^ t) 2, Nat.mod_mul_right_mod]
    · rw [List.getElem?_eq_none (by rw [bl_len]; omega), List.getElem?_eq_none (by rw [bl_len]; omega)]
theorem bl_inj : ∀ {l k j : Nat}, k < 2 ^ l → j < 2 ^ l → bl l k = bl l j → k = j
  | 0, k, j, h1, h2, _ => by
    rw [Nat.pow_zero] at h1 h2
    omega
  | l + 1, k, j, h1, h2, e => by
    rw [bl_snoc, bl_snoc] at e
    have e2 := List.append_inj e (by rw [bl_len, bl_len])
    rw [Nat.pow_succ] at h1 h2
    have e3 := bl_inj (l := l) (by omega) (by omega) e2.1
    have e4 : 48 + k % 2 = 48 + j % 2 := List.head_eq_of_cons_eq e2.2
    omega
def Cv (c : Code) : Prop := c.2 < 2 ^ c.1
theorem toL_inj {a b : List Nat} (h : (⟨a.toArray⟩ : Str) = ⟨b.toArray⟩) : a = b := by
  have := congrArg (fun s : Str => s.cps.toList) h
  simpa using this
theorem bt_inj {c d : Code} (hc : Cv c) (hd : Cv d) (e : bt c = bt d) : c = d := by
  have h := toL_inj e
  have hl := congrArg List.length h
  rw [bl_len, bl_len] at hl
  obtain ⟨l, k⟩ := c
  obtain ⟨m, j⟩ := d
  simp only at hl h
  subst hl
  have e4 : k = j := bl_inj hc hd h
  rw [e4]
theorem bt_iff {c d : Code} (hc : Cv c) (hd : Cv d) : bt c = bt d ↔ c = d := ⟨bt_inj hc hd, congrArg bt⟩
theorem bt_ok (c : Code) : PyData.strOk (bt c) = true := by
  show (bl c.1 c.2).toArray.all _ = true
  rw [List.all_toArray]
  refine List.all_eq_true.mpr fun x hx => ?_
  obtain ⟨t, _, rfl⟩ := List.mem_map.mp hx
  refine decide_eq_true ?_
  omega
def c0 (c : Code) : Code := (c.1 + 1, 2 * c.2)
def c1 (c : Code) : Code := (c.1 + 1, 2 * c.2 + 1)
def up (c : Code) : Code := (c.1 - 1, c.2 / 2)
theorem app_one (a : List Nat) (x : Nat) : (⟨a.toArray⟩ : Str) ++ (⟨#[x]⟩ : Str) = ⟨(a ++ [x]).toArray⟩ := by
  show (⟨a.toArray ++ #[x]⟩ : Str) = _
  simp
theorem s0_eq : ("0" : Str) = ⟨#[48]⟩ := by decide +kernel
theorem s1_eq : ("1" : Str) = ⟨#[49]⟩ := by decide +kernel
theorem bt_0 (c : Code) : bt c ++ ("0" : Str) = bt (c0 c) := by
  rw [s0_eq]
  refine (app_one _ _).trans ?_
  show (⟨_⟩ : Str) = ⟨(bl (c.1 + 1) (2 * c.2)).toArray⟩
  rw [bl_snoc, show 2 * c.2 / 2 = c.2 by omega, show 48 + 2 * c.2 % 2 = 48 by omega]
theorem bt_1 (c : Code) : bt c ++ ("1" : Str) = bt (c1 c) := by
  rw [s1_eq]
  refine (app_one _ _).trans ?_
  show (⟨_⟩ : Str) = ⟨(bl (c.1 + 1) (2 * c.2 + 1)).toArray⟩
  rw [bl_snoc, show (2 * c.2 + 1) / 2 = c.2 by omega, show 48 + (2 * c.2 + 1) % 2 = 49 by omega]
theorem cv0 {c : Code} (h : Cv c) : Cv (c0 c) := by
  show 2 * c.2 < 2 ^ (c.1 + 1)
  have h : c.2 < 2 ^ c.1 := h
  rw [Nat.pow_succ]
  omega
theorem cv1 {c : Code} (h : Cv c) : Cv (c1 c) := by
  show 2 * c.2 + 1 < 2 ^ (c.1 + 1)
  have h : c.2 < 2 ^ c.1 := h
  rw [Nat.pow_succ]
  omega
theorem cvu {c : Code} (h : Cv c) (h1 : 0 < c.1) : Cv (up c) := by
  show c.2 / 2 < 2 ^ (c.1 - 1)
  have h : c.2 < 2 ^ c.1 := h
  rw [show c.1 = c.1 - 1 + 1 by omega, Nat.pow_succ] at h
  omega
theorem up0 (c : Code) : up (c0 c) = c := by
  show (c.1 + 1 - 1, 2 * c.2 / 2) = c
  rw [show 2 * c.2 / 2 = c.2 by omega]
  rfl
theorem up1 (c : Code) : up (c1 c) = c := by
  show (c.1 + 1 - 1, (2 * c.2 + 1) / 2) = c
  rw [show (2 * c.2 + 1) / 2 = c.2 by omega]
  rfl
theorem c01 (c : Code) : c0 c ≠ c1 c := fun h => by
  have := congrArg Prod.snd h
  simp only [c0, c1] at this
  omega
theorem cut_len (s : Str) : ∀ l : List Nat, s = ⟨l.toArray⟩ → s.length = l.length := fun l e => by
  rw [e]
  show l.toArray.size = _
  rw [List.size_toArray]
/-- the first j signs -/
theorem bt_pre {D j : Nat} (i : Nat) (h : j ≤ D) : cutS (bt (D, i)) none (some (j : Int)) = bt (j, i / 2 ^ (D - j)) := by
  unfold cutS
  rw [HT.sIx_none, HT.sIx_nat, bt_len]
  show (⟨((((bl D i).toArray.toList).drop 0).take (min j D - 0)).toArray⟩ : Str) = ⟨(bl j _).toArray⟩
  rw [Nat.min_eq_left h, List.drop_zero, Nat.sub_zero, List.toList_toArray, bl_take i h]
theorem sIx_neg1 (n : Nat) : HT.sIx (n + 1) (n + 1) (some (-1)) = n :=
  (show (if (-1 : Int) < 0 then ((-1 : Int) + ((n + 1 : Nat) : Int)).toNat else min (-1 : Int).toNat (n + 1)) = n from (if_pos (by decide)).trans (by omega))
theorem sIx_neg1' (n : Nat) : HT.sIx (n + 1) 0 (some (-1)) = n :=
  (show (if (-1 : Int) < 0 then ((-1 : Int) + ((n + 1 : Nat) : Int)).toNat else min (-1 : Int).toNat (n + 1)) = n from (if_pos (by decide)).trans (by omega))
theorem bt_up (c : Code) (h : 0 < c.1) : cutS (bt c) none (some (-1)) = bt (up c) := by
  obtain ⟨l, k⟩ := c
  obtain ⟨n, rfl⟩ : ∃ n, l = n + 1 := ⟨l - 1, by show l = l - 1 + 1; have h : 0 < l := h; omega⟩
  unfold cutS
  rw [HT.sIx_none, bt_len, sIx_neg1]
  show (⟨((((bl (n + 1) k).toArray.toList).drop 0).take (n - 0)).toArray⟩ : Str) = ⟨(bl n (k / 2)).toArray⟩
  rw [List.drop_zero, Nat.sub_zero, List.toList_toArray, bl_snoc, List.take_append_of_le_length (by rw [bl_len]; exact Nat.le_refl _), List.take_of_length_le (by rw [bl_len]; exact Nat.le_refl _)]
theorem bt_last (c : Code) (h : 0 < c.1) : cutS (bt c) (some (-1)) none = ⟨#[48 + c.2 % 2]⟩ := by
  obtain ⟨l, k⟩ := c
  obtain ⟨n, rfl⟩ : ∃ n, l = n + 1 := ⟨l - 1, by show l = l - 1 + 1; have h : 0 < l := h; omega⟩
  unfold cutS
  rw [HT.sIx_none, bt_len, sIx_neg1']
  show (⟨((((bl (n + 1) k).toArray.toList).drop n).take (n + 1 - n)).toArray⟩ : Str) = _
  rw [List.toList_toArray, bl_snoc, List.drop_append_of_le_length (by rw [bl_len]; exact Nat.le_refl _), List.drop_of_length_le (by rw [bl_len]; exact Nat.le_refl _), List.nil_append, List.take_of_length_le (by simp)]
theorem bt_nil (k : Nat) : bt (0, k) = ("" : Str) := by
  show (⟨(bl 0 k).toArray⟩ : Str) = _
  have : bl 0 k = [] := rfl
  rw [this]
  decide +kernel
/-! ### which code a place has -/
def inB (D i : Nat) (c : Code) : Bool := decide (c.1 ≤ D) && decide (i / 2 ^ (D - c.1) = c.2)
theorem inB_iff {D i : Nat} {c : Code} : inB D i c = true ↔ c.1 ≤ D ∧ i / 2 ^ (D - c.1) = c.2 := by
  unfold inB
  rw [Bool.and_eq_true_iff, decide_eq_true_iff, decide_eq_true_iff]
structure Cov (R : List Code) (D : Nat) : Prop where
  val : ∀ c ∈ R, Cv c ∧ c.1 ≤ D
  ex : ∀ i, i < 2 ^ D → ∃ c ∈ R, inB D i c = true
  uq : ∀ i, i < 2 ^ D → ∀ c ∈ R, ∀ d ∈ R, inB D i c = true → inB D i d = true → c = d
def atC (R : List Code) (D i : Nat) : Code := (R.filter (inB D i)).headD (0, 0)
def boardC (R : List Code) (D : Nat) : List Code := (List.range (2 ^ D)).map (atC R D)
theorem atC_eq {R : List Code} {D i : Nat} {c : Code} (h : Cov R D) (hi : i < 2 ^ D) (hc : c ∈ R) (hb : inB D i c = true) : atC R D i = c := by
  unfold atC
  have hm : c ∈ R.filter (inB D i) := List.mem_filter.mpr ⟨hc, hb⟩
  cases hf : R.filter (inB D i) with
  | nil => rw [hf] at hm; simp at hm
  | cons d t =>
    have hd : d ∈ R.filter (inB D i) := by rw [hf]; exact List.mem_cons_self
    have := List.mem_filter.mp hd
    exact h.uq i hi d this.1 c hc this.2 hb
theorem atC_mem {R : List Code} {D i : Nat} (h : Cov R D) (hi : i < 2 ^ D) : atC R D i ∈ R ∧ inB D i (atC R D i) = true := by
  obtain ⟨c, hc, hb⟩ := h.ex i hi
  rw [atC_eq h hi hc hb]
  exact ⟨hc, hb⟩
theorem atC_iff {R : List Code} {D i : Nat} {c : Code} (h : Cov R D) (hi : i < 2 ^ D) : atC R D i = c ↔ c ∈ R ∧ inB D i c = true :=
  ⟨fun e => e ▸ atC_mem h hi, fun ⟨a, b⟩ => atC_eq h hi a b⟩
def partR (R : List Code) (c : Code) : List Code := R.filter (fun d => decide (d ≠ c)) ++ [c0 c, c1 c]
def joinR (R : List Code) (c : Code) : List Code := R.filter (fun d => decide (d ≠ c0 c) && decide (d ≠ c1 c)) ++ [c]
theorem div_half (i D l : Nat) (h : l < D) : i / 2 ^ (D - l) = i / 2 ^ (D - (l + 1)) / 2 := by
  rw [Nat.div_div_eq_div_mul, ← Nat.pow_succ, show (D - (l + 1)).succ = D - l by omega]
theorem inB_half {D i : Nat} {c : Code} (h : c.1 < D) : inB D i c = true ↔ (inB D i (c0 c) = true ∨ inB D i (c1 c) = true) := by
  rw [inB_iff, inB_iff, inB_iff]
  show _ ↔ (c.1 + 1 ≤ D ∧ i / 2 ^ (D - (c.1 + 1)) = 2 * c.2) ∨ (c.1 + 1 ≤ D ∧ i / 2 ^ (D - (c.1 + 1)) = 2 * c.2 + 1)
  rw [div_half i D c.1 h]
  omega
theorem inB_not {D i : Nat} {c : Code} : ¬ (inB D i (c0 c) = true ∧ inB D i (c1 c) = true) := by
  rw [inB_iff, inB_iff]
  show ¬ ((c.1 + 1 ≤ D ∧ i / 2 ^ (D - (c.1 + 1)) = 2 * c.2) ∧ (c.1 + 1 ≤ D ∧ i / 2 ^ (D - (c.1 + 1)) = 2 * c.2 + 1))
  omega
theorem Cov.part {R : List Code} {D : Nat} {c : Code} (h : Cov R D) (hc : c ∈ R) (hl : c.1 < D) : Cov (partR R c) D := by
  have mem : ∀ d, d ∈ partR R c ↔ (d ∈ R ∧ d ≠ c) ∨ d = c0 c ∨ d = c1 c := fun d => by
    unfold partR
    rw [List.mem_append, List.mem_filter, decide_eq_true_iff]
    simp
  refine ⟨fun d hd => ?_, fun i hi => ?_, fun i hi d hd e he bd be => ?_⟩
  · rcases (mem d).mp hd with ⟨h1, _⟩ | rfl | rfl
    · exact h.val d h1
    · exact ⟨cv0 (h.val c hc).1, hl⟩
    · exact ⟨cv1 (h.val c hc).1, hl⟩
  · obtain ⟨d, hd, hb⟩ := h.ex i hi
    by_cases e : d = c
    · subst e
      rcases (inB_half hl).mp hb with z | z
      · exact ⟨_, (mem _).mpr (.inr (.inl rfl)), z⟩
      · exact ⟨_, (mem _).mpr (.inr (.inr rfl)), z⟩
    · exact ⟨d, (mem d).mpr (.inl ⟨hd, e⟩), hb⟩
  · have half : ∀ d, d = c0 c ∨ d = c1 c → inB D i d = true → inB D i c = true := fun d hd b => (inB_half hl).mpr (hd.elim (fun e => .inl (e ▸ b)) fun e => .inr (e ▸ b))
    rcases (mem d).mp hd with ⟨h1, n1⟩ | h1 <;> rcases (mem e).mp he with ⟨h2, n2⟩ | h2
    · exact h.uq i hi d h1 e h2 bd be
    · exact absurd (h.uq i hi d h1 c hc bd (half e h2 be)) n1
    · exact absurd (h.uq i hi e h2 c hc be (half d h1 bd)) n2
    · rcases h1 with rfl | rfl <;> rcases h2 with rfl | rfl
      · rfl
      · exact absurd ⟨bd, be⟩ inB_not
      · exact absurd ⟨be, bd⟩ inB_not
      · rfl
theorem mem_part {R : List Code} {c d : Code} : d ∈ partR R c ↔ (d ∈ R ∧ d ≠ c) ∨ d = c0 c ∨ d = c1 c := by
  unfold partR
  rw [List.mem_append, List.mem_filter, decide_eq_true_iff]
  simp
theorem mem_join {R : List Code} {c d : Code} : d ∈ joinR R c ↔ (d ∈ R ∧ d ≠ c0 c ∧ d ≠ c1 c) ∨ d = c := by
  unfold joinR
  rw [List.mem_append, List.mem_filter, Bool.and_eq_true_iff, decide_eq_true_iff, decide_eq_true_iff]
  simp
theorem Cov.join {R : List Code} {D : Nat} {c : Code} (h : Cov R D) (hv : Cv c) (h0 : c0 c ∈ R) (h1 : c1 c ∈ R) : Cov (joinR R c) D := by
  have hl : c.1 < D := (h.val _ h0).2
  have key : ∀ i, i < 2 ^ D → inB D i c = true → ∀ d, d ∈ R → inB D i d = true → d = c0 c ∨ d = c1 c := fun i hi b d hd bd => by
    rcases (inB_half hl).mp b with z | z
    · exact .inl (h.uq i hi d hd _ h0 bd z)
    · exact .inr (h.uq i hi d hd _ h1 bd z)
  refine ⟨fun d hd => ?_, fun i hi => ?_, fun i hi d hd e he bd be => ?_⟩
  · rcases mem_join.mp hd with ⟨h1, _⟩ | rfl
    · exact h.val d h1
    · exact ⟨hv, Nat.le_of_lt hl⟩
  · obtain ⟨d, hd, hb⟩ := h.ex i hi
    by_cases e : d = c0 c ∨ d = c1 c
    · exact ⟨c, mem_join.mpr (.inr rfl), (inB_half hl).mpr (e.elim (fun e => .inl (e ▸ hb)) fun e => .inr (e ▸ hb))⟩
    · exact ⟨d, mem_join.mpr (.inl ⟨hd, fun z => e (.inl z), fun z => e (.inr z)⟩), hb⟩
  · rcases mem_join.mp hd with ⟨g1, n1, n1'⟩ | g1 <;> rcases mem_join.mp he with ⟨g2, n2, n2'⟩ | g2
    · exact h.uq i hi d g1 e g2 bd be
    · subst g2
      exact absurd (key i hi be d g1 bd) (fun z => z.elim n1 n1')
    · subst g1
      exact absurd (key i hi bd e g2 be) (fun z => z.elim n2 n2')
    · rw [g1, g2]
/-- a board parted -/
def partGo {α : Type} [DecidableEq α] (b b0 b1 : α) : Nat → List α → List α
  | _, [] => []
  | z, s :: t => if s = b then (if 0 < z then b0 :: partGo b b0 b1 (z - 1) t else b1 :: partGo b b0 b1 z t) else s :: partGo b b0 b1 z t
def joinGo {α : Type} [DecidableEq α] (b b0 b1 : α) (l : List α) : List α := l.map fun s => if s = b0 ∨ s = b1 then b else s
theorem partGo_run {c x0 x1 : Code} {f g : Nat → Code} {st h : Nat} : ∀ n i0 : Nat, (∀ i, i0 ≤ i → i < i0 + n → (f i = c ↔ st ≤ i ∧ i < st + 2 * h)) → (∀ i, i0 ≤ i → i < i0 + n → g i = if f i = c then (if i < st + h then x0 else x1) else f i) →
    partGo c x0 x1 (h - (i0 - st)) ((List.range' i0 n).map f) = (List.range' i0 n).map g
  | 0, _, _, _ => rfl
  | n + 1, i0, hf, hg => by
    rw [List.range'_succ, List.map_cons, List.map_cons]
    have ih := partGo_run (c := c) (x0 := x0) (x1 := x1) (f := f) (g := g) (st := st) (h := h) n (i0 + 1) (fun i a b => hf i (by omega) (by omega)) (fun i a b => hg i (by omega) (by omega))
    have f0 := hf i0 (Nat.le_refl _) (by omega)
    rw [hg i0 (Nat.le_refl _) (by omega), partGo]
    by_cases e : f i0 = c
    · have e2 := f0.mp e
      rw [if_pos e, if_pos e]
      by_cases z : i0 < st + h
      · rw [if_pos z, if_pos (by omega), show h - (i0 - st) - 1 = h - (i0 + 1 - st) by omega, ih]
      · rw [if_neg z, if_neg (by omega), show h - (i0 - st) = h - (i0 + 1 - st) by omega, ih]
    · rw [if_neg e, if_neg e]
      have e2 : ¬ (st ≤ i0 ∧ i0 < st + 2 * h) := fun z => e (f0.mpr z)
      rw [show h - (i0 - st) = h - (i0 + 1 - st) by omega, ih]
theorem count_run {c : Code} {f : Nat → Code} {st h : Nat} : ∀ n i0 : Nat, (∀ i, i0 ≤ i → i < i0 + n → (f i = c ↔ st ≤ i ∧ i < st + 2 * h)) → ((List.range' i0 n).map f).count c = min (i0 + n) (st + 2 * h) - max i0 st
  | 0, i0, _ => by
    show 0 = _
    omega
  | n + 1, i0, hf => by
    rw [List.range'_succ, List.map_cons, List.count_cons]
    rw [count_run (c := c) (f := f) (st := st) (h := h) n (i0 + 1) (fun i a b => hf i (by omega) (by omega))]
    have f0 := hf i0 (Nat.le_refl _) (by omega)
    by_cases e : f i0 = c
    · have e2 := f0.mp e
      rw [if_pos (by rw [e]; exact beq_self_eq_true c)]
      omega
    · have e2 : ¬ (st ≤ i0 ∧ i0 < st + 2 * h) := fun z => e (f0.mpr z)
      rw [if_neg (by rw [beq_iff_eq]; exact e)]
      omega
theorem blk_iff {D i : Nat} {c : Code} (hl : c.1 ≤ D) : inB D i c = true ↔ c.2 * 2 ^ (D - c.1) ≤ i ∧ i < c.2 * 2 ^ (D - c.1) + 2 ^ (D - c.1) := by
  rw [inB_iff, Nat.div_eq_iff (Nat.two_pow_pos _)]
  constructor
  · rintro ⟨_, h1, h2⟩
    have := Nat.two_pow_pos (D - c.1)
    omega
  · rintro ⟨h1, h2⟩
    exact ⟨hl, by omega, by omega⟩
theorem atC_part {R : List Code} {D i : Nat} {c : Code} (h : Cov R D) (hc : c ∈ R) (hl : c.1 < D) (hi : i < 2 ^ D) : atC (partR R c) D i = if atC R D i = c then (if i < c.2 * 2 ^ (D - c.1) + 2 ^ (D - (c.1 + 1)) then c0 c else c1 c) else atC R D i := by
  have h' := h.part hc hl
  have hm := atC_mem h hi
  by_cases e : atC R D i = c
  · rw [if_pos e]
    rw [e] at hm
    have hb := (inB_half hl).mp hm.2
    have b0 := blk_iff (D := D) (i := i) (c := c0 c) hl
    have b1 := blk_iff (D := D) (i := i) (c := c1 c) hl
    have e2 : c.2 * 2 ^ (D - c.1) = 2 * c.2 * 2 ^ (D - (c.1 + 1)) := by
      rw [show D - c.1 = D - (c.1 + 1) + 1 by omega, Nat.pow_succ, Nat.mul_comm 2 c.2, Nat.mul_assoc, Nat.mul_comm 2]
    have e3 : (2 * c.2 + 1) * 2 ^ (D - (c.1 + 1)) = 2 * c.2 * 2 ^ (D - (c.1 + 1)) + 2 ^ (D - (c.1 + 1)) := by rw [Nat.add_mul, Nat.one_mul]
    have b0' : inB D i (c0 c) = true ↔ 2 * c.2 * 2 ^ (D - (c.1 + 1)) ≤ i ∧ i < 2 * c.2 * 2 ^ (D - (c.1 + 1)) + 2 ^ (D - (c.1 + 1)) := b0
    have b1' : inB D i (c1 c) = true ↔ (2 * c.2 + 1) * 2 ^ (D - (c.1 + 1)) ≤ i ∧ i < (2 * c.2 + 1) * 2 ^ (D - (c.1 + 1)) + 2 ^ (D - (c.1 + 1)) := b1
    rw [e2]
    rcases hb with z | z
    · rw [if_pos (b0'.mp z).2]
      exact atC_eq h' hi (mem_part.mpr (.inr (.inl rfl))) z
    · have z2 := b1'.mp z
      rw [if_neg (by omega)]
      exact atC_eq h' hi (mem_part.mpr (.inr (.inr rfl))) z
  · rw [if_neg e]
    exact atC_eq h' hi (mem_part.mpr (.inl ⟨hm.1, e⟩)) hm.2
theorem atC_join {R : List Code} {D i : Nat} {c : Code} (h : Cov R D) (hv : Cv c) (h0 : c0 c ∈ R) (h1 : c1 c ∈ R) (hi : i < 2 ^ D) : atC (joinR R c) D i = if atC R D i = c0 c ∨ atC R D i = c1 c then c else atC R D i := by
  have h' := h.join hv h0 h1
  have hl : c.1 < D := (h.val _ h0).2
  have hm := atC_mem h hi
  by_cases e : atC R D i = c0 c ∨ atC R D i = c1 c
  · rw [if_pos e]
    exact atC_eq h' hi (mem_join.mpr (.inr rfl)) ((inB_half hl).mpr (e.elim (fun e => .inl (e ▸ hm.2)) fun e => .inr (e ▸ hm.2)))
  · rw [if_neg e]
    exact atC_eq h' hi (mem_join.mpr (.inl ⟨hm.1, fun z => e (.inl z), fun z => e (.inr z)⟩)) hm.2
theorem board_f {R : List Code} {D : Nat} {c : Code} (h : Cov R D) (hc : c ∈ R) (hl : c.1 < D) : ∀ i, 0 ≤ i → i < 0 + 2 ^ D → (atC R D i = c ↔ c.2 * 2 ^ (D - c.1) ≤ i ∧ i < c.2 * 2 ^ (D - c.1) + 2 * 2 ^ (D - (c.1 + 1))) := fun i _ hi => by
  have hi : i < 2 ^ D := by omega
  rw [atC_iff h hi, blk_iff (Nat.le_of_lt hl)]
  have e : 2 ^ (D - c.1) = 2 * 2 ^ (D - (c.1 + 1)) := by rw [show D - c.1 = D - (c.1 + 1) + 1 by omega, Nat.pow_succ, Nat.mul_comm]
  rw [← e]
  exact ⟨fun z => z.2, fun z => ⟨hc, z⟩⟩
theorem blk_end {D : Nat} {c : Code} (hv : Cv c) (hl : c.1 ≤ D) : c.2 * 2 ^ (D - c.1) + 2 ^ (D - c.1) ≤ 2 ^ D := by
  have h : c.2 + 1 ≤ 2 ^ c.1 := hv
  have := Nat.mul_le_mul_right (2 ^ (D - c.1)) h
  rw [← Nat.pow_add, show c.1 + (D - c.1) = D by omega, Nat.add_mul, Nat.one_mul] at this
  exact this
theorem part_count {R : List Code} {D : Nat} {c : Code} (h : Cov R D) (hc : c ∈ R) (hl : c.1 < D) : (boardC R D).count c = 2 * 2 ^ (D - (c.1 + 1)) := by
  unfold boardC
  rw [List.range_eq_range', count_run _ _ (board_f h hc hl)]
  have e : 2 ^ (D - c.1) = 2 * 2 ^ (D - (c.1 + 1)) := by rw [show D - c.1 = D - (c.1 + 1) + 1 by omega, Nat.pow_succ, Nat.mul_comm]
  have := blk_end (h.val c hc).1 (Nat.le_of_lt hl)
  omega
theorem part_board {R : List Code} {D : Nat} {c : Code} (h : Cov R D) (hc : c ∈ R) (hl : c.1 < D) : partGo c (c0 c) (c1 c) ((boardC R D).count c / 2) (boardC R D) = boardC (partR R c) D := by
  rw [part_count h hc hl, show 2 * 2 ^ (D - (c.1 + 1)) / 2 = 2 ^ (D - (c.1 + 1)) by omega]
  unfold boardC
  have := partGo_run (x0 := c0 c) (x1 := c1 c) (g := atC (partR R c) D) (2 ^ D) 0 (board_f h hc hl) (fun i _ hi => atC_part h hc hl (by omega))
  rw [Nat.zero_sub, Nat.sub_zero, ← List.range_eq_range'] at this
  exact this
theorem join_board {R : List Code} {D : Nat} {c : Code} (h : Cov R D) (hv : Cv c) (h0 : c0 c ∈ R) (h1 : c1 c ∈ R) : joinGo c (c0 c) (c1 c) (boardC R D) = boardC (joinR R c) D := by
  unfold joinGo boardC
  rw [List.map_map]
  refine List.map_congr_left fun i hi => ?_
  show (if atC R D i = c0 c ∨ atC R D i = c1 c then c else atC R D i) = _
  rw [atC_join h hv h0 h1 (List.mem_range.mp hi)]
/-- the same by texts -/
theorem partGo_bt {c : Code} (hc : Cv c) : ∀ (z : Nat) (L : List Code), (∀ d ∈ L, Cv d) → partGo (bt c) (bt (c0 c)) (bt (c1 c)) z (L.map bt) = (partGo c (c0 c) (c1 c) z L).map bt
  | _, [], _ => rfl
  | z, d :: t, h => by
    have ih := fun z => partGo_bt hc z t fun d hd => h d (List.mem_cons_of_mem _ hd)
    rw [List.map_cons, partGo, partGo]
    have hd := h d List.mem_cons_self
    by_cases e : d = c
    · rw [if_pos (congrArg bt e), if_pos e]
      by_cases hz : 0 < z
      · rw [if_pos hz, if_pos hz, ih, List.map_cons]
      · rw [if_neg hz, if_neg hz, ih, List.map_cons]
    · rw [if_neg fun z => e (bt_inj hd hc z), if_neg e, ih, List.map_cons]
theorem count_bt {c : Code} (hc : Cv c) : ∀ L : List Code, (∀ d ∈ L, Cv d) → (L.map bt).count (bt c) = L.count c
  | [], _ => rfl
  | d :: t, h => by
    have ih := count_bt hc t fun d hd => h d (List.mem_cons_of_mem _ hd)
    have hd := h d List.mem_cons_self
    rw [List.map_cons, List.count_cons, List.count_cons, ih]
    by_cases e : d = c
    · rw [if_pos (by rw [e]; exact beq_self_eq_true _), if_pos (by rw [e]; exact beq_self_eq_true _)]
    · rw [if_neg (by rw [beq_iff_eq]; exact fun z => e (bt_inj hd hc z)), if_neg (by rw [beq_iff_eq]; exact e)]
theorem joinGo_bt {c : Code} (hc : Cv c) (L : List Code) (h : ∀ d ∈ L, Cv d) : joinGo (bt c) (bt (c0 c)) (bt (c1 c)) (L.map bt) = (joinGo c (c0 c) (c1 c) L).map bt := by
  unfold joinGo
  rw [List.map_map, List.map_map]
  refine List.map_congr_left fun d hd => ?_
  show (if bt d = bt (c0 c) ∨ bt d = bt (c1 c) then bt c else bt d) = bt (if d = c0 c ∨ d = c1 c then c else d)
  have k : (bt d = bt (c0 c) ∨ bt d = bt (c1 c)) ↔ (d = c0 c ∨ d = c1 c) := or_congr (bt_iff (h d hd) (cv0 hc)) (bt_iff (h d hd) (cv1 hc))
  by_cases e : d = c0 c ∨ d = c1 c
  · rw [if_pos (k.mpr e), if_pos e]
  · rw [if_neg fun z => e (k.mp z), if_neg e]
theorem board_cv {R : List Code} {D : Nat} (h : Cov R D) : ∀ d ∈ boardC R D, Cv d := fun d hd => by
  obtain ⟨i, hi, rfl⟩ := List.mem_map.mp hd
  exact (h.val _ (atC_mem h (List.mem_range.mp hi)).1).1
theorem board_len (R : List Code) (D : Nat) : (boardC R D).length = 2 ^ D := by
  unfold boardC
  rw [List.length_map, List.length_range]

end
section
theorem Cov.lift {R : List Code} {D N : Nat} (h : Cov R D) (hN : D ≤ N) : Cov R N := by
  have key : ∀ m, m < 2 ^ N → ∀ c ∈ R, (inB N m c = true ↔ inB D (m / 2 ^ (N - D)) c = true) := fun m _ c hc => by
    have hv := (h.val c hc).2
    rw [inB_iff, inB_iff, Nat.div_div_eq_div_mul, ← Nat.pow_add, show N - D + (D - c.1) = N - c.1 by omega]
    exact ⟨fun z => ⟨hv, z.2⟩, fun z => ⟨by omega, z.2⟩⟩
  have hlt : ∀ m, m < 2 ^ N → m / 2 ^ (N - D) < 2 ^ D := fun m hm => by
    rw [Nat.div_lt_iff_lt_mul (Nat.two_pow_pos _), ← Nat.pow_add, show D + (N - D) = N by omega]
    exact hm
  refine ⟨fun c hc => ⟨(h.val c hc).1, Nat.le_trans (h.val c hc).2 hN⟩, fun m hm => ?_, fun m hm c hc d hd bc bd => ?_⟩
  · obtain ⟨c, hc, hb⟩ := h.ex _ (hlt m hm)
    exact ⟨c, hc, (key m hm c hc).mpr hb⟩
  · exact h.uq _ (hlt m hm) c hc d hd ((key m hm c hc).mp bc) ((key m hm d hd).mp bd)
theorem Cov.down {R : List Code} {D N : Nat} (h : Cov R N) (hN : D ≤ N) (hl : ∀ c ∈ R, c.1 ≤ D) : Cov R D := by
  have key : ∀ i, i < 2 ^ D → ∀ c ∈ R, (inB N (i * 2 ^ (N - D)) c = true ↔ inB D i c = true) := fun i _ c hc => by
    have hv := hl c hc
    rw [inB_iff, inB_iff, show N - c.1 = (N - D) + (D - c.1) by omega, Nat.pow_add, ← Nat.div_div_eq_div_mul, Nat.mul_div_cancel _ (Nat.two_pow_pos _)]
    exact ⟨fun z => ⟨hv, z.2⟩, fun z => ⟨by omega, z.2⟩⟩
  have hlt : ∀ i, i < 2 ^ D → i * 2 ^ (N - D) < 2 ^ N := fun i hi => by
    have e : 2 ^ N = 2 ^ D * 2 ^ (N - D) := by rw [← Nat.pow_add, show D + (N - D) = N by omega]
    rw [e]
    exact Nat.mul_lt_mul_of_pos_right hi (Nat.two_pow_pos _)
  refine ⟨fun c hc => ⟨(h.val c hc).1, hl c hc⟩, fun i hi => ?_, fun i hi c hc d hd bc bd => ?_⟩
  · obtain ⟨c, hc, hb⟩ := h.ex _ (hlt i hi)
    exact ⟨c, hc, (key i hi c hc).mp hb⟩
  · exact h.uq _ (hlt i hi) c hc d hd ((key i hi c hc).mpr bc) ((key i hi d hd).mpr bd)
theorem cov_one (D : Nat) : Cov [(0, 0)] D := by
  refine ⟨fun c hc => ?_, fun i hi => ⟨(0, 0), List.mem_singleton.mpr rfl, ?_⟩, fun i hi c hc d hd _ _ => ?_⟩
  · rw [List.mem_singleton.mp hc]
    exact ⟨by show 0 < 2 ^ 0; decide, Nat.zero_le _⟩
  · rw [inB_iff]
    exact ⟨Nat.zero_le _, by rw [Nat.sub_zero]; exact Nat.div_eq_of_lt hi⟩
  · rw [List.mem_singleton.mp hc, List.mem_singleton.mp hd]
theorem cov_pos {R : List Code} {D : Nat} (h : Cov R D) : 0 < R.length := by
  obtain ⟨c, hc, _⟩ := h.ex 0 (Nat.two_pow_pos D)
  exact List.length_pos_of_mem hc

/-! ### a store's rooms, by plain numbers -/
def mixN (n : Nat) : Nat := (171 * n + 37) % 256
theorem mixN_lt (n : Nat) : mixN n < 256 := Nat.mod_lt _ (by decide)
theorem mix_int (n : Nat) : (171 * (n : Int) + 37) % 256 = ((mixN n : Nat) : Int) := by
  unfold mixN
  omega
theorem mixN_inj {a b : Nat} (ha : a < 256) (hb : b < 256) (h : mixN a = mixN b) : a = b := by
  unfold mixN at h
  omega
def mx (n : Int) : Nat := mixN n.toNat
theorem mx_lt (n : Int) : mx n < 2 ^ 8 := mixN_lt _
/-- names rising, of 0 to 255 -/
structure Names (ps : List (Int × Int)) : Prop where
  up : ps.Pairwise fun a b => a.1 < b.1
  all : ∀ p ∈ ps, 0 ≤ p.1 ∧ p.1 < 256
theorem Names.sub {ps qs : List (Int × Int)} (h : Names ps) (s : qs.Sublist ps) : Names qs := ⟨h.up.sublist s, fun p hp => h.all p (s.subset hp)⟩
theorem Names.fil {ps : List (Int × Int)} (h : Names ps) (q : Int × Int → Bool) : Names (ps.filter q) := h.sub List.filter_sublist
theorem Names.len {ps : List (Int × Int)} (h : Names ps) : ps.length ≤ 256 := by
  have key : ∀ (L : List Int) (lo : Int), L.Pairwise (· < ·) → (∀ x ∈ L, lo ≤ x ∧ x < 256) → (L.length : Int) ≤ max 0 (256 - lo) := by
    intro L
    induction L with
    | nil => intro lo _ _; simp; omega
    | cons a t ih =>
      intro lo hp ha
      have h1 := List.pairwise_cons.mp hp
      have h2 := ha a List.mem_cons_self
      have := ih (a + 1) h1.2 fun x hx => ⟨by have := h1.1 x hx; omega, (ha x (List.mem_cons_of_mem _ hx)).2⟩
      rw [List.length_cons]
      omega
  have := key (ps.map (·.1)) 0 (List.pairwise_map.mpr h.up) fun x hx => by
    obtain ⟨p, hp, rfl⟩ := List.mem_map.mp hx
    exact h.all p hp
  rw [List.length_map] at this
  omega
def inn (c : Code) (p : Int × Int) : Bool := inB 8 (mx p.1) c
def thg (ps : List (Int × Int)) (c : Code) : List (Int × Int) := ps.filter (inn c)
def cnt (ps : List (Int × Int)) (c : Code) : Nat := (thg ps c).length
theorem inn_half {c : Code} (h : c.1 < 8) (p : Int × Int) : inn c p = (inn (c0 c) p || inn (c1 c) p) := by
  unfold inn
  rw [Bool.eq_iff_iff, inB_half h, Bool.or_eq_true_iff]
theorem inn_not {c : Code} (p : Int × Int) (h : inn (c0 c) p = true) : inn (c1 c) p = false := by
  cases e : inn (c1 c) p with
  | false => rfl
  | true => exact absurd ⟨h, e⟩ inB_not
theorem cnt_half {c : Code} (h : c.1 < 8) (ps : List (Int × Int)) : cnt ps c = cnt ps (c0 c) + cnt ps (c1 c) := by
  unfold cnt thg
  induction ps with
  | nil => rfl
  | cons p t ih =>
    rw [List.filter_cons, List.filter_cons, List.filter_cons, inn_half h]
    cases e0 : inn (c0 c) p with
    | true =>
      rw [inn_not p e0]
      simp only [Bool.or_false, if_true, Bool.false_eq_true, if_false, List.length_cons, ih]
      omega
    | false =>
      cases e1 : inn (c1 c) p with
      | true =>
        simp only [Bool.or_true, if_true, Bool.false_eq_true, if_false, List.length_cons, ih]
        omega
      | false =>
        simp only [Bool.or_false, Bool.false_eq_true, if_false, ih]
/-- d is c or in it -/
def Below (d c : Code) : Prop := c.1 ≤ d.1 ∧ d.2 / 2 ^ (d.1 - c.1) = c.2
theorem Below.refl (c : Code) : Below c c := ⟨Nat.le_refl _, by rw [Nat.sub_self, Nat.pow_zero, Nat.div_one]⟩
theorem Below.trans {a b c : Code} (h : Below a b) (k : Below b c) : Below a c := by
  refine ⟨Nat.le_trans k.1 h.1, ?_⟩
  rw [← k.2, ← h.2, Nat.div_div_eq_div_mul, ← Nat.pow_add]
  have h1 := h.1
  have h2 := k.1
  rw [show a.1 - b.1 + (b.1 - c.1) = a.1 - c.1 by omega]
theorem below0 (c : Code) : Below (c0 c) c := ⟨Nat.le_succ _, by show 2 * c.2 / 2 ^ (c.1 + 1 - c.1) = c.2; rw [show c.1 + 1 - c.1 = 1 by omega]; omega⟩
theorem below1 (c : Code) : Below (c1 c) c := ⟨Nat.le_succ _, by show (2 * c.2 + 1) / 2 ^ (c.1 + 1 - c.1) = c.2; rw [show c.1 + 1 - c.1 = 1 by omega]; omega⟩
theorem Below.inB {d c : Code} {D i : Nat} (h : Below d c) (k : inB D i d = true) : inB D i c = true := by
  rw [inB_iff] at k ⊢
  have h1 := h.1
  refine ⟨by omega, ?_⟩
  rw [← h.2, ← k.2, Nat.div_div_eq_div_mul, ← Nat.pow_add, show D - d.1 + (d.1 - c.1) = D - c.1 by omega]
/-- two that hold one place: one is in the other -/
theorem below_of {d c : Code} {D i : Nat} (hd : inB D i d = true) (hc : inB D i c = true) (h : c.1 ≤ d.1) : Below d c := by
  rw [inB_iff] at hd hc
  refine ⟨h, ?_⟩
  rw [← hd.2, ← hc.2, Nat.div_div_eq_div_mul, ← Nat.pow_add, show D - d.1 + (d.1 - c.1) = D - c.1 by omega]
theorem Below.eq {d c : Code} (h : Below d c) (hl : d.1 = c.1) : d = c := by
  have := h.2
  rw [hl, Nat.sub_self, Nat.pow_zero, Nat.div_one] at this
  exact Prod.ext hl this
theorem filter_len_le {α : Type} {p q : α → Bool} (h : ∀ a, p a = true → q a = true) : ∀ l : List α, (l.filter p).length ≤ (l.filter q).length
  | [] => Nat.le_refl _
  | a :: t => by
    have ih := filter_len_le h t
    rw [List.filter_cons, List.filter_cons]
    cases hp : p a with
    | true =>
      rw [h a hp]
      simp only [if_true, List.length_cons]
      omega
    | false =>
      simp only [Bool.false_eq_true, if_false]
      cases q a with
      | true =>
        simp only [if_true, List.length_cons]
        omega
      | false =>
        simp only [Bool.false_eq_true, if_false]
        exact ih
theorem Below.cnt {d c : Code} (h : Below d c) (ps : List (Int × Int)) : cnt ps d ≤ cnt ps c := filter_len_le (fun p hp => h.inB hp) ps
theorem cnt_8 {c : Code} (h : c.1 = 8) {ps : List (Int × Int)} (hn : Names ps) : cnt ps c ≤ 1 := by
  unfold cnt thg
  have hs := hn.fil (inn c)
  have hall : ∀ p ∈ ps.filter (inn c), mx p.1 = c.2 := fun p hp => by
    have := inB_iff.mp (List.mem_filter.mp hp).2
    rw [h, Nat.sub_self, Nat.pow_zero, Nat.div_one] at this
    exact this.2
  generalize ps.filter (inn c) = qs at hs hall
  match qs, hs, hall with
  | [], _, _ => exact Nat.zero_le _
  | [_], _, _ => exact Nat.le_refl _
  | a :: b :: t, hs, hall =>
    exfalso
    have h1 := hall a List.mem_cons_self
    have h2 := hall b (List.mem_cons_of_mem _ List.mem_cons_self)
    have h3 := (List.pairwise_cons.mp hs.up).1 b List.mem_cons_self
    have h4 := hs.all a List.mem_cons_self
    have h5 := hs.all b (List.mem_cons_of_mem _ List.mem_cons_self)
    have := mixN_inj (a := a.1.toNat) (b := b.1.toNat) (by omega) (by omega) (h1.trans h2.symm)
    omega
/-! #### things put and taken -/
def insT (ps : List (Int × Int)) (n v : Int) : List (Int × Int) := ps.filter (fun p => decide (p.1 < n)) ++ (n, v) :: ps.filter (fun p => decide (n < p.1))
def delT (ps : List (Int × Int)) (n : Int) : List (Int × Int) := ps.filter fun p => decide (p.1 ≠ n)
def valT (ps : List (Int × Int)) (n : Int) : Option Int := (ps.find? fun p => decide (p.1 = n)).map (·.2)
theorem two_halves {ps : List (Int × Int)} (hn : ps.Pairwise fun a b => a.1 < b.1) (n : Int) (h : ∀ p ∈ ps, p.1 ≠ n) : ps.filter (fun p => decide (p.1 < n)) ++ ps.filter (fun p => decide (n < p.1)) = ps := by
  induction ps with
  | nil => rfl
  | cons p t ih =>
    have h1 := List.pairwise_cons.mp hn
    have h2 := h p List.mem_cons_self
    have ih := ih h1.2 fun q hq => h q (List.mem_cons_of_mem _ hq)
    rw [List.filter_cons, List.filter_cons]
    by_cases e : p.1 < n
    · rw [decide_eq_true e, decide_eq_false (by omega : ¬ n < p.1)]
      simp only [if_true, Bool.false_eq_true, if_false, List.cons_append, ih]
    · have e2 : n < p.1 := by omega
      rw [decide_eq_false e, decide_eq_true e2]
      have hz : t.filter (fun p => decide (p.1 < n)) = [] := List.filter_eq_nil_iff.mpr fun q hq => by
        have := h1.1 q hq
        rw [decide_eq_true_iff]
        omega
      have ha : t.filter (fun p => decide (n < p.1)) = t := List.filter_eq_self.mpr fun q hq => by
        have := h1.1 q hq
        rw [decide_eq_true_iff]
        omega
      rw [hz, ha]
      rfl
theorem Names.ins {ps : List (Int × Int)} (h : Names ps) {n : Int} (v : Int) (h0 : 0 ≤ n) (h1 : n < 256) : Names (insT ps n v) := by
  refine ⟨?_, fun p hp => ?_⟩
  · unfold insT
    rw [List.pairwise_append]
    refine ⟨h.up.sublist List.filter_sublist, List.pairwise_cons.mpr ⟨fun q hq => ?_, h.up.sublist List.filter_sublist⟩, fun a ha b hb => ?_⟩
    · have := (List.mem_filter.mp hq).2
      exact of_decide_eq_true this
    · have ha := of_decide_eq_true (List.mem_filter.mp ha).2
      rcases List.mem_cons.mp hb with e | e
      · rw [e]
        exact ha
      · have := of_decide_eq_true (List.mem_filter.mp e).2
        omega
  · unfold insT at hp
    rcases List.mem_append.mp hp with e | e
    · exact h.all p (List.mem_filter.mp e).1
    · rcases List.mem_cons.mp e with e | e
      · rw [e]
        exact ⟨h0, h1⟩
      · exact h.all p (List.mem_filter.mp e).1
theorem fil_comm {α : Type} (p q : α → Bool) (l : List α) : (l.filter p).filter q = (l.filter q).filter p := by
  rw [List.filter_filter, List.filter_filter]
  exact List.filter_congr fun a _ => Bool.and_comm _ _
theorem thg_ins {ps : List (Int × Int)} (h : Names ps) (n v : Int) (c : Code) : thg (insT ps n v) c = if inB 8 (mx n) c = true then insT (thg ps c) n v else thg ps c := by
  unfold thg insT
  rw [List.filter_append, List.filter_cons]
  show _ ++ (if inB 8 (mx n) c = true then _ else _) = _
  by_cases e : inB 8 (mx n) c = true
  · rw [if_pos e, if_pos e, fil_comm (fun p : Int × Int => decide (p.1 < n)) (inn c), fil_comm (fun p : Int × Int => decide (n < p.1)) (inn c)]
  · rw [if_neg e, if_neg e, fil_comm (fun p : Int × Int => decide (p.1 < n)) (inn c), fil_comm (fun p : Int × Int => decide (n < p.1)) (inn c)]
    refine two_halves (h.fil (inn c)).up n fun p hp z => e ?_
    have := (List.mem_filter.mp hp).2
    rw [← z]
    exact this
theorem thg_del (ps : List (Int × Int)) (n : Int) (c : Code) : thg (delT ps n) c = delT (thg ps c) n := fil_comm _ _ _
theorem ins_len {ps : List (Int × Int)} (h : ps.Pairwise fun a b => a.1 < b.1) (n v : Int) : ps.length ≤ (insT ps n v).length ∧ (insT ps n v).length ≤ ps.length + 1 := by
  unfold insT
  induction ps with
  | nil => simp
  | cons p t ih =>
    have h1 := List.pairwise_cons.mp h
    have ih := ih h1.2
    rw [List.filter_cons, List.filter_cons]
    simp only [List.length_append, List.length_cons] at ih ⊢
    by_cases e1 : p.1 < n
    · rw [decide_eq_true e1, decide_eq_false (by omega : ¬ n < p.1)]
      simp only [if_true, Bool.false_eq_true, if_false, List.length_cons]
      omega
    · have hz : t.filter (fun p => decide (p.1 < n)) = [] := List.filter_eq_nil_iff.mpr fun q hq => by
        have := h1.1 q hq
        rw [decide_eq_true_iff]
        omega
      have ha : t.filter (fun p => decide (n < p.1)) = t := List.filter_eq_self.mpr fun q hq => by
        have := h1.1 q hq
        rw [decide_eq_true_iff]
        omega
      rw [decide_eq_false e1, hz, ha]
      by_cases e2 : n < p.1
      · rw [decide_eq_true e2]
        simp
      · rw [decide_eq_false e2]
        simp
theorem mem_ins {ps : List (Int × Int)} {n v : Int} : (n, v) ∈ insT ps n v := List.mem_append_right _ List.mem_cons_self
theorem cnt_ins {ps : List (Int × Int)} (h : Names ps) (n v : Int) (c : Code) : cnt ps c ≤ cnt (insT ps n v) c ∧ cnt (insT ps n v) c ≤ cnt ps c + 1 ∧ (inB 8 (mx n) c = false → cnt (insT ps n v) c = cnt ps c) := by
  unfold cnt
  rw [thg_ins h]
  by_cases e : inB 8 (mx n) c = true
  · rw [if_pos e]
    have := ins_len (h.fil (inn c)).up n v
    exact ⟨this.1, this.2, fun z => by rw [e] at z; cases z⟩
  · rw [if_neg e]
    exact ⟨Nat.le_refl _, Nat.le_succ _, fun _ => rfl⟩
theorem cnt_del (ps : List (Int × Int)) (n : Int) (c : Code) : cnt (delT ps n) c ≤ cnt ps c ∧ (inB 8 (mx n) c = false → cnt (delT ps n) c = cnt ps c) := by
  unfold cnt
  rw [thg_del]
  refine ⟨List.length_filter_le _ _, fun e => ?_⟩
  have he : delT (thg ps c) n = thg ps c := List.filter_eq_self.mpr fun p hp => decide_eq_true fun z => by
    have := (List.mem_filter.mp hp).2
    unfold inn at this
    rw [z, e] at this
    cases this
  rw [he]
/-! #### what the rooms are -/
structure Good (b : Nat) (R : List Code) (D : Nat) (ps : List (Int × Int)) : Prop where
  cov : Cov R 8
  nd : R.Nodup
  dep : ∀ c ∈ R, c.1 ≤ D
  top : ∃ c ∈ R, c.1 = D
  nm : Names ps
  le : ∀ c ∈ R, cnt ps c ≤ b
  gt : ∀ c ∈ R, 0 < c.1 → b < cnt ps (up c)
def roomC (R : List Code) (n : Int) : Code := atC R 8 (mx n)
theorem room_mem {R : List Code} (h : Cov R 8) (n : Int) : roomC R n ∈ R ∧ inB 8 (mx n) (roomC R n) = true := atC_mem h (mx_lt n)
theorem room_eq {R : List Code} (h : Cov R 8) {n : Int} {c : Code} (hc : c ∈ R) (hb : inB 8 (mx n) c = true) : roomC R n = c := atC_eq h (mx_lt n) hc hb
/-- while something is put: the room of n may hold one too many -/
structure PutS (b : Nat) (R : List Code) (D : Nat) (ps : List (Int × Int)) (n : Int) : Prop where
  cov : Cov R 8
  nd : R.Nodup
  dep : ∀ c ∈ R, c.1 ≤ D
  top : ∃ c ∈ R, c.1 = D
  nm : Names ps
  le : ∀ c ∈ R, c ≠ roomC R n → cnt ps c ≤ b
  le1 : cnt ps (roomC R n) ≤ b + 1
  has : ∃ p ∈ ps, p.1 = n
  gt : ∀ c ∈ R, 0 < c.1 → b < cnt ps (up c)
theorem Good.put {b : Nat} {R : List Code} {D : Nat} {ps : List (Int × Int)} (h : Good b R D ps) {n : Int} (v : Int) (h0 : 0 ≤ n) (h1 : n < 256) : PutS b R D (insT ps n v) n := by
  refine ⟨h.cov, h.nd, h.dep, h.top, h.nm.ins v h0 h1, fun c hc hne => ?_, ?_, ⟨_, mem_ins, rfl⟩, fun c hc hl => Nat.lt_of_lt_of_le (h.gt c hc hl) (cnt_ins h.nm n v _).1⟩
  · rw [(cnt_ins h.nm n v c).2.2 ?_]
    · exact h.le c hc
    · cases e : inB 8 (mx n) c with
      | false => rfl
      | true => exact absurd (room_eq h.cov hc e).symm hne
  · exact Nat.le_trans (cnt_ins h.nm n v _).2.1 (Nat.succ_le_succ (h.le _ (room_mem h.cov n).1))
theorem PutS.done {b : Nat} {R : List Code} {D : Nat} {ps : List (Int × Int)} {n : Int} (h : PutS b R D ps n) (hb : cnt ps (roomC R n) ≤ b) : Good b R D ps :=
  ⟨h.cov, h.nd, h.dep, h.top, h.nm, fun c hc => by
    by_cases e : c = roomC R n
    · rw [e]
      exact hb
    · exact h.le c hc e, h.gt⟩
theorem part_nd {R : List Code} {c : Code} {D : Nat} (h : Cov R D) (nd : R.Nodup) (hc : c ∈ R) (hl : c.1 < D) : (partR R c).Nodup := by
  unfold partR
  have key : ∀ d ∈ R, d = c0 c ∨ d = c1 c → False := fun d hd e => by
    -- d is in c, both in R
    have hdv := h.val d hd
    have hi : d.2 * 2 ^ (D - d.1) < 2 ^ D := by
      have := blk_end hdv.1 hdv.2
      have := Nat.two_pow_pos (D - d.1)
      omega
    have hb : inB D (d.2 * 2 ^ (D - d.1)) d = true := inB_iff.mpr ⟨hdv.2, Nat.mul_div_cancel _ (Nat.two_pow_pos _)⟩
    have hbc : inB D (d.2 * 2 ^ (D - d.1)) c = true := (e.elim (fun e => e ▸ below0 c) (fun e => e ▸ below1 c) : Below d c).inB hb
    have e2 := h.uq _ hi d hd c hc hb hbc
    have e3 : d.1 = c.1 + 1 := e.elim (fun e => by rw [e]; rfl) (fun e => by rw [e]; rfl)
    rw [e2] at e3
    omega
  rw [List.nodup_append]
  refine ⟨nd.filter _, ?_, fun a ha d hd e => ?_⟩
  · rw [List.nodup_cons]
    exact ⟨fun z => c01 c (List.mem_singleton.mp z), (by simp)⟩
  · subst e
    refine key a (List.mem_filter.mp ha).1 ?_
    rcases List.mem_cons.mp hd with e | e
    · exact .inl e
    · exact .inr (List.mem_singleton.mp e)
theorem join_nd {R : List Code} {c : Code} {D : Nat} (h : Cov R D) (nd : R.Nodup) (h0 : c0 c ∈ R) : (joinR R c).Nodup := by
  unfold joinR
  have hl := (h.val _ h0).2
  have hv := (h.val _ h0).1
  rw [List.nodup_append]
  refine ⟨nd.filter _, (by simp), fun a ha d hd e => ?_⟩
  subst e
  have hac := List.mem_singleton.mp hd
  have haR := (List.mem_filter.mp ha).1
  have hi : (c0 c).2 * 2 ^ (D - (c0 c).1) < 2 ^ D := by
    have := blk_end hv hl
    have := Nat.two_pow_pos (D - (c0 c).1)
    omega
  have hb : inB D ((c0 c).2 * 2 ^ (D - (c0 c).1)) (c0 c) = true := inB_iff.mpr ⟨hl, Nat.mul_div_cancel _ (Nat.two_pow_pos _)⟩
  have hbc : inB D ((c0 c).2 * 2 ^ (D - (c0 c).1)) a = true := hac ▸ (below0 c).inB hb
  have e2 := h.uq _ hi _ haR _ h0 hbc hb
  have : a.1 = c.1 + 1 := by rw [e2]; rfl
  rw [hac] at this
  omega
theorem PutS.part {b : Nat} {R : List Code} {D : Nat} {ps : List (Int × Int)} {n : Int} (hb : 1 ≤ b) (h : PutS b R D ps n) (hg : b < cnt ps (roomC R n)) : (roomC R n).1 < 8 ∧ PutS b (partR R (roomC R n)) (if (roomC R n).1 = D then D + 1 else D) ps n ∧ (roomC R n).1 < (roomC (partR R (roomC R n)) n).1 := by
  obtain ⟨hc, hin⟩ := room_mem h.cov n
  have hle1 := h.le1
  have hgt := h.gt
  have hle := h.le
  generalize hcd : roomC R n = c at *
  have hv := h.cov.val c hc
  have h8 : c.1 < 8 := by
    rcases Nat.lt_or_ge c.1 8 with z | z
    · exact z
    · have := cnt_8 (c := c) (by omega) h.nm
      omega
  have hcov := h.cov.part hc h8
  have hroom := room_mem hcov n
  have hbl : roomC (partR R c) n = c0 c ∨ roomC (partR R c) n = c1 c := by
    rcases (inB_half h8).mp hin with z | z
    · exact .inl (room_eq hcov (mem_part.mpr (.inr (.inl rfl))) z)
    · exact .inr (room_eq hcov (mem_part.mpr (.inr (.inr rfl))) z)
  have hcn : cnt ps c = b + 1 := by omega
  have hsum := cnt_half h8 ps
  have hone : 1 ≤ cnt ps (roomC (partR R c) n) := by
    obtain ⟨p, hp, e⟩ := h.has
    refine List.length_pos_of_mem (a := p) (List.mem_filter.mpr ⟨hp, ?_⟩)
    show inB 8 (mx p.1) _ = true
    rw [e]
    exact hroom.2
  refine ⟨h8, ⟨hcov, part_nd h.cov h.nd hc h8, fun d hd => ?_, ?_, h.nm, fun d hd hne => ?_, ?_, h.has, fun d hd hl => ?_⟩, ?_⟩
  · rcases mem_part.mp hd with ⟨z, _⟩ | z | z
    · have := h.dep d z
      split <;> omega
    · have := h.dep c hc
      rw [z]
      show c.1 + 1 ≤ _
      split <;> omega
    · have := h.dep c hc
      rw [z]
      show c.1 + 1 ≤ _
      split <;> omega
  · by_cases e : c.1 = D
    · rw [if_pos e]
      exact ⟨c0 c, mem_part.mpr (.inr (.inl rfl)), by show c.1 + 1 = _; rw [e]⟩
    · rw [if_neg e]
      obtain ⟨d, hd, hdD⟩ := h.top
      exact ⟨d, mem_part.mpr (.inl ⟨hd, fun z => e (by rw [← z]; exact hdD)⟩), hdD⟩
  · rcases mem_part.mp hd with ⟨z, z2⟩ | z | z
    · exact hle d z z2
    · rcases hbl with y | y
      · exact absurd (z.trans y.symm) hne
      · rw [y] at hone
        rw [z]
        omega
    · rcases hbl with y | y
      · rw [y] at hone
        rw [z]
        omega
      · exact absurd (z.trans y.symm) hne
  · rcases hbl with y | y <;> rw [y] <;> omega
  · rcases mem_part.mp hd with ⟨z, _⟩ | z | z
    · exact hgt d z hl
    · rw [z, up0]
      exact hg
    · rw [z, up1]
      exact hg
  · rcases hbl with y | y <;> rw [y]
    · show c.1 < c.1 + 1
      omega
    · show c.1 < c.1 + 1
      omega
/-- while something is taken: rooms about n may be too small -/
structure TakeS (b : Nat) (R : List Code) (D : Nat) (ps : List (Int × Int)) (n : Int) : Prop where
  cov : Cov R 8
  nd : R.Nodup
  dep : ∀ c ∈ R, c.1 ≤ D
  d8 : D ≤ 8
  nm : Names ps
  le : ∀ c ∈ R, cnt ps c ≤ b
  gt : ∀ c ∈ R, 0 < c.1 → inB 8 (mx n) (up c) = false → b < cnt ps (up c)
theorem Good.d8 {b : Nat} {R : List Code} {D : Nat} {ps : List (Int × Int)} (h : Good b R D ps) : D ≤ 8 := by
  obtain ⟨c, hc, e⟩ := h.top
  rw [← e]
  exact (h.cov.val c hc).2
theorem PutS.d8 {b : Nat} {R : List Code} {D : Nat} {ps : List (Int × Int)} {n : Int} (h : PutS b R D ps n) : D ≤ 8 := by
  obtain ⟨c, hc, e⟩ := h.top
  rw [← e]
  exact (h.cov.val c hc).2
theorem Good.take {b : Nat} {R : List Code} {D : Nat} {ps : List (Int × Int)} (h : Good b R D ps) (n : Int) : TakeS b R D (delT ps n) n :=
  ⟨h.cov, h.nd, h.dep, h.d8, h.nm.fil _, fun c hc => Nat.le_trans (cnt_del ps n c).1 (h.le c hc), fun c hc hl hi => by
    rw [(cnt_del ps n (up c)).2 hi]
    exact h.gt c hc hl⟩
theorem up_in {c : Code} {i : Nat} (hl : 0 < c.1) (h : inB 8 i c = true) : inB 8 i (up c) = true := by
  have hb : Below c (up c) := ⟨Nat.sub_le _ _, by show c.2 / 2 ^ (c.1 - (c.1 - 1)) = c.2 / 2; rw [show c.1 - (c.1 - 1) = 1 by omega]⟩
  exact hb.inB h
theorem child_of {c : Code} (hl : 0 < c.1) : c = c0 (up c) ∨ c = c1 (up c) := by
  rcases Nat.mod_two_eq_zero_or_one c.2 with e | e
  · refine .inl (Prod.ext ?_ ?_)
    · show c.1 = c.1 - 1 + 1
      omega
    · show c.2 = 2 * (c.2 / 2)
      omega
  · refine .inr (Prod.ext ?_ ?_)
    · show c.1 = c.1 - 1 + 1
      omega
    · show c.2 = 2 * (c.2 / 2) + 1
      omega
theorem TakeS.join {b : Nat} {R : List Code} {D : Nat} {ps : List (Int × Int)} {n : Int} (h : TakeS b R D ps n) (hl : 0 < (roomC R n).1) (h0 : c0 (up (roomC R n)) ∈ R) (h1 : c1 (up (roomC R n)) ∈ R) (hs : cnt ps (c0 (up (roomC R n))) + cnt ps (c1 (up (roomC R n))) ≤ b) :
    TakeS b (joinR R (up (roomC R n))) D ps n ∧ roomC (joinR R (up (roomC R n))) n = up (roomC R n) := by
  obtain ⟨hc, hin⟩ := room_mem h.cov n
  generalize roomC R n = c at *
  have hv := h.cov.val c hc
  have hcov := h.cov.join (cvu hv.1 hl) h0 h1
  have h8 : (up c).1 < 8 := by show c.1 - 1 < 8; omega
  have hroom : roomC (joinR R (up c)) n = up c := room_eq hcov (mem_join.mpr (.inr rfl)) (up_in hl hin)
  refine ⟨⟨hcov, join_nd h.cov h.nd h0, fun d hd => ?_, h.d8, h.nm, fun d hd => ?_, fun d hd hdl hi => ?_⟩, hroom⟩
  · rcases mem_join.mp hd with ⟨z, _⟩ | z
    · exact h.dep d z
    · have := h.dep c hc
      rw [z]
      show c.1 - 1 ≤ D
      omega
  · rcases mem_join.mp hd with ⟨z, _⟩ | z
    · exact h.le d z
    · rw [z, cnt_half h8]
      exact hs
  · rcases mem_join.mp hd with ⟨z, _⟩ | z
    · exact h.gt d z hdl hi
    · exfalso
      rw [z] at hi hdl
      rw [up_in hdl (up_in hl hin)] at hi
      cases hi
/-- nothing more to join -/
theorem TakeS.done {b : Nat} {R : List Code} {D : Nat} {ps : List (Int × Int)} {n : Int} (h : TakeS b R D ps n) (hno : ¬ (0 < (roomC R n).1 ∧ c0 (up (roomC R n)) ∈ R ∧ c1 (up (roomC R n)) ∈ R ∧ cnt ps (c0 (up (roomC R n))) + cnt ps (c1 (up (roomC R n))) ≤ b)) :
    ∀ c ∈ R, 0 < c.1 → b < cnt ps (up c) := by
  obtain ⟨hc, hin⟩ := room_mem h.cov n
  generalize roomC R n = c at *
  have hv := h.cov.val c hc
  intro d hd hdl
  cases hi : inB 8 (mx n) (up d) with
  | false => exact h.gt d hd hdl hi
  | true =>
    have hdv := h.cov.val d hd
    -- the first place of d
    have hpl : d.2 * 2 ^ (8 - d.1) < 2 ^ 8 := by
      have := blk_end hdv.1 hdv.2
      have := Nat.two_pow_pos (8 - d.1)
      omega
    have hpb : inB 8 (d.2 * 2 ^ (8 - d.1)) d = true := inB_iff.mpr ⟨hdv.2, Nat.mul_div_cancel _ (Nat.two_pow_pos _)⟩
    -- up d is above c: else d and c are one in the other
    have hcd : (up d).1 < c.1 := by
      rcases Nat.lt_or_ge (up d).1 c.1 with z | z
      · exact z
      · exfalso
        have hb := below_of hi hin z
        have e := h.cov.uq _ hpl d hd c hc hpb (hb.inB (up_in hdl hpb))
        rw [e] at z
        have : (up c).1 = c.1 - 1 := rfl
        have : 0 < c.1 := e ▸ hdl
        omega
    have hcl : 0 < c.1 := by omega
    have hup : Below (up c) (up d) := below_of (up_in hcl hin) hi (by show (up d).1 ≤ c.1 - 1; omega)
    refine Nat.lt_of_lt_of_le ?_ (hup.cnt ps)
    have h8 : (up c).1 < 8 := by show c.1 - 1 < 8; have := hv.2; omega
    -- a half that is no room has been parted
    have parted : ∀ s, (s = c0 (up c) ∨ s = c1 (up c)) → s ∉ R → b < cnt ps (up c) := fun s hs hsR => by
      have hsl : s.1 = c.1 := by
        have : (up c).1 + 1 = c.1 := by show c.1 - 1 + 1 = c.1; omega
        rcases hs with e | e <;> rw [e] <;> exact this
      have hsv : Cv s := by
        rcases hs with e | e <;> rw [e]
        · exact cv0 (cvu hv.1 hcl)
        · exact cv1 (cvu hv.1 hcl)
      have hsu : Below s (up c) := by
        rcases hs with e | e <;> rw [e]
        · exact below0 _
        · exact below1 _
      have hs8 : s.1 ≤ 8 := by rw [hsl]; exact hv.2
      have hsi : s.2 * 2 ^ (8 - s.1) < 2 ^ 8 := by
        have := blk_end hsv hs8
        have := Nat.two_pow_pos (8 - s.1)
        omega
      have hsb : inB 8 (s.2 * 2 ^ (8 - s.1)) s = true := inB_iff.mpr ⟨hs8, Nat.mul_div_cancel _ (Nat.two_pow_pos _)⟩
      obtain ⟨r, hr, hrb⟩ := h.cov.ex _ hsi
      -- r is strictly in s
      have hrs : s.1 < r.1 := by
        rcases Nat.lt_or_ge s.1 r.1 with z | z
        · exact z
        · exfalso
          have hb := below_of hsb hrb z
          rcases Nat.lt_or_ge r.1 s.1 with y | y
          · -- then r holds the place of n too, and is c
            have hru : Below (up c) r := by
              have q := below_of (hsu.inB hsb) hrb (by show r.1 ≤ c.1 - 1; omega)
              exact q
            have e := h.cov.uq _ (mx_lt n) r hr c hc (hru.inB (up_in hcl hin)) hin
            rw [e, hsl] at y
            omega
          · exact hsR ((hb.eq (by omega)).symm ▸ hr)
      have hur : Below (up r) s := below_of (up_in (by omega) hrb) hsb (by show s.1 ≤ r.1 - 1; omega)
      have hnot : inB 8 (mx n) (up r) = false := by
        cases z : inB 8 (mx n) (up r) with
        | false => rfl
        | true =>
          exfalso
          -- s would hold n, as c does
          have hsn := hur.inB z
          have e : s = c := (below_of hsn hin (by omega)).eq hsl
          exact hsR (e ▸ hc)
      exact Nat.lt_of_lt_of_le (h.gt r hr (by omega) hnot) (Nat.le_trans (hur.cnt ps) (hsu.cnt ps))
    rcases Nat.lt_or_ge b (cnt ps (up c)) with z | z
    · exact z
    · by_cases g0 : c0 (up c) ∈ R
      · by_cases g1 : c1 (up c) ∈ R
        · exact absurd ⟨hcl, g0, g1, by rw [← cnt_half h8]; exact z⟩ hno
        · exact parted _ (.inr rfl) g1
      · exact parted _ (.inl rfl) g0
/-! #### boards doubled and halved -/
theorem atC_down {R : List Code} {D m : Nat} (h : Cov R 8) (hD : D ≤ 8) (hl : ∀ c ∈ R, c.1 ≤ D) (hm : m < 2 ^ 8) : atC R D (m / 2 ^ (8 - D)) = atC R 8 m := by
  have h' := h.down hD hl
  have hi : m / 2 ^ (8 - D) < 2 ^ D := by
    rw [Nat.div_lt_iff_lt_mul (Nat.two_pow_pos _), ← Nat.pow_add, show D + (8 - D) = 8 by omega]
    exact hm
  obtain ⟨hc, hb⟩ := atC_mem h hm
  refine atC_eq h' hi hc ?_
  rw [inB_iff] at hb ⊢
  have := hl _ hc
  refine ⟨this, ?_⟩
  rw [Nat.div_div_eq_div_mul, ← Nat.pow_add, show 8 - D + (D - (atC R 8 m).1) = 8 - (atC R 8 m).1 by omega]
  exact hb.2
theorem atC_up {R : List Code} {D i : Nat} (h : Cov R D) (hi : i < 2 ^ (D + 1)) : atC R (D + 1) i = atC R D (i / 2) := by
  have h2 : i / 2 < 2 ^ D := by rw [Nat.pow_succ] at hi; omega
  obtain ⟨hc, hb⟩ := atC_mem h h2
  refine atC_eq (h.lift (Nat.le_succ D)) hi hc ?_
  rw [inB_iff] at hb ⊢
  refine ⟨by omega, ?_⟩
  rw [show D + 1 - (atC R D (i / 2)).1 = 1 + (D - (atC R D (i / 2)).1) by omega, Nat.pow_add, ← Nat.div_div_eq_div_mul]
  exact hb.2

end
section
open PyProof.Rows PySem.Spec
/-! ### the rooms in order -/
def cano (b : Nat) (ps : List (Int × Int)) : Nat → Code → List Code
  | 0, c => [c]
  | f + 1, c => if cnt ps c ≤ b then [c] else cano b ps f (c0 c) ++ cano b ps f (c1 c)
def canon (b : Nat) (ps : List (Int × Int)) : List Code := cano b ps 8 (0, 0)
theorem cano_mem {b : Nat} {ps : List (Int × Int)} {f : Nat} {c d : Code} (h : d ∈ cano b ps (f + 1) c) : (cnt ps c ≤ b ∧ d = c) ∨ (b < cnt ps c ∧ (d ∈ cano b ps f (c0 c) ∨ d ∈ cano b ps f (c1 c))) := by
  rw [cano] at h
  by_cases e : cnt ps c ≤ b
  · rw [if_pos e] at h
    exact .inl ⟨e, List.mem_singleton.mp h⟩
  · rw [if_neg e] at h
    exact .inr ⟨by omega, List.mem_append.mp h⟩
theorem cano_below {b : Nat} {ps : List (Int × Int)} : ∀ {f : Nat} {c d : Code}, d ∈ cano b ps f c → Below d c
  | 0, c, d, h => by
    rw [List.mem_singleton.mp h]
    exact Below.refl c
  | f + 1, c, d, h => by
    rcases cano_mem h with ⟨_, rfl⟩ | ⟨_, h | h⟩
    · exact Below.refl d
    · exact (cano_below h).trans (below0 c)
    · exact (cano_below h).trans (below1 c)
theorem cano_val {b : Nat} {ps : List (Int × Int)} : ∀ {f : Nat} {c d : Code}, Cv c → c.1 + f = 8 → d ∈ cano b ps f c → Cv d ∧ d.1 ≤ 8
  | 0, c, d, hv, hf, h => by
    rw [List.mem_singleton.mp h]
    exact ⟨hv, by omega⟩
  | f + 1, c, d, hv, hf, h => by
    rcases cano_mem h with ⟨_, rfl⟩ | ⟨_, h | h⟩
    · exact ⟨hv, by omega⟩
    · exact cano_val (cv0 hv) (by show c.1 + 1 + f = 8; omega) h
    · exact cano_val (cv1 hv) (by show c.1 + 1 + f = 8; omega) h
theorem cano_ex {b : Nat} {ps : List (Int × Int)} {m : Nat} : ∀ {f : Nat} {c : Code}, c.1 + f = 8 → inB 8 m c = true → ∃ d ∈ cano b ps f c, inB 8 m d = true
  | 0, c, _, h => ⟨c, List.mem_singleton.mpr rfl, h⟩
  | f + 1, c, hf, h => by
    rw [cano]
    by_cases e : cnt ps c ≤ b
    · rw [if_pos e]
      exact ⟨c, List.mem_singleton.mpr rfl, h⟩
    · rw [if_neg e]
      rcases (inB_half (by omega)).mp h with z | z
      · obtain ⟨d, hd, hb⟩ := cano_ex (b := b) (ps := ps) (f := f) (by show c.1 + 1 + f = 8; omega) z
        exact ⟨d, List.mem_append_left _ hd, hb⟩
      · obtain ⟨d, hd, hb⟩ := cano_ex (b := b) (ps := ps) (f := f) (by show c.1 + 1 + f = 8; omega) z
        exact ⟨d, List.mem_append_right _ hd, hb⟩
theorem cano_le {b : Nat} (hb : 1 ≤ b) {ps : List (Int × Int)} (hn : Names ps) : ∀ {f : Nat} {c d : Code}, c.1 + f = 8 → d ∈ cano b ps f c → cnt ps d ≤ b
  | 0, c, d, hf, h => by
    rw [List.mem_singleton.mp h]
    exact Nat.le_trans (cnt_8 (by omega) hn) hb
  | f + 1, c, d, hf, h => by
    rcases cano_mem h with ⟨e, rfl⟩ | ⟨_, h | h⟩
    · exact e
    · exact cano_le hb hn (by show c.1 + 1 + f = 8; omega) h
    · exact cano_le hb hn (by show c.1 + 1 + f = 8; omega) h
theorem cano_gt {b : Nat} {ps : List (Int × Int)} : ∀ {f : Nat} {c d : Code}, d ∈ cano b ps f c → d = c ∨ b < cnt ps (up d)
  | 0, c, d, h => .inl (List.mem_singleton.mp h)
  | f + 1, c, d, h => by
    rcases cano_mem h with ⟨_, rfl⟩ | ⟨e, h | h⟩
    · exact .inl rfl
    · rcases cano_gt h with z | z
      · rw [z, up0]
        exact .inr e
      · exact .inr z
    · rcases cano_gt h with z | z
      · rw [z, up1]
        exact .inr e
      · exact .inr z
theorem bl_below {d c : Code} (h : Below d c) : ∃ r, bl d.1 d.2 = bl c.1 c.2 ++ r := by
  refine ⟨(bl d.1 d.2).drop c.1, ?_⟩
  have := bl_take d.2 h.1
  rw [h.2] at this
  rw [← this, List.take_append_drop]
theorem bl_0 (c : Code) : bl (c0 c).1 (c0 c).2 = bl c.1 c.2 ++ [48] := by
  show bl (c.1 + 1) (2 * c.2) = _
  rw [bl_snoc, show 2 * c.2 / 2 = c.2 by omega, show 48 + 2 * c.2 % 2 = 48 by omega]
theorem bl_1 (c : Code) : bl (c1 c).1 (c1 c).2 = bl c.1 c.2 ++ [49] := by
  show bl (c.1 + 1) (2 * c.2 + 1) = _
  rw [bl_snoc, show (2 * c.2 + 1) / 2 = c.2 by omega, show 48 + (2 * c.2 + 1) % 2 = 49 by omega]
theorem lt_pre : ∀ (p r s : List Nat), p ++ ([48] ++ r) < p ++ ([49] ++ s)
  | [], r, s => List.Lex.rel (by decide)
  | a :: p, r, s => List.Lex.cons (lt_pre p r s)
def CLt (x y : Code) : Prop := bl x.1 x.2 < bl y.1 y.2
theorem cano_up {b : Nat} {ps : List (Int × Int)} : ∀ {f : Nat} {c : Code}, (cano b ps f c).Pairwise CLt
  | 0, c => List.pairwise_singleton _ _
  | f + 1, c => by
    rw [cano]
    by_cases e : cnt ps c ≤ b
    · rw [if_pos e]
      exact List.pairwise_singleton _ _
    · rw [if_neg e, List.pairwise_append]
      refine ⟨cano_up, cano_up, fun x hx y hy => ?_⟩
      obtain ⟨r, hr⟩ := bl_below (cano_below hx)
      obtain ⟨s, hs⟩ := bl_below (cano_below hy)
      show bl x.1 x.2 < bl y.1 y.2
      rw [hr, hs, bl_0, bl_1, List.append_assoc, List.append_assoc]
      exact lt_pre _ _ _
theorem clt_irr {x : Code} (h : CLt x x) : False := List.lt_irrefl _ h
theorem canon_nd {b : Nat} {ps : List (Int × Int)} : (canon b ps).Nodup := List.Pairwise.imp (S := fun a b => a ≠ b) (fun {x y} h e => by rw [e] at h; exact clt_irr h) cano_up
theorem inB_root {m : Nat} (h : m < 2 ^ 8) : inB 8 m (0, 0) = true := inB_iff.mpr ⟨Nat.zero_le _, Nat.div_eq_of_lt h⟩
theorem first_in {c : Code} (hv : Cv c) (h8 : c.1 ≤ 8) : c.2 * 2 ^ (8 - c.1) < 2 ^ 8 ∧ inB 8 (c.2 * 2 ^ (8 - c.1)) c = true := by
  have := blk_end hv h8
  have := Nat.two_pow_pos (8 - c.1)
  exact ⟨by omega, inB_iff.mpr ⟨h8, Nat.mul_div_cancel _ (Nat.two_pow_pos _)⟩⟩
theorem below_up {d c : Code} (h : Below d c) (hl : c.1 < d.1) : Below (up d) c := by
  refine ⟨by show c.1 ≤ d.1 - 1; omega, ?_⟩
  show d.2 / 2 / 2 ^ (d.1 - 1 - c.1) = c.2
  rw [Nat.div_div_eq_div_mul, ← h.2, show d.1 - c.1 = 1 + (d.1 - 1 - c.1) by omega, Nat.pow_add]
/-- two rooms of one place, each within the bound, each one's half beyond it: the same -/
theorem same_room {b : Nat} {ps : List (Int × Int)} {m : Nat} {c d : Code} (hc : inB 8 m c = true) (hd : inB 8 m d = true) (lc : cnt ps c ≤ b) (ld : cnt ps d ≤ b) (gc : 0 < c.1 → b < cnt ps (up c)) (gd : 0 < d.1 → b < cnt ps (up d)) : c = d := by
  rcases Nat.lt_trichotomy c.1 d.1 with z | z | z
  · have := (below_up (below_of hd hc (by omega)) z).cnt ps
    have := gd (by omega)
    omega
  · exact (below_of hc hd (by omega)).eq z
  · have := (below_up (below_of hc hd (by omega)) z).cnt ps
    have := gc (by omega)
    omega
theorem root_cv : Cv (0, 0) := by show 0 < 2 ^ 0; decide
theorem Good.mem {b : Nat} (hb : 1 ≤ b) {R : List Code} {D : Nat} {ps : List (Int × Int)} (h : Good b R D ps) (c : Code) : c ∈ R ↔ c ∈ canon b ps := by
  have gcan : ∀ d ∈ canon b ps, 0 < d.1 → b < cnt ps (up d) := fun d hd hl => (cano_gt hd).elim (fun e => by rw [e] at hl; exact absurd hl (Nat.lt_irrefl 0)) id
  constructor
  · intro hc
    have hv := h.cov.val c hc
    obtain ⟨h1, h2⟩ := first_in hv.1 hv.2
    obtain ⟨d, hd, hdb⟩ := cano_ex (b := b) (ps := ps) (f := 8) (c := (0, 0)) rfl (inB_root h1)
    have : c = d := same_room h2 hdb (h.le c hc) (cano_le hb h.nm rfl hd) (h.gt c hc) (gcan d hd)
    rw [this]
    exact hd
  · intro hc
    have hv := cano_val (b := b) (ps := ps) (f := 8) (c := (0, 0)) root_cv rfl hc
    obtain ⟨h1, h2⟩ := first_in hv.1 hv.2
    obtain ⟨d, hd, hdb⟩ := h.cov.ex _ h1
    have : c = d := same_room h2 hdb (cano_le hb h.nm rfl hc) (h.le d hd) (gcan c hc) (h.gt d hd)
    rw [this]
    exact hd
theorem Good.perm {b : Nat} (hb : 1 ≤ b) {R : List Code} {D : Nat} {ps : List (Int × Int)} (h : Good b R D ps) : R.Perm (canon b ps) := (List.perm_ext_iff_of_nodup h.nd canon_nd).mpr (h.mem hb)
theorem canon_val {b : Nat} {ps : List (Int × Int)} {c : Code} (h : c ∈ canon b ps) : Cv c ∧ c.1 ≤ 8 := cano_val root_cv rfl h
theorem rising_pw : ∀ (p : Str) (ss : List Str), risingS p ss = true → (p :: ss).Pairwise fun a b => ¬ b.cps.toList < a.cps.toList
  | p, [], _ => List.pairwise_singleton _ _
  | p, x :: r, h => by
    obtain ⟨h1, h2⟩ := Bool.and_eq_true_iff.mp (show (!ltCps x.cps.toList p.cps.toList && risingS x r) = true from h)
    have ih := rising_pw x r h2
    have hxp : ¬ x.cps.toList < p.cps.toList := by
      rw [ltCps_eq] at h1
      simpa using h1
    refine List.pairwise_cons.mpr ⟨fun y hy => ?_, ih⟩
    rcases List.mem_cons.mp hy with e | e
    · rw [e]
      exact hxp
    · have hyx := (List.pairwise_cons.mp ih).1 y e
      exact List.not_lt.mpr (List.le_trans (List.not_lt.mp hxp) (List.not_lt.mp hyx))
theorem sorted_pw {ss : List Str} (h : sortedS ss = true) : ss.Pairwise fun a b => ¬ b.cps.toList < a.cps.toList := by
  cases ss with
  | nil => exact .nil
  | cons p r => exact rising_pw p r h
theorem str_ext {a b : Str} (h : a.cps.toList = b.cps.toList) : a = b := by
  obtain ⟨x⟩ := a
  obtain ⟨y⟩ := b
  have : x = y := Array.toList_inj.mp h
  rw [this]
/-- sorted, the rooms are in order -/
theorem Good.sorted {b : Nat} (hb : 1 ≤ b) {R : List Code} {D : Nat} {ps : List (Int × Int)} (h : Good b R D ps) {ys : List Str} (hp : ys.Perm (R.map bt)) (hs : sortedS ys = true) : ys = (canon b ps).map bt := by
  have hp2 : ys.Perm ((canon b ps).map bt) := hp.trans ((h.perm hb).map bt)
  refine hp2.eq_of_pairwise (le := fun a b => ¬ b.cps.toList < a.cps.toList) (fun x y _ _ h1 h2 => ?_) (sorted_pw hs) ?_
  · exact str_ext (List.le_antisymm (List.not_lt.mp h1) (List.not_lt.mp h2))
  · refine List.pairwise_map.mpr (cano_up.imp fun {x y} hxy => ?_)
    show ¬ (bl y.1 y.2).toArray.toList < (bl x.1 x.2).toArray.toList
    exact fun z => List.lt_irrefl _ (List.lt_trans hxy z)
/-! #### all things, and how many -/
theorem flat_perm {R : List Code} (h : Cov R 8) (nd : R.Nodup) {ps : List (Int × Int)} (hn : Names ps) : (R.flatMap (thg ps)).Perm ps := by
  refine (List.perm_ext_iff_of_nodup ?_ (hn.up.imp fun h e => by rw [e] at h; omega)).mpr fun p => ?_
  · have key : ∀ L : List Code, L.Nodup → (∀ c ∈ L, c ∈ R) → (L.flatMap (thg ps)).Nodup := by
      intro L
      induction L with
      | nil => intro _ _; exact .nil
      | cons c t ih =>
        intro hd hs
        have hd := List.nodup_cons.mp hd
        rw [List.flatMap_cons, List.nodup_append]
        refine ⟨(hn.fil (inn c)).up.imp fun h e => by rw [e] at h; omega, ih hd.2 fun d hd => hs d (List.mem_cons_of_mem _ hd), fun x hx y hy e => ?_⟩
        subst e
        obtain ⟨d, hdt, hxd⟩ := List.mem_flatMap.mp hy
        have e1 := h.uq _ (mx_lt x.1) c (hs c List.mem_cons_self) d (hs d (List.mem_cons_of_mem _ hdt)) (List.mem_filter.mp hx).2 (List.mem_filter.mp hxd).2
        exact hd.1 (e1 ▸ hdt)
    exact key R nd fun c hc => hc
  · constructor
    · intro hp
      obtain ⟨c, _, hc⟩ := List.mem_flatMap.mp hp
      exact (List.mem_filter.mp hc).1
    · intro hp
      obtain ⟨c, hc, hb⟩ := h.ex _ (mx_lt p.1)
      exact List.mem_flatMap.mpr ⟨c, hc, List.mem_filter.mpr ⟨hp, hb⟩⟩
theorem sum_cnt {R : List Code} (h : Cov R 8) (nd : R.Nodup) {ps : List (Int × Int)} (hn : Names ps) : (R.map fun c => ((cnt ps c : Nat) : Int)).sum = (ps.length : Int) := by
  have := (flat_perm h nd hn).length_eq
  rw [List.length_flatMap] at this
  rw [← this]
  clear this h nd
  induction R with
  | nil => rfl
  | cons c t ih =>
    rw [List.map_cons, List.map_cons, List.sum_cons, List.sum_cons, ih]
    show ((thg ps c).length : Int) + _ = _
    omega

end
section
variable [TabCx]
/-! ### a number by twos as a text, and the signs of a name -/
def binT (n : Nat) : Str := ⟨((Nat.toDigits 2 n).map Char.toNat).toArray⟩
theorem strCast {x y : Str} {Q : Str → Prop} (h : Q y) (e : x = y) : Q x := e ▸ h
open Builtin Builtin.Float in
set_option maxHeartbeats 4000000 in
theorem gvB_gen {sp : Str} {f : FormatSpec} (hp : parseFormatSpec sp.cps.toList "int" 62 = .ok f) (hne : (sp.length == 0) = false)
    (hasc : ((sp.cps.toList.drop 1).any (· ≥ 128) || (sp.cps.getD 0 0 ≥ 128 && !([60, 62, 61, 94] : List Nat).contains (sp.cps.getD 1 0))) = false)
    (hty : f.type = some 98) (hpr : f.precision = none) (hz : f.noNeg0 = false) (hal : f.alt = false) (hw : f.width = none) (hgr : f.grouping = none) (hsg : f.sign = none) (hfl : f.fill = 32) (hag : f.align = 62)
    (n : Nat) (t u : Tok) : Gives («int.__format__» ⟨[.int (n : Int) t, .str sp u], []⟩) (.str (binT n)) := by
  intro prog w A R s hq
  have hsz : (binT n).length ≤ sizeLine := hq.1
  unfold «int.__format__»
  simp only [selfAndOne, noKeywords, Int.intOfSelf, asInt?, asStr?, List.isEmpty_nil, if_true, pure_bind, hne, hasc, Bool.false_eq_true, if_false, show (Value.str sp u == Value.none) = false from rfl]
  refine wpAny_bind (wpAny_typeNameOf (T := "str") (typeIs_str _ _ _) (by decide) fun _ => ?_)
  refine wpAny_bind (PyProof.Rows.wpAny_typeNameOfCut_int ?_)
  simp only [hp, hty, Option.getD_some]
  rw [if_pos (by decide)]
  show wpAny _ _ (if _ then _ else _) _ _ _
  rw [if_neg (by simp [hpr])]
  show wpAny _ _ (if _ then _ else _) _ _ _
  rw [if_neg (by simp [hz])]
  show wpAny _ _ (if _ then _ else _) _ _ _
  rw [if_neg (by decide)]
  show wpAny _ _ (if _ then _ else _) _ _ _
  rw [if_neg (by decide)]
  show wpAny _ _ (if _ then _ else _) _ _ _
  rw [if_neg (by simp [hw])]
  show wpAny _ _ (retStr _) _ _ _
  unfold retStr
  have hneg : decide ((n : Int) < 0) = false := decide_eq_false (by omega)
  obtain ⟨c, cs, hds⟩ : ∃ c cs, (Nat.toDigits 2 n).map Char.toNat = c :: cs := by
    cases hd : (Nat.toDigits 2 n).map Char.toNat with
    | nil => exact absurd (congrArg List.length hd) (by rw [List.length_map]; exact Nat.ne_of_gt (Nat.length_toDigits_pos))
    | cons c cs => exact ⟨c, cs, rfl⟩
  have hb : binT n = ⟨(c :: cs).toArray⟩ := by unfold binT; rw [hds]
  have hmap : (List.map (fun c => (if ((98 : Nat) == 88) = true then c.toUpper else c).toNat) (Nat.toDigits 2 ((n : Int)).natAbs)) = c :: cs := by
    rw [← hds]
    rfl
  rw [hneg, hmap, hal]
  obtain ⟨fl, al, sg, z0, alt, wd, gr, pr, ty⟩ := f
  simp only at hty hpr hz hal hw hgr hsg hfl hag
  subst hty hpr hz hal hw hgr hsg hfl hag
  refine wpAny_bind (wpAny_mkStr (wpAny_pure ?_) ?_)
  · refine strCast (Q := fun x => R (Except.ok (Flow.ret (Value.str x s.toks))) _) hq.2 ?_
    rw [hb]
    conv => lhs; whnf
    simp
    omega
  · refine strCast (Q := fun x => x.length ≤ sizeLine) hsz ?_
    rw [hb]
    conv => lhs; whnf
    simp
    omega
open Builtin Builtin.Float in
def fB : FormatSpec := { align := 62, type := some 98 }
theorem hpB : Builtin.Float.parseFormatSpec ("b" : Str).cps.toList "int" 62 = .ok fB := by kernel_rfl
theorem neB : (("b" : Str).length == 0) = false := by decide +kernel
theorem ascB : ((("b" : Str).cps.toList.drop 1).any (· ≥ 128) || (("b" : Str).cps.getD 0 0 ≥ 128 && !([60, 62, 61, 94] : List Nat).contains (("b" : Str).cps.getD 1 0))) = false := by decide +kernel
section
variable {X : Cx}
/-- {e:b} of a number not below nought -/
def tFmtB (te : TE) : TE := fun σ H Q => te σ H fun x H1 => ∃ n : Nat, x = .int (n : Int) ∧ (binT n).length ≤ sizeLine ∧ Q (.str (binT n)) H1
theorem pe_fmtB {e : Expr} {te : TE} {j : Nat} {p1 p2 pos : Pos} (he : PE X e te) : PE X (.FormattedValue e (-1) (some (.JoinedStr [.Constant (.str "b") j p1] p2)) pos) (tFmtB te) := by
  refine ⟨fun pins s σ H Q I h => ?_⟩
  refine wpAny_FormattedValue_spec (thn (he.run pins s σ H _ I h) fun v s1 hv => ?_)
  obtain ⟨x, H1, I1, r1, n, rfl, hz, q⟩ := hv
  obtain ⟨t, rfl⟩ := r1
  refine wpAny_JoinedStr_one (Calls.Constant_str ?_)
  refine ⟨_, _, rfl, ?_⟩
  refine wpAny_formatField_spec neB (fun s' => typeIs_int s' _ _) PyProof.Rows.slot_int_format PyProof.Rows.entry_int_format (PyProof.Rows.args_int_format) (fun u => gvB_gen hpB neB ascB rfl rfl rfl rfl rfl rfl rfl rfl rfl n t u) ?_ (by decide +kernel) hz
  exact ⟨.str (binT n), H1, I1.tok _, ⟨_, rfl⟩, q⟩
end
theorem zf8 : ∀ m : Nat, m < 256 → Txt.zfill (binT m) 8 = bt (8, m) := by decide +kernel
theorem binT_len : ∀ m : Nat, m < 256 → (binT m).length ≤ sizeLine := fun m h => Nat.le_trans (by revert m; decide +kernel : (binT m).length ≤ 8) (by decide)
section
variable {K : PySem.W.Frag} {σ : L2.St} {H H' : Hp} {ta te : TE} {z : V}
theorem ev_fmtB {n : Nat} (h : Ev te σ H (.int (n : Int))) (hn : n < 256) : Ev (tFmtB te) σ H (.str (binT n)) := fun A a Q q => h A a _ fun B b => ⟨n, rfl, binT_len n hn, q B b⟩
theorem ev_bmS {r : V → List V → Hp → VK → Prop} {t : TA} {s : Str} {vs : List V} (h : Ev te σ H (.str s)) (ha : EvA t σ H vs) (hr : ∀ A, Ex H A → ∀ Q : VK, (∀ B, Ex A B → Q z B) → r (.str s) vs A Q) : Ev (tBM K "str" r te t) σ H z := fun A a Q q =>
  h A a _ fun B b => ⟨rfl, ha B (a.trans b) _ fun C c => hr C ((a.trans b).trans c) Q fun D d => q D ((b.trans c).trans d)⟩
theorem ev_zfill {t : TA} {s : Str} {i : Int} (h : Ev te σ H (.str s)) (ha : EvA t σ H [.int i]) (hi : PadOk i = true) : Ev (tBM K "str" (fun x xs H Q => ∃ (a : Str) (i : Int), x = .str a ∧ xs = [.int i] ∧ PadOk i = true ∧ Q (.str (Txt.zfill a i)) H) te t) σ H (.str (Txt.zfill s i)) :=
  ev_bmS h ha fun A _ Q q => ⟨s, i, rfl, rfl, hi, q A (.refl A)⟩
end

end
section
local macro_rules | `(tactic| walk_at "cond") => `(tactic| first | (with_reducible assumption) | decide | (show (0 : Int) < _; decide) | (exact ⟨by decide, by decide⟩) | (exact ⟨by decide, by decide, by decide⟩) | (exact ⟨by omega, by omega⟩) | (exact Or.inl ⟨by decide, by decide⟩) | (exact Or.inr ⟨by decide, by decide⟩) | (exact Or.inl ⟨by omega, by omega⟩) | (exact Or.inr ⟨by omega, by omega⟩) | omega)

local macro_rules | `(tactic| walk_at "seq") => `(tactic| first | (with_reducible assumption) | (exact sq_of (by with_reducible assumption)) | (exact st_of (by with_reducible assumption)) | (exact ex_l (by with_reducible assumption) (by with_reducible assumption)) | (exact ex_t (by with_reducible assumption) (by with_reducible assumption)))

local macro_rules | `(tactic| walk_at "rv") => `(tactic| first | (with_reducible exact rv_I0) | ((with_reducible apply rv_I); walk_at "cond") | ((with_reducible apply rv_eq); rfl) | ((with_reducible apply rv_ne); rfl) | (with_reducible exact rv_NT) | (with_reducible exact rv_isN) | ((with_reducible apply rv_add_str); walk_at "cond") | ((with_reducible apply rv_ixT); walk_at "seq"; rfl))

local macro_rules | `(tactic| walk_at "rc") => `(tactic| first | ((with_reducible apply rc_len); walk_at "seq") | ((with_reducible apply rc_lenT); walk_at "seq") | ((with_reducible apply rc_lenS); walk_at "cond") | (with_reducible exact rc_intB) | (with_reducible exact rc_typI) | ((with_reducible apply rc_strI); walk_at "cond") | (exact rc_isi tx_str kb_ss) | (exact rc_isi tx_int kb_ii) | (exact rc_isi tx_int kb_ib) | (exact rc_isi (tx_lst (by with_reducible assumption)) kb_ll) | (exact rc_isi (tx_tup (by with_reducible assumption)) kb_tt))

local macro_rules | `(tactic| walk_at "spv") => `(tactic| fail "no promise")

local macro_rules | `(tactic| walk_at "ea") => `(tactic| first | (with_reducible exact ea_nil) | ((with_reducible apply ea_cons); walk_at "ev"; walk_at "ea"))

local macro_rules | `(tactic| walk_at "eo") => `(tactic| first | (with_reducible exact eo_none) | ((with_reducible apply eo_some); walk_at "ev"))

local macro_rules | `(tactic| walk_at "ev") => `(tactic| first
  | (with_reducible exact ev_c)
  | ((with_reducible apply ev_var); rfl)
  | ((with_reducible apply ev_op); walk_at "ev"; walk_at "ev"; walk_at "rv")
  | ((with_reducible apply ev_cb); walk_at "ea"; walk_at "rc")
  | ((with_reducible apply ev_call); walk_at "ea"; walk_at "spv")
  | ((with_reducible apply ev_neg); walk_at "ev")
  | ((with_reducible apply ev_notV); walk_at "ev")
  | ((with_reducible apply ev_andV); walk_at "ev"; (intro _; walk_at "ev"))
  | ((with_reducible apply ev_orV); walk_at "ev"; (intro _; walk_at "ev")))

local macro_rules | `(tactic| walk_at "et") => `(tactic| first
  | ((with_reducible apply et_chain); walk_at "ev"; walk_at "ev"; walk_at "rv"; (intro _; walk_at "ev"); (intro _; walk_at "rv"))
  | ((with_reducible apply et_test); walk_at "ev")
  | ((with_reducible apply et_B); walk_at "ev")
  | ((with_reducible apply et_not); walk_at "et")
  | ((with_reducible apply et_or); walk_at "et"; (intro _; walk_at "et"))
  | ((with_reducible apply et_and); walk_at "et"; (intro _; walk_at "et")))

local macro_rules | `(tactic| walk_at "asg") => `(tactic| ((first | with_reducible apply q_asg | with_reducible apply s_asg); walk_at "ev"))

local macro_rules | `(tactic| walk_at "drop") => `(tactic| ((first | with_reducible apply q_drop | with_reducible apply s_drop); walk_at "ev"))

local macro_rules | `(tactic| walk_at "ret") => `(tactic| ((with_reducible apply s_retk); walk_at "ev"))

local macro_rules | `(tactic| walk_at "when") => `(tactic| ((first | with_reducible apply q_when | with_reducible apply s_when | with_reducible apply q_if | with_reducible apply s_if); walk_at "et"))

variable [TabCx]
open PyProof.Rows
/-! ### slices by twos -/
def evens {α : Type} : List α → List α
  | [] => []
  | [a] => [a]
  | a :: _ :: t => a :: evens t
theorem evens_len {α : Type} : ∀ l : List α, (evens l).length = (l.length + 1) / 2
  | [] => by simp [evens]
  | [_] => by simp [evens]
  | _ :: _ :: t => by
    show (evens t).length + 1 = (t.length + 1 + 1 + 1) / 2
    rw [evens_len t]
    omega
theorem evens_get {α : Type} : ∀ (l : List α) (k : Nat), (evens l)[k]? = l[2 * k]?
  | [], k => by simp [evens]
  | [a], 0 => rfl
  | [a], k + 1 => by
    rw [show 2 * (k + 1) = (2 * k + 1) + 1 by omega]
    rfl
  | a :: b :: t, 0 => rfl
  | a :: b :: t, k + 1 => by
    rw [show 2 * (k + 1) = (2 * k) + 1 + 1 by omega]
    exact evens_get t k
theorem evens_pick {α : Type} (xs : Array α) (s n : Nat) (hn : n = (xs.size - s + 1) / 2) : ((List.range n).map fun k => s + 2 * k).filterMap (xs[·]?) = evens (xs.toList.drop s) := by
  rw [List.filterMap_map]
  have h := PySem.W.krv_all (evens (xs.toList.drop s)).toArray
  rw [List.size_toArray, evens_len, List.length_drop, Array.length_toList, ← hn] at h
  rw [show ((xs[·]?) ∘ fun k => s + 2 * k) = ((evens (xs.toList.drop s)).toArray[·]?) from funext fun k => ?_, h]
  show xs[s + 2 * k]? = (evens (xs.toList.drop s)).toArray[k]?
  have h2 : (evens (xs.toList.drop s)).toArray[k]? = (evens (xs.toList.drop s))[k]? := by simp
  rw [h2, evens_get, List.getElem?_drop]
  simp
theorem step2_range (s n : Nat) (h : s ≤ n) : sliceRange (s : Int) (n : Int) 2 = (List.range ((n - s + 1) / 2)).map fun k => s + 2 * k := by
  unfold sliceRange
  have h1 : ((2 : Int) > 0) := by decide
  by_cases h2 : (s : Int) < n
  · have e : ((n : Int) - s + 2 - 1) / 2 = (((n - s + 1) / 2 : Nat) : Int) := by omega
    simp only [h1, if_true, h2, e, Int.toNat_natCast]
    apply List.map_congr_left
    intro k _
    omega
  · have e : n - s = 0 := by omega
    simp only [h1, if_true, h2, if_false]
    rw [e]
    rfl
theorem step2_none (items : Array Value) : slicePick items none none (some 2) = (evens items.toList).toArray := by
  unfold slicePick
  have hb : sliceBounds none none (some 2) items.size = (((0 : Nat) : Int), (items.size : Int), 2) := rfl
  rw [hb]
  show ((sliceRange ((0 : Nat) : Int) (items.size : Int) 2).filterMap (items[·]?)).toArray = _
  rw [step2_range 0 items.size (Nat.zero_le _), evens_pick items 0 _ rfl, List.drop_zero]
theorem step2_one (items : Array Value) : slicePick items (some 1) none (some 2) = (evens items.toList.tail).toArray := by
  unfold slicePick
  have hb : sliceBounds (some 1) none (some 2) items.size = (((min 1 items.size : Nat) : Int), (items.size : Int), 2) := by
    unfold sliceBounds
    simp
    omega
  rw [hb]
  show ((sliceRange ((min 1 items.size : Nat) : Int) (items.size : Int) 2).filterMap (items[·]?)).toArray = _
  rw [step2_range _ items.size (Nat.min_le_right _ _), evens_pick items _ _ rfl]
  congr 2
  rcases Nat.eq_zero_or_pos items.size with h | h
  · have e : items.toList = [] := by
      apply List.eq_nil_of_length_eq_zero
      rw [Array.length_toList]
      exact h
    rw [e]
    simp
  · rw [show min 1 items.size = 1 by omega, List.drop_one]
theorem vals_evens : ∀ {xs : List V} {its : List Value}, Vals xs its → Vals (evens xs) (evens its)
  | _, _, .nil => .nil
  | _, _, .cons a .nil => .cons a .nil
  | _, _, .cons a (.cons _ t) => .cons a (vals_evens t)
theorem vals_tail : ∀ {xs : List V} {its : List Value}, Vals xs its → Vals xs.tail its.tail
  | _, _, .nil => .nil
  | _, _, .cons _ t => t
def tEv (K : PySem.W.Frag) (te : TE) : TE := fun σ H Q => te σ H fun x H1 => ∃ a xs, x = .ref a ∧ SqL K H1 a xs ∧ ∀ p, H1 p = none → Q (.ref p) (upd H1 p (.lst (evens xs)))
def tOd (K : PySem.W.Frag) (te : TE) : TE := fun σ H Q => te σ H fun x H1 => ∃ a xs, x = .ref a ∧ SqL K H1 a xs ∧ ∀ p, H1 p = none → Q (.ref p) (upd H1 p (.lst (evens xs.tail)))
section
variable {X : Cx}
theorem pe_evens {e : Expr} {te : TE} {k : Nat} {p1 p3 pos : Pos} (he : PE X e te) : PE X (.Subscript e (.Slice none none (some (.Constant (.int 2) k p1)) p3) pos) (tEv X.K te) := by
  refine ⟨fun pins s σ H Q I h => ?_⟩
  refine Subscript_ (thn (he.run pins s σ H _ I h) fun v s1 ⟨x, H1, I1, r1, q1⟩ => ?_)
  obtain ⟨a, xs, ex, hx, q⟩ := q1
  subst ex
  cases r1
  have hst : PO X (some (.Constant (.int 2) k p1)) (tPart (tC (.int 2))) := po_some pe_int
  refine wpAny_Slice (thn (po_none.run pins s1 σ H1 (fun o H2 => o = none ∧ H2 = H1) I1 ⟨rfl, rfl⟩) fun vl s2 ⟨l, H2, I2, pl, el, e2⟩ => ?_)
  subst el e2
  refine thn (po_none.run pins s2 σ H2 (fun o H3 => o = none ∧ H3 = H2) I2 ⟨rfl, rfl⟩) fun vu s3 ⟨u, H3, I3, pu, eu, e3⟩ => ?_
  subst eu e3
  refine thn (hst.run pins s3 σ H3 (fun o H4 => o = some 2 ∧ H4 = H3) I3 ⟨2, rfl, rfl, rfl⟩) fun vs s4 ⟨o, H4, I4, ps, eo, e4⟩ => ?_
  subst eo e4
  have I5 : Inv X pins σ H4 { s4 with heap := s4.heap.push { cls := .type "slice", data := .fields #[vl, vu, vs] } } := I4.kept (t' := s4.toks) fun b ob q => Heap.get?_push_of_some _ q
  obtain ⟨its, r, ht, hz⟩ := I5.list hx
  have hlen := r.length
  show wpAny (model X.prog X.w) X.A (subscriptTail e (.Slice none none (some (.Constant (.int 2) k p1)) p3) (.ref a) (.ref s4.heap.objs.size)) (EP X pins σ Q) X.xe { s4 with heap := s4.heap.push { cls := .type "slice", data := .fields #[vl, vu, vs] } }
  refine tail_any (ops := [.ref a, .ref s4.heap.objs.size]) ht.isList.typeIs (PySem.slot_list_getitem.lookup) ?_ (by with_unfolding_all rfl)
  refine wpAny_getItem_list_slice ht.isList (Heap.IsSliceOf.new _ vl vu vs) pl pu ps (by decide) ?_ (by rw [List.size_toArray]; omega)
  rw [step2_none]
  refine ⟨.ref _, _, I5.laid (t' := s4.toks) (o := .lst (evens xs)) (fun b ob q => Heap.get?_push_of_some _ q) (Nat.le_refl _) ?_, rfl, q _ (I5.hok.fresh (Nat.le_refl _))⟩
  exact ⟨by rw [evens_len]; omega, _, 0, vals_evens r, Heap.get?_push_size _ rfl⟩
theorem pe_odds {e : Expr} {te : TE} {k k2 : Nat} {p1 p2 p3 pos : Pos} (he : PE X e te) : PE X (.Subscript e (.Slice (some (.Constant (.int 1) k2 p2)) none (some (.Constant (.int 2) k p1)) p3) pos) (tOd X.K te) := by
  refine ⟨fun pins s σ H Q I h => ?_⟩
  refine Subscript_ (thn (he.run pins s σ H _ I h) fun v s1 ⟨x, H1, I1, r1, q1⟩ => ?_)
  obtain ⟨a, xs, ex, hx, q⟩ := q1
  subst ex
  cases r1
  have hst : PO X (some (.Constant (.int 2) k p1)) (tPart (tC (.int 2))) := po_some pe_int
  have hs1 : PO X (some (.Constant (.int 1) k2 p2)) (tPart (tC (.int 1))) := po_some pe_int
  refine wpAny_Slice (thn (hs1.run pins s1 σ H1 (fun o H2 => o = some 1 ∧ H2 = H1) I1 ⟨1, rfl, rfl, rfl⟩) fun vl s2 ⟨l, H2, I2, pl, el, e2⟩ => ?_)
  subst el e2
  refine thn (po_none.run pins s2 σ H2 (fun o H3 => o = none ∧ H3 = H2) I2 ⟨rfl, rfl⟩) fun vu s3 ⟨u, H3, I3, pu, eu, e3⟩ => ?_
  subst eu e3
  refine thn (hst.run pins s3 σ H3 (fun o H4 => o = some 2 ∧ H4 = H3) I3 ⟨2, rfl, rfl, rfl⟩) fun vs s4 ⟨o, H4, I4, ps, eo, e4⟩ => ?_
  subst eo e4
  have I5 : Inv X pins σ H4 { s4 with heap := s4.heap.push { cls := .type "slice", data := .fields #[vl, vu, vs] } } := I4.kept (t' := s4.toks) fun b ob q => Heap.get?_push_of_some _ q
  obtain ⟨its, r, ht, hz⟩ := I5.list hx
  have hlen := r.length
  show wpAny (model X.prog X.w) X.A (subscriptTail e (.Slice (some (.Constant (.int 1) k2 p2)) none (some (.Constant (.int 2) k p1)) p3) (.ref a) (.ref s4.heap.objs.size)) (EP X pins σ Q) X.xe { s4 with heap := s4.heap.push { cls := .type "slice", data := .fields #[vl, vu, vs] } }
  refine tail_any (ops := [.ref a, .ref s4.heap.objs.size]) ht.isList.typeIs (PySem.slot_list_getitem.lookup) ?_ (by with_unfolding_all rfl)
  refine wpAny_getItem_list_slice ht.isList (Heap.IsSliceOf.new _ vl vu vs) pl pu ps (by decide) ?_ (by rw [List.size_toArray]; omega)
  rw [step2_one]
  refine ⟨.ref _, _, I5.laid (t' := s4.toks) (o := .lst (evens xs.tail)) (fun b ob q => Heap.get?_push_of_some _ q) (Nat.le_refl _) ?_, rfl, q _ (I5.hok.fresh (Nat.le_refl _))⟩
  exact ⟨by rw [evens_len, List.length_tail]; omega, _, 0, vals_evens (vals_tail r), Heap.get?_push_size _ rfl⟩
end
section
variable {α : Type} {r : Rp α} {K : PySem.W.Frag} {σ : L2.St} {H : Hp} {te : TE}
theorem pr_evens {F : Addr → Prop} : ∀ {xs : List V} {as : List α}, PRF r F H xs as → PRF r F H (evens xs) (evens as)
  | _, _, .nil => .nil
  | _, _, .cons a .nil => .cons a .nil
  | _, _, .cons a (.cons _ t) => .cons a (pr_evens t)
theorem pr_tail {F : Addr → Prop} : ∀ {xs : List V} {as : List α}, PRF r F H xs as → PRF r F H xs.tail as.tail
  | _, _, .nil => .nil
  | _, _, .cons _ t => t
theorem el_evens {p : Addr} {as : List α} (h : Ev te σ H (.ref p)) (hl : LR r H p as) : EvLR r (tEv K te) σ H (evens as) := fun A a Q q =>
  h A a _ fun B b => by
    obtain ⟨xs, h1, h2⟩ := hl.mono (a.trans b)
    exact ⟨p, xs, rfl, sq_of h1, fun l hl => q _ _ (b.trans (.new hl)) ⟨l, rfl, fresh_back b hl, _, upd_same, pr_evens (pr_mono (.new hl) h2)⟩⟩
theorem el_odds {p : Addr} {as : List α} (h : Ev te σ H (.ref p)) (hl : LR r H p as) : EvLR r (tOd K te) σ H (evens as.tail) := fun A a Q q =>
  h A a _ fun B b => by
    obtain ⟨xs, h1, h2⟩ := hl.mono (a.trans b)
    exact ⟨p, xs, rfl, sq_of h1, fun l hl => q _ _ (b.trans (.new hl)) ⟨l, rfl, fresh_back b hl, _, upd_same, pr_evens (pr_tail (pr_mono (.new hl) h2))⟩⟩
end

/-! ### xs.count(text) -/
def rCntS (K : PySem.W.Frag) : V → List V → Hp → VK → Prop := fun x xs H Q => ∃ (p : Addr) (ss : List Str) (z : Str), x = .ref p ∧ xs = [.str z] ∧ SqL K H p (ss.map V.str) ∧ Q (.int (ss.count z : Nat)) H
open PySem.Spec in
theorem countIn_strs (k : Str) : ∀ ys : List Str, countIn (.str k) (ys.map PyData.str) = ((ys.count k : Nat) : Int)
  | [] => rfl
  | y :: t => by
    have ih := countIn_strs k t
    show (if same (.str y) (.str k) then 1 else 0) + countIn (.str k) (t.map PyData.str) = _
    rw [ih, List.count_cons]
    have e : same (PyData.str y) (.str k) = (y == k) := rfl
    rw [e]
    by_cases h : (y == k) = true
    · rw [if_pos h, if_pos h]
      omega
    · rw [if_neg h, if_neg h]
      omega
theorem mt_scount {X : Cx} : MtR X "list.count" (rCntS X.K) := by
  intro pins s σ H x xs v us Q I rx rxs h
  obtain ⟨p, ss, z, rfl, rfl, hs, q⟩ := h
  cases rx
  obtain ⟨u, rfl, ru⟩ := rxs.one
  obtain ⟨t, rfl⟩ := ru
  obtain ⟨its, rv, hl, hlen⟩ := I.list hs
  refine PyProof.Rows.count_list_strs hl.isList rv.strs ?_
  rw [countIn_strs]
  exact ⟨.int (ss.count z : Nat), H, I.tok _, ⟨s.toks, rfl⟩, q⟩

end
section
local macro_rules | `(tactic| walk_at "cond") => `(tactic| first | (with_reducible assumption) | decide | (show (0 : Int) < _; decide) | (exact ⟨by decide, by decide⟩) | (exact ⟨by decide, by decide, by decide⟩) | (exact ⟨by omega, by omega⟩) | (exact Or.inl ⟨by decide, by decide⟩) | (exact Or.inr ⟨by decide, by decide⟩) | (exact Or.inl ⟨by omega, by omega⟩) | (exact Or.inr ⟨by omega, by omega⟩) | omega)

local macro_rules | `(tactic| walk_at "seq") => `(tactic| first | (with_reducible assumption) | (exact sq_of (by with_reducible assumption)) | (exact st_of (by with_reducible assumption)) | (exact ex_l (by with_reducible assumption) (by with_reducible assumption)) | (exact ex_t (by with_reducible assumption) (by with_reducible assumption)))

local macro_rules | `(tactic| walk_at "rv") => `(tactic| first | (with_reducible exact rv_I0) | ((with_reducible apply rv_I); walk_at "cond") | ((with_reducible apply rv_eq); rfl) | ((with_reducible apply rv_ne); rfl) | (with_reducible exact rv_NT) | (with_reducible exact rv_isN) | ((with_reducible apply rv_add_str); walk_at "cond") | ((with_reducible apply rv_ixT); walk_at "seq"; rfl))

local macro_rules | `(tactic| walk_at "rc") => `(tactic| first | ((with_reducible apply rc_len); walk_at "seq") | ((with_reducible apply rc_lenT); walk_at "seq") | ((with_reducible apply rc_lenS); walk_at "cond") | (with_reducible exact rc_intB) | (with_reducible exact rc_typI) | ((with_reducible apply rc_strI); walk_at "cond") | (exact rc_isi tx_str kb_ss) | (exact rc_isi tx_int kb_ii) | (exact rc_isi tx_int kb_ib) | (exact rc_isi (tx_lst (by with_reducible assumption)) kb_ll) | (exact rc_isi (tx_tup (by with_reducible assumption)) kb_tt))

local macro_rules | `(tactic| walk_at "spv") => `(tactic| fail "no promise")

local macro_rules | `(tactic| walk_at "ea") => `(tactic| first | (with_reducible exact ea_nil) | ((with_reducible apply ea_cons); walk_at "ev"; walk_at "ea"))

local macro_rules | `(tactic| walk_at "eo") => `(tactic| first | (with_reducible exact eo_none) | ((with_reducible apply eo_some); walk_at "ev"))

local macro_rules | `(tactic| walk_at "ev") => `(tactic| first
  | (with_reducible exact ev_c)
  | ((with_reducible apply ev_var); rfl)
  | ((with_reducible apply ev_op); walk_at "ev"; walk_at "ev"; walk_at "rv")
  | ((with_reducible apply ev_cb); walk_at "ea"; walk_at "rc")
  | ((with_reducible apply ev_call); walk_at "ea"; walk_at "spv")
  | ((with_reducible apply ev_neg); walk_at "ev")
  | ((with_reducible apply ev_notV); walk_at "ev")
  | ((with_reducible apply ev_andV); walk_at "ev"; (intro _; walk_at "ev"))
  | ((with_reducible apply ev_orV); walk_at "ev"; (intro _; walk_at "ev")))

local macro_rules | `(tactic| walk_at "et") => `(tactic| first
  | ((with_reducible apply et_chain); walk_at "ev"; walk_at "ev"; walk_at "rv"; (intro _; walk_at "ev"); (intro _; walk_at "rv"))
  | ((with_reducible apply et_test); walk_at "ev")
  | ((with_reducible apply et_B); walk_at "ev")
  | ((with_reducible apply et_not); walk_at "et")
  | ((with_reducible apply et_or); walk_at "et"; (intro _; walk_at "et"))
  | ((with_reducible apply et_and); walk_at "et"; (intro _; walk_at "et")))

local macro_rules | `(tactic| walk_at "asg") => `(tactic| ((first | with_reducible apply q_asg | with_reducible apply s_asg); walk_at "ev"))

local macro_rules | `(tactic| walk_at "drop") => `(tactic| ((first | with_reducible apply q_drop | with_reducible apply s_drop); walk_at "ev"))

local macro_rules | `(tactic| walk_at "ret") => `(tactic| ((with_reducible apply s_retk); walk_at "ev"))

local macro_rules | `(tactic| walk_at "when") => `(tactic| ((first | with_reducible apply q_when | with_reducible apply s_when | with_reducible apply q_if | with_reducible apply s_if); walk_at "et"))

variable [TabCx]
/-! ### lists of codes -/
def rpC : Rp Code := ⟨fun _ _ v c => v = .str (bt c), fun _ h => h, fun h _ => h, fun _ _ h => h⟩
def encC : Enc rpC (fun _ => True) := ⟨fun c => .str (bt c), fun h => by rw [show _ = V.str _ from h]; exact .str _, fun {c} _ => bt_ok c, 0, fun _ => by simp [PyData.depth]⟩
theorem prC_str {F : Addr → Prop} {H : Hp} : ∀ {xs : List V} {R : List Code}, PRF rpC F H xs R → PRF rpStr F H xs (R.map bt)
  | _, _, .nil => .nil
  | _, _, .cons a t => .cons a (prC_str t)
theorem prS_C {F : Addr → Prop} {H : Hp} : ∀ {xs : List V} {R : List Code}, PRF rpStr F H xs (R.map bt) → PRF rpC F H xs R
  | [], [], .nil => .nil
  | _ :: _, _ :: _, .cons a t => .cons a (prS_C t)
theorem lrC_str {H : Hp} {p : Addr} {R : List Code} (h : LR rpC H p R) : LR rpStr H p (R.map bt) := by
  obtain ⟨ys, h1, h2⟩ := h
  exact ⟨ys, h1, prC_str h2⟩
theorem lrS_C {H : Hp} {p : Addr} {R : List Code} (h : LR rpStr H p (R.map bt)) : LR rpC H p R := by
  obtain ⟨ys, h1, h2⟩ := h
  exact ⟨ys, h1, prS_C h2⟩
theorem prs_eq {F : Addr → Prop} {H : Hp} : ∀ {xs : List V} {ss : List Str}, PRF rpStr F H xs ss → xs = ss.map V.str
  | _, _, .nil => rfl
  | _, _, .cons a t => by
    rw [prs_eq t, show _ = V.str _ from a]
    rfl
theorem pr_strs {F : Addr → Prop} {H : Hp} : ∀ {ss : List Str}, PRF rpStr F H (ss.map V.str) ss
  | [] => .nil
  | _ :: _ => .cons rfl pr_strs
theorem prC_all {F : Addr → Prop} {H : Hp} : ∀ R : List Code, PRF rpC F H (R.map fun c => V.str (bt c)) R
  | [] => .nil
  | _ :: t => .cons rfl (prC_all t)
theorem prC_at {F : Addr → Prop} {H : Hp} {xs : List V} {R : List Code} {i : Nat} (h : PRF rpC F H xs R) (hi : i < R.length) : atI xs (i : Int) = some (.str (bt R[i])) := by
  obtain ⟨x, h1, h2⟩ := pr_at h (List.getElem?_eq_getElem hi)
  rw [atI_nat h1]
  exact congrArg some h2
theorem flat_strs (ss : List Str) : (ss.map V.str).all flatV = true := by
  rw [List.all_map]
  exact List.all_eq_true.mpr fun _ _ => rfl
theorem in_strs (s : Str) (ss : List Str) : inV (.str s) (ss.map V.str) = decide (s ∈ ss) := by
  unfold inV
  rw [List.any_map]
  induction ss with
  | nil => simp
  | cons a t ih =>
    rw [List.any_cons, ih]
    show ((a == s) || _) = _
    by_cases h : a = s
    · subst h
      simp
    · rw [beq_false_of_ne h, Bool.false_or]
      refine decide_eq_decide.mpr ⟨fun z => List.mem_cons_of_mem _ z, fun z => ?_⟩
      rcases List.mem_cons.mp z with z | z
      · exact absurd z.symm h
      · exact z
theorem ne_dec {c d : Code} (hc : Cv c) (hd : Cv d) : (!decide (V.str (bt c) = V.str (bt d))) = decide (c ≠ d) := by
  rw [decide_str]
  by_cases h : c = d
  · rw [decide_eq_true (congrArg bt h), decide_eq_false (fun z => z h)]
    rfl
  · rw [decide_eq_false (fun z => h (bt_inj hc hd z)), decide_eq_true h]
    rfl
abbrev rAddS : V → V → Hp → VK → Prop := fun x y H Q => ∃ i j, x = V.str i ∧ y = V.str j ∧ i.length + j.length ≤ sizeLine ∧ Q (.str (i ++ j)) H
section
variable {K : PySem.W.Frag} {σ : L2.St} {H H' : Hp} {ta tb te : TE} {D : Ends} {tz tu : TS}
theorem ev_b0 {c : Code} (h : Ev te σ H (.str (bt c))) (hl : c.1 ≤ 1000) : Ev (tOp rAddS te (tC (.str "0"))) σ H (.str (bt (c0 c))) :=
  ev_is (ev_op h ev_c (rv_add_str (by rw [bt_len]; show c.1 + 1 ≤ _; omega))) (by rw [bt_0])
theorem ev_b1 {c : Code} (h : Ev te σ H (.str (bt c))) (hl : c.1 ≤ 1000) : Ev (tOp rAddS te (tC (.str "1"))) σ H (.str (bt (c1 c))) :=
  ev_is (ev_op h ev_c (rv_add_str (by rw [bt_len]; show c.1 + 1 ≤ _; omega))) (by rw [bt_1])
theorem q_whenM {b : Bool} {t : TT} (M : L2.St → Hp → Prop) (h : EvT t σ H b) (h1 : b = true → (∀ σ' B, M σ' B → tz D σ' B) → ∀ B, Ex H B → tu { D with nx := tz D } σ B) (h2 : b = false → ∀ B, Ex H B → M σ B) (hM : ∀ σ' B, M σ' B → tz D σ' B) : tSeq (tIfS t tu tNext) tz D σ H :=
  q_when h (fun hb B e => h1 hb hM B e) fun hb B e => hM _ _ (h2 hb B e)
theorem q_aug {i : Nat} {f : Int → Int → Int} {x y : Int} (hx : σ[i]? = some (some (.int x))) (h : Ev te σ H (.int y)) (k : ∀ B, Ex H B → tz D (σ.set i (some (.int (f x y)))) B) : tSeq (tAug i te (ipI f)) tz D σ H := ⟨_, hx, h H (.refl H) _ fun B e => ⟨x, y, rfl, rfl, k B e⟩⟩
theorem s_aug {i : Nat} {f : Int → Int → Int} {x y : Int} (hx : σ[i]? = some (some (.int x))) (h : Ev te σ H (.int y)) (k : ∀ B, Ex H B → D.nx (σ.set i (some (.int (f x y)))) B) : tAug i te (ipI f) D σ H := ⟨_, hx, h H (.refl H) _ fun B e => ⟨x, y, rfl, rfl, k B e⟩⟩
theorem q_asgT {g : TG} {v : V} (h : Ev te σ H v) (k : ∀ B, Ex H B → g v σ B (tz D)) : tSeq (tAsg te g) tz D σ H := h H (.refl H) _ k
theorem s_asgT {g : TG} {v : V} (h : Ev te σ H v) (k : ∀ B, Ex H B → g v σ B D.nx) : tAsg te g D σ H := h H (.refl H) _ k
/-- the greatest of a new list of numbers -/
theorem ev_max {ns : List Int} (h : EvLR rpInt te σ H ns) (h0 : 0 < ns.length) {m : Int} (hm : m ∈ ns) (ha : ∀ y ∈ ns, y ≤ m) : Ev (tCB (rMax K) (tCons te tNil)) σ H (.int m) := fun A a Q q =>
  h A a _ fun _ B b ⟨p, ev, _, xs, h1, h2⟩ => by
    subst ev
    refine ⟨p, ns, rfl, sq_of (by rw [h1, pr_ints_eq h2]), h0, fun k hk hka => ?_⟩
    rw [show k = m from Int.le_antisymm (ha k hk) (hka m hm)]
    exact q B b
/-- the sum of a new list of numbers -/
theorem ev_sum {ns : List Int} (h : EvLR rpInt te σ H ns) : Ev (tCB (rSum K) (tCons te tNil)) σ H (.int ns.sum) := fun A a Q q =>
  h A a _ fun _ B b ⟨p, ev, _, xs, h1, h2⟩ => by
    subst ev
    exact ⟨p, ns, rfl, sq_of (by rw [h1, pr_ints_eq h2]), q B b⟩
theorem ev_ixN {α : Type} {r : Rp α} {as : List α} {i : Int} {v : V} (ha : EvLR r ta σ H as) (hb : Ev tb σ H (.int i)) (hv : ∀ B ys, PR r B ys as → atI ys i = some v) : Ev (tOp (rIxL K) ta tb) σ H v :=
  ev_opL (K := K) ha hb fun A w B _ _ ⟨p, e, _, ys, h1, h2⟩ => e ▸ rv_ixL (sq_of h1) (hv B ys h2)
theorem ev_ixV {α : Type} {r : Rp α} {as : List α} {p : Addr} {i : Int} {v : V} (ha : Ev ta σ H (.ref p)) (hl : LR r H p as) (hb : Ev tb σ H (.int i)) (hv : ∀ ys, PR r H ys as → atI ys i = some v) : Ev (tOp (rIxL K) ta tb) σ H v := by
  obtain ⟨ys, h1, h2⟩ := hl
  exact ev_op ha hb (rv_ixL (sq_of h1) (hv ys h2))
end
theorem ixN_nat {n k : Nat} (h : k < n) : ixN n (k : Int) = some k := by
  unfold ixN
  rw [if_pos (by omega), if_pos (by omega)]
  rfl
/-! ### instances and dicts -/
section
variable {K : PySem.W.Frag} {σ : L2.St} {H H' : Hp} {ta tb te td ty tv : TE} {D : Ends} {tz : TS} {C p dx d : Addr} {fs : List (Str × V)} {f m : Str} {v x : V} {kvs : List (Key × V)} {k : Key}
theorem ev_fld (c : Cls K C) (n : NoAttr K C f) (h : Ev ta σ H (.ref p)) (hp : H p = some (.ins C dx fs)) (hf : fs.lookup f = some v) : Ev (tFld K ta f) σ H v := fun A a Q q =>
  h A a _ fun B b => ⟨p, C, dx, fs, v, rfl, (a.trans b).k hp, c, n, hf, q B b⟩
/-- o.m(..) that leaves all that stood, and hands back v -/
theorem ev_meth {sp : Sp} {vs : List V} {E : XK} {t : TA} (h : Ev ta σ H (.ref p)) (hp : H p = some (.ins C dx fs)) (hm : fs.lookup m = none) (ha : EvA t σ H vs) (hs : SpV sp (.ref p :: vs) H v) : Ev (tMeth C m sp [] E ta t) σ H v := fun A a Q q =>
  h A a _ fun B b => ⟨p, dx, fs, rfl, (a.trans b).k hp, hm, ha B (a.trans b) _ fun G g => by
    rw [List.append_nil]
    exact hs G ((a.trans b).trans g) Q (fun J j => q J ((b.trans g).trans j)) E⟩
theorem ev_methLR {β : Type} {r : Rp β} {bs : List β} {sp : Sp} {vs : List V} {E : XK} {t : TA} (h : Ev ta σ H (.ref p)) (hp : H p = some (.ins C dx fs)) (hm : fs.lookup m = none) (ha : EvA t σ H vs) (hs : SpLR r sp (.ref p :: vs) H bs) : EvLR r (tMeth C m sp [] E ta t) σ H bs := fun A a Q q =>
  h A a _ fun B b => ⟨p, dx, fs, rfl, (a.trans b).k hp, hm, ha B (a.trans b) _ fun G g => by
    rw [List.append_nil]
    exact hs G ((a.trans b).trans g) Q (fun l J hl j hL => q _ J ((b.trans g).trans j) ⟨l, rfl, fresh_back (b.trans g) hl, hL⟩) E⟩
/-- o.m(..), by its promise -/
theorem g_meth {sp : Sp} {vs : List V} {E : XK} {t : TA} {Q : VK} (h : Ev ta σ H (.ref p)) (hp : H p = some (.ins C dx fs)) (hm : fs.lookup m = none) (ha : EvA t σ H vs) (hs : ∀ B, Ex H B → sp (.ref p :: vs) B Q E) : tMeth C m sp [] E ta t σ H Q :=
  h H (.refl H) _ fun B b => ⟨p, dx, fs, rfl, b.k hp, hm, ha B b _ fun G g => by
    rw [List.append_nil]
    exact hs G (b.trans g)⟩
theorem ev_dget {kvs : List (Key × V)} (h : Ev td σ H (.ref d)) (hk : Ev ty σ H (kV k)) (hd : H d = some (.dK kvs)) (hv : valV kvs k = some v) : Ev (tDGet td ty) σ H v := fun A a Q q =>
  h A a _ fun B b => hk B (a.trans b) _ fun G g => ⟨d, v, rfl, by rw [← hv]; exact DGet.k (((a.trans b).trans g).k hd), q G (b.trans g)⟩
theorem ev_din {kvs : List (Key × V)} (h : Ev td σ H (.ref d)) (hk : Ev ty σ H (kV k)) (hd : H d = some (.dK kvs)) : Ev (tDIn ty td) σ H (.bl (valV kvs k).isSome) := fun A a Q q =>
  hk A a _ fun B b => h B (a.trans b) _ fun G g => ⟨d, _, rfl, DGet.k (((a.trans b).trans g).k hd), q G (b.trans g)⟩
theorem ev_dnotin {kvs : List (Key × V)} (h : Ev td σ H (.ref d)) (hk : Ev ty σ H (kV k)) (hd : H d = some (.dK kvs)) : Ev (tDNotIn ty td) σ H (.bl (!(valV kvs k).isSome)) := fun A a Q q =>
  hk A a _ fun B b => h B (a.trans b) _ fun G g => ⟨d, _, rfl, DGet.k (((a.trans b).trans g).k hd), q G (b.trans g)⟩
end
/-! ### a store -/
def flds (b : Nat) (d bd : Addr) (D : Nat) : List (Str × V) := [("bound", .int (b : Int)), ("_rooms", .ref d), ("_board", .ref bd), ("_depth", .int (D : Int))]
theorem k_br : ¬ ("bound" : Str) = "_rooms" := by decide +kernel
theorem k_bb : ¬ ("bound" : Str) = "_board" := by decide +kernel
theorem k_bd : ¬ ("bound" : Str) = "_depth" := by decide +kernel
theorem k_rb : ¬ ("_rooms" : Str) = "_board" := by decide +kernel
theorem k_rd : ¬ ("_rooms" : Str) = "_depth" := by decide +kernel
theorem k_od : ¬ ("_board" : Str) = "_depth" := by decide +kernel
theorem lk_cons_ne {f g : Str} {v : V} {r : List (Str × V)} (h : ¬ g = f) : List.lookup f ((g, v) :: r) = List.lookup f r := by
  have hb : (f == g) = false := beq_eq_false_iff_ne.mpr fun z => h z.symm
  simp only [List.lookup, hb]
theorem lk_cons_eq {f : Str} {v : V} {r : List (Str × V)} : List.lookup f ((f, v) :: r) = some v := by
  have hb : (f == f) = true := beq_self_eq_true f
  simp only [List.lookup, hb]
section
variable {b : Nat} {d bd : Addr} {D : Nat}
theorem fl_bound : (flds b d bd D).lookup ("bound" : Str) = some (.int (b : Int)) := lk_cons_eq
theorem fl_rooms : (flds b d bd D).lookup ("_rooms" : Str) = some (.ref d) := (lk_cons_ne k_br).trans lk_cons_eq
theorem fl_board : (flds b d bd D).lookup ("_board" : Str) = some (.ref bd) := (lk_cons_ne k_bb).trans ((lk_cons_ne k_rb).trans lk_cons_eq)
theorem fl_depth : (flds b d bd D).lookup ("_depth" : Str) = some (.int (D : Int)) := (lk_cons_ne k_bd).trans ((lk_cons_ne k_rd).trans ((lk_cons_ne k_od).trans lk_cons_eq))
theorem fl_none {m : Str} (h1 : ¬ ("bound" : Str) = m := by decide +kernel) (h2 : ¬ ("_rooms" : Str) = m := by decide +kernel) (h3 : ¬ ("_board" : Str) = m := by decide +kernel) (h4 : ¬ ("_depth" : Str) = m := by decide +kernel) : (flds b d bd D).lookup m = none :=
  (lk_cons_ne h1).trans ((lk_cons_ne h2).trans ((lk_cons_ne h3).trans (lk_cons_ne h4)))
theorem pf_ne {f g : Str} {v x : V} {r : List (Str × V)} (h : ¬ g = f) : putF f v ((g, x) :: r) = (g, x) :: putF f v r := by
  show (if g = f then _ else _) = _
  rw [if_neg h]
theorem pf_eq {f : Str} {v x : V} {r : List (Str × V)} : putF f v ((f, x) :: r) = (f, v) :: r := by
  show (if f = f then _ else _) = _
  rw [if_pos rfl]
theorem fp_board {bd' : Addr} : putF "_board" (.ref bd') (flds b d bd D) = flds b d bd' D := by
  unfold flds
  rw [pf_ne k_bb, pf_ne k_rb, pf_eq]
theorem fp_depth {D' : Nat} : putF "_depth" (.int (D' : Int)) (flds b d bd D) = flds b d bd D' := by
  unfold flds
  rw [pf_ne k_bd, pf_ne k_rd, pf_ne k_od, pf_eq]
theorem fp_init : putF "_depth" (.int ((0 : Nat) : Int)) (putF "_board" (.ref bd) (putF "_rooms" (.ref d) (putF "bound" (.int (b : Int)) []))) = flds b d bd 0 := by
  unfold flds
  rw [show putF ("bound" : Str) (.int (b : Int)) [] = [(("bound" : Str), V.int (b : Int))] from rfl, pf_ne k_br, show ∀ f v, putF f v [] = [(f, v)] from fun _ _ => rfl, pf_ne k_bb, pf_ne k_rb, show ∀ f v, putF f v [] = [(f, v)] from fun _ _ => rfl, pf_ne k_bd, pf_ne k_rd, pf_ne k_od]
  rfl
theorem fl_len : (flds b d bd D).length = 4 := rfl
end
/-- the rooms' dict -/
abbrev KR (H : Hp) (kvs : List (Key × V)) (R : List Code) (ps : List (Int × Int)) : Prop := Paired (fun (kv : Key × V) (c : Code) => ∃ l, kv = (Sum.inr (bt c), V.ref l) ∧ LR rpT H l (thg ps c)) kvs R
section
variable {H H' : Hp} {kvs : List (Key × V)} {R : List Code} {ps qs : List (Int × Int)}
theorem kr_mono (e : ExW H H') : ∀ {kvs : List (Key × V)} {R : List Code}, KR H kvs R ps → KR H' kvs R ps
  | _, _, .nil => .nil
  | _, _, .cons ⟨l, h1, h2⟩ t => .cons ⟨l, h1, h2.monoW e⟩ (kr_mono e t)
theorem kr_get : ∀ {kvs : List (Key × V)} {R : List Code} {c : Code}, KR H kvs R ps → (∀ d ∈ R, Cv d) → Cv c → c ∈ R → ∃ l, valV kvs (Sum.inr (bt c)) = some (.ref l) ∧ LR rpT H l (thg ps c)
  | _, _, _, .nil, _, _, h => by simp at h
  | (_, _) :: _, d :: R, c, .cons ⟨l, h1, h2⟩ t, hv, hc, h => by
    obtain ⟨rfl, rfl⟩ := Prod.mk.inj h1
    by_cases e : d = c
    · subst e
      exact ⟨l, valV_pos rfl, h2⟩
    · rw [valV_neg (fun z => e (bt_inj (hv d List.mem_cons_self) hc (Sum.inr.inj z)))]
      exact kr_get t (fun d hd => hv d (List.mem_cons_of_mem _ hd)) hc ((List.mem_cons.mp h).resolve_left fun z => e z.symm)
theorem kr_none : ∀ {kvs : List (Key × V)} {R : List Code} {c : Code}, KR H kvs R ps → (∀ d ∈ R, Cv d) → Cv c → c ∉ R → valV kvs (Sum.inr (bt c)) = none
  | _, _, _, .nil, _, _, _ => rfl
  | (_, _) :: _, d :: R, c, .cons ⟨l, h1, h2⟩ t, hv, hc, h => by
    obtain ⟨rfl, rfl⟩ := Prod.mk.inj h1
    rw [valV_neg (fun z => h (by rw [← bt_inj (hv d List.mem_cons_self) hc (Sum.inr.inj z)]; exact List.mem_cons_self))]
    exact kr_none t (fun d hd => hv d (List.mem_cons_of_mem _ hd)) hc fun z => h (List.mem_cons_of_mem _ z)
theorem kr_drop : ∀ {kvs : List (Key × V)} {R : List Code} {c : Code}, KR H kvs R ps → (∀ d ∈ R, Cv d) → Cv c → KR H (dropK kvs (Sum.inr (bt c))) (R.filter fun d => decide (d ≠ c)) ps
  | _, _, _, .nil, _, _ => .nil
  | (_, _) :: _, d :: R, c, .cons ⟨l, h1, h2⟩ t, hv, hc => by
    obtain ⟨rfl, rfl⟩ := Prod.mk.inj h1
    have ih := kr_drop t (fun d hd => hv d (List.mem_cons_of_mem _ hd)) hc
    by_cases e : d = c
    · subst e
      rw [dropK_pos rfl, List.filter_cons, if_neg (by simp)]
      exact ih
    · rw [dropK_neg (fun z => e (bt_inj (hv d List.mem_cons_self) hc (Sum.inr.inj z))), List.filter_cons, if_pos (decide_eq_true e)]
      exact .cons ⟨l, rfl, h2⟩ ih
theorem kr_snoc {c : Code} {l : Addr} (h : KR H kvs R ps) (hv : ∀ d ∈ R, Cv d) (hc : Cv c) (hn : c ∉ R) (hl : LR rpT H l (thg ps c)) : KR H (putK kvs (Sum.inr (bt c)) (.ref l)) (R ++ [c]) ps := by
  rw [putK_new _ (kr_none h hv hc hn)]
  clear hn hv
  induction h with
  | nil => exact .cons ⟨l, rfl, hl⟩ .nil
  | cons a t ih => exact .cons a ih
theorem kr_any {c : Code} (h : KR H kvs R ps) (hv : ∀ d ∈ R, Cv d) (hc : Cv c) (hm : c ∈ R) : (kvs.any fun kv => decide (kv.1 = Sum.inr (bt c))) = true := by
  obtain ⟨l, h1, _⟩ := kr_get h hv hc hm
  rw [valV_any, h1]
  rfl
/-- the things of one room told anew -/
theorem kr_put {c : Code} {l : Addr} (h : KR H kvs R ps) (hv : ∀ d ∈ R, Cv d) (hc : Cv c) (hm : c ∈ R) (hl : LR rpT H l (thg qs c)) (ho : ∀ d ∈ R, d ≠ c → thg qs d = thg ps d) : KR H (putK kvs (Sum.inr (bt c)) (.ref l)) R qs := by
  unfold putK
  rw [if_pos (kr_any h hv hc hm)]
  clear hm
  induction h with
  | nil => exact .nil
  | @cons kv d kvs R a t ih =>
    obtain ⟨l2, rfl, h2⟩ := a
    refine .cons ?_ (ih (fun d hd => hv d (List.mem_cons_of_mem _ hd)) fun d hd hne => ho d (List.mem_cons_of_mem _ hd) hne)
    by_cases e : d = c
    · subst e
      exact ⟨l, if_pos rfl, hl⟩
    · exact ⟨l2, if_neg (fun z => e (bt_inj (hv d List.mem_cons_self) hc (Sum.inr.inj z))), by rw [ho d List.mem_cons_self e]; exact h2⟩
theorem kr_len : ∀ {kvs : List (Key × V)} {R : List Code}, KR H kvs R ps → kvs.length = R.length
  | _, _, .nil => rfl
  | _, _, .cons _ t => congrArg Nat.succ (kr_len t)
theorem kr_keys : ∀ {kvs : List (Key × V)} {R : List Code}, KR H kvs R ps → kvs.map (·.1) = (R.map bt).map Sum.inr
  | _, _, .nil => rfl
  | _, _, .cons ⟨l, h1, _⟩ t => by
    rw [List.map_cons, kr_keys t, h1]
    rfl
end
/-- a store at p, its rooms' dict at d, its board at bd -/
structure SA (C : Addr) (H : Hp) (p d bd : Addr) (kvs : List (Key × V)) (b : Nat) (R : List Code) (D : Nat) (ps : List (Int × Int)) : Prop where
  ob : ∃ dx, H p = some (.ins C dx (flds b d bd D))
  dc : H d = some (.dK kvs)
  rs : KR H kvs R ps
  br : LR rpC H bd (boardC R D)
section
variable {C : Addr} {H H' : Hp} {p d bd : Addr} {kvs : List (Key × V)} {b : Nat} {R : List Code} {D : Nat} {ps : List (Int × Int)}
theorem SA.mono (e : Ex H H') (h : SA C H p d bd kvs b R D ps) : SA C H' p d bd kvs b R D ps := by
  obtain ⟨⟨dx, h1⟩, h2, h3, h4⟩ := h
  exact ⟨⟨dx, e.k h1⟩, e.k h2, kr_mono e.w h3, h4.mono e⟩
/-- all but the store's two cells stand -/
structure ExS (p d : Addr) (H H' : Hp) : Prop where
  keep : ∀ (a : Addr) (o : HO), H a = some o → a ≠ p → a ≠ d → (∀ ps, o ≠ .tbl ps) → H' a = some o
  dom : ∀ a : Addr, H' a = none → H a = none
  tabs : TabsOk H → TabsOk H'
theorem Ex.s (e : Ex H H') : ExS p d H H' := ⟨fun a o h _ _ n => e.keep a o h n, e.dom, e.tabs⟩
theorem ExS.refl (H : Hp) : ExS p d H H := (Ex.refl H).s
theorem ExS.trans {H1 H2 : Hp} (a : ExS p d H H1) (b : ExS p d H1 H2) : ExS p d H H2 := ⟨fun x o h n m t => b.keep x o (a.keep x o h n m t) n m t, fun x h => a.dom x (b.dom x h), fun h => b.tabs (a.tabs h)⟩
/-- a dict or an instance changes: the tables stand -/
theorem TabsOk.mut {H : Hp} (h : TabsOk H) {x : Addr} {o u : HO} (hx : H x = some u) (hu : (∀ ps, u ≠ .tbl ps) ∧ (∀ φ, u ≠ .ext φ)) : TabsOk (upd H x o) := fun t ht => by
  obtain ⟨ps, h1, h2, h3⟩ := h t ht
  refine ⟨ps, by rw [upd_ne (ne_of h1 hx (by intro z; exact hu.1 ps z.symm))]; exact h1, h2, fun pos cv hc => ?_⟩
  obtain ⟨c, e1, e2⟩ := h3 pos cv hc
  exact ⟨c, e1, by rw [upd_ne (ne_of e2 hx (by intro z; unfold LamX.CodeO at z; exact hu.2 _ z.symm))]; exact e2⟩
theorem upd_dom {x : Addr} {o u : HO} (hx : H x = some u) : ∀ a, upd H x o a = none → H a = none := fun a h => by
  by_cases e : a = x
  · rw [e, upd_same] at h
    cases h
  · rw [upd_ne e] at h
    exact h
theorem ExS.updP {o : HO} {dx : Addr} {fs : List (Str × V)} (hp : H p = some (.ins C dx fs)) : ExS p d H (upd H p o) :=
  ⟨fun a u h n _ _ => by rw [upd_ne n]; exact h, upd_dom hp, fun t => t.mut hp ⟨(by intro _ z; cases z), (by intro _ z; cases z)⟩⟩
theorem ExS.updD {o : HO} {kvs : List (Key × V)} (hd : H d = some (.dK kvs)) : ExS p d H (upd H d o) :=
  ⟨fun a u h _ n _ => by rw [upd_ne n]; exact h, upd_dom hd, fun t => t.mut hd ⟨(by intro _ z; cases z), (by intro _ z; cases z)⟩⟩
theorem ExS.k (e : ExS p d H H') {a : Addr} {o : HO} (h : H a = some o) (n : a ≠ p) (m : a ≠ d) (t : ∀ ps, o ≠ .tbl ps := by intro _ z; cases z) : H' a = some o := e.keep a o h n m t
/-- lists and tuples stand -/
theorem ExS.w (e : ExS p d H H') {dx : Addr} {fs : List (Str × V)} {kvs : List (Key × V)} (hp : H p = some (.ins C dx fs)) (hd : H d = some (.dK kvs)) : ExW H H' :=
  ⟨fun a o h i => e.keep a o h (ne_of h hp (by intro z; rw [z] at i; exact i)) (ne_of h hd (by intro z; rw [z] at i; exact i)) (by intro ps z; rw [z] at i; exact i), e.dom, e.tabs⟩
theorem SA.w (h : SA C H p d bd kvs b R D ps) (e : ExS p d H H') : ExW H H' := by
  obtain ⟨dx, h1⟩ := h.ob
  exact e.w h1 h.dc
theorem SA.pd (h : SA C H p d bd kvs b R D ps) : p ≠ d := by
  obtain ⟨dx, h1⟩ := h.ob
  exact ne_of h1 h.dc (by intro z; cases z)
theorem SA.ob' (h : SA C H p d bd kvs b R D ps) : ∃ dx, H p = some (.ins C dx (flds b d bd D)) := h.ob
/-- another store stands -/
theorem SA.other {p2 d2 bd2 : Addr} {kvs2 : List (Key × V)} {b2 : Nat} {R2 : List Code} {D2 : Nat} {ps2 : List (Int × Int)} (h : SA C H p d bd kvs b R D ps) (h2 : SA C H p2 d2 bd2 kvs2 b2 R2 D2 ps2) (np : p2 ≠ p) (nd : d2 ≠ d) (e : ExS p d H H') : SA C H' p2 d2 bd2 kvs2 b2 R2 D2 ps2 := by
  obtain ⟨dx, h1⟩ := h.ob
  obtain ⟨dx2, g1⟩ := h2.ob
  have w := h.w e
  exact ⟨⟨dx2, e.k g1 np (ne_of g1 h.dc (by intro z; cases z))⟩, e.k h2.dc (ne_of h2.dc h1 (by intro z; cases z)) nd, kr_mono w h2.rs, h2.br.monoW w⟩
end

end
section
local macro_rules | `(tactic| walk_at "cond") => `(tactic| first | (with_reducible assumption) | decide | (show (0 : Int) < _; decide) | (exact ⟨by decide, by decide⟩) | (exact ⟨by decide, by decide, by decide⟩) | (exact ⟨by omega, by omega⟩) | (exact Or.inl ⟨by decide, by decide⟩) | (exact Or.inr ⟨by decide, by decide⟩) | (exact Or.inl ⟨by omega, by omega⟩) | (exact Or.inr ⟨by omega, by omega⟩) | omega)

local macro_rules | `(tactic| walk_at "seq") => `(tactic| first | (with_reducible assumption) | (exact sq_of (by with_reducible assumption)) | (exact st_of (by with_reducible assumption)) | (exact ex_l (by with_reducible assumption) (by with_reducible assumption)) | (exact ex_t (by with_reducible assumption) (by with_reducible assumption)))

local macro_rules | `(tactic| walk_at "rv") => `(tactic| first | (with_reducible exact rv_I0) | ((with_reducible apply rv_I); walk_at "cond") | ((with_reducible apply rv_eq); rfl) | ((with_reducible apply rv_ne); rfl) | (with_reducible exact rv_NT) | (with_reducible exact rv_isN) | ((with_reducible apply rv_add_str); walk_at "cond") | ((with_reducible apply rv_ixT); walk_at "seq"; rfl))

local macro_rules | `(tactic| walk_at "rc") => `(tactic| first | ((with_reducible apply rc_len); walk_at "seq") | ((with_reducible apply rc_lenT); walk_at "seq") | ((with_reducible apply rc_lenS); walk_at "cond") | (with_reducible exact rc_intB) | (with_reducible exact rc_typI) | ((with_reducible apply rc_strI); walk_at "cond") | (exact rc_isi tx_str kb_ss) | (exact rc_isi tx_int kb_ii) | (exact rc_isi tx_int kb_ib) | (exact rc_isi (tx_lst (by with_reducible assumption)) kb_ll) | (exact rc_isi (tx_tup (by with_reducible assumption)) kb_tt))

local macro_rules | `(tactic| walk_at "spv") => `(tactic| fail "no promise")

local macro_rules | `(tactic| walk_at "ea") => `(tactic| first | (with_reducible exact ea_nil) | ((with_reducible apply ea_cons); walk_at "ev"; walk_at "ea"))

local macro_rules | `(tactic| walk_at "eo") => `(tactic| first | (with_reducible exact eo_none) | ((with_reducible apply eo_some); walk_at "ev"))

local macro_rules | `(tactic| walk_at "ev") => `(tactic| first
  | (with_reducible exact ev_c)
  | ((with_reducible apply ev_var); rfl)
  | ((with_reducible apply ev_op); walk_at "ev"; walk_at "ev"; walk_at "rv")
  | ((with_reducible apply ev_cb); walk_at "ea"; walk_at "rc")
  | ((with_reducible apply ev_call); walk_at "ea"; walk_at "spv")
  | ((with_reducible apply ev_neg); walk_at "ev")
  | ((with_reducible apply ev_notV); walk_at "ev")
  | ((with_reducible apply ev_andV); walk_at "ev"; (intro _; walk_at "ev"))
  | ((with_reducible apply ev_orV); walk_at "ev"; (intro _; walk_at "ev")))

local macro_rules | `(tactic| walk_at "et") => `(tactic| first
  | ((with_reducible apply et_chain); walk_at "ev"; walk_at "ev"; walk_at "rv"; (intro _; walk_at "ev"); (intro _; walk_at "rv"))
  | ((with_reducible apply et_test); walk_at "ev")
  | ((with_reducible apply et_B); walk_at "ev")
  | ((with_reducible apply et_not); walk_at "et")
  | ((with_reducible apply et_or); walk_at "et"; (intro _; walk_at "et"))
  | ((with_reducible apply et_and); walk_at "et"; (intro _; walk_at "et")))

local macro_rules | `(tactic| walk_at "asg") => `(tactic| ((first | with_reducible apply q_asg | with_reducible apply s_asg); walk_at "ev"))

local macro_rules | `(tactic| walk_at "drop") => `(tactic| ((first | with_reducible apply q_drop | with_reducible apply s_drop); walk_at "ev"))

local macro_rules | `(tactic| walk_at "ret") => `(tactic| ((with_reducible apply s_retk); walk_at "ev"))

local macro_rules | `(tactic| walk_at "when") => `(tactic| ((first | with_reducible apply q_when | with_reducible apply s_when | with_reducible apply q_if | with_reducible apply s_if); walk_at "et"))

variable [TabCx]
/-! ### sorted(things, key=lambda thing: thing[0]) -/
theorem each_refs : ∀ {bs : List ((Int × Int) × Addr)}, PySem.W.EachIs (fun (u : Value) (b : (Int × Int) × Addr) => u = .ref b.2) (bs.map fun b => .ref b.2) bs
  | [] => .nil
  | _ :: _ => .cons rfl each_refs
theorem tab_uniq [TabCx] {t u : Addr × Str} (ht : t ∈ TabCx.T) (hu : u ∈ TabCx.T) (h : t.1 = u.1) : t = u := by
  have nd := TabCx.nd
  generalize TabCx.T = L at ht hu nd
  induction L with
  | nil => simp at ht
  | cons a l ih =>
    rw [List.map_cons, List.nodup_cons] at nd
    rcases List.mem_cons.mp ht with e | e <;> rcases List.mem_cons.mp hu with f | f
    · rw [e, f]
    · exact absurd (List.mem_map_of_mem (f := (·.1)) f) (by rw [← h, e]; exact nd.1)
    · exact absurd (List.mem_map_of_mem (f := (·.1)) e) (by rw [h, f]; exact nd.1)
    · exact ih e f nd.2
theorem refs_each : ∀ {us : List Value} {bs : List ((Int × Int) × Addr)}, PySem.W.EachIs (fun (u : Value) (b : (Int × Int) × Addr) => u = .ref b.2) us bs → us = bs.map fun b => .ref b.2
  | _, _, .nil => rfl
  | _, _, .cons h t => by
    rw [refs_each t, h]
    rfl
theorem thg_split {H : Hp} : ∀ {xs : List V} {ps : List (Int × Int)}, PR rpT H xs ps → ∃ bs : List ((Int × Int) × Addr), bs.map (·.1) = ps ∧ xs = bs.map (fun b => .ref b.2) ∧ ∀ b ∈ bs, H b.2 = some (.tup [.int b.1.1, .int b.1.2])
  | _, _, .nil => ⟨[], rfl, rfl, by simp⟩
  | _, _, .cons ⟨t, e, h⟩ r => by
    obtain ⟨bs, h1, h2, h3⟩ := thg_split r
    refine ⟨(_, t) :: bs, by rw [List.map_cons, h1], by rw [e, h2]; rfl, fun b hb => ?_⟩
    rcases List.mem_cons.mp hb with q | q
    · rw [q]
      exact h
    · exact h3 b q
theorem thg_join {H : Hp} : ∀ {bs : List ((Int × Int) × Addr)}, (∀ b ∈ bs, H b.2 = some (.tup [.int b.1.1, .int b.1.2])) → PR rpT H (bs.map fun b => .ref b.2) (bs.map (·.1))
  | [], _ => .nil
  | b :: r, h => .cons ⟨b.2, rfl, h b List.mem_cons_self⟩ (thg_join fun c hc => h c (List.mem_cons_of_mem _ hc))
theorem vals_refs {bs : List ((Int × Int) × Addr)} : ∀ {us : List Value}, Vals (bs.map fun b => V.ref b.2) us → us = bs.map fun b => .ref b.2 := by
  induction bs with
  | nil =>
    intro us r
    cases r
    rfl
  | cons b r ih =>
    intro us h
    cases h with
    | cons h t =>
      rw [ih t, show _ = Value.ref b.2 from h]
      rfl
theorem refs_vals : ∀ {bs : List ((Int × Int) × Addr)}, Vals (bs.map fun b => V.ref b.2) (bs.map fun b => Value.ref b.2)
  | [] => .nil
  | _ :: _ => .cons rfl refs_vals
section
variable {X : Cx}
/-- told by the pieces ps: new list, the pieces in order of their names -/
def tSortLam (K : PySem.W.Frag) (P : Addr) (lq : Str) (te : TE) : TE := fun σ H Q => te σ H fun x H1 => ∃ (a : Addr) (xs : List V) (ps : List (Int × Int)), x = .ref a ∧ SqL K H1 a xs ∧ PR rpT H1 xs ps ∧ TabsOk H1 ∧
  ∀ (p : Addr) (qs : List (Int × Int)) (B : Hp), qs.Perm ps → qs.Pairwise (fun (a b : Int × Int) => a.1 ≤ b.1) → H1 p = none → Ex H1 B → LR rpT B p qs → Q (.ref p) B
open PySem.Spec PyProof.Rows in
set_option maxHeartbeats 2000000 in
/-- a lambda is made: where its code is new the table is written, else all stands -/
theorem lam_made {pins : List (Addr × Obj)} {σ : L2.St} {H : Hp} {s : Shared} {c P : Addr} {lq : Str} {params : Arguments} {body : Expr} {scope : Scope} {pos : Pos} {E : Value → Shared → Prop} {Q : Value → Shared → Prop}
    (I : L2.Inv X pins σ H s) (TB : LamX.TabB X.base X.mg c P) (hcode : X.env.code = .ref c) (hq : X.env.qual ++ Str.ofString "<lambda>" = lq) (hT : TabsOk H) (hm : (P, lq) ∈ TabCx.T)
    (hdef : defaultsOf params X.env = ([], [])) (hfree : ∀ y ∈ scope.names, y.2 = .free → ∃ c, X.env.cells.lookup y.1 = some c)
    (go : ∀ (f c' : Addr) (pm ctv : Value) (B : Hp) (s' : Shared), L2.Inv X pins σ B s' → Ex H B →
      s'.heap.get? f = some (PySem.W.kla_obj "<lambda>" lq params body scope (cloFrom X.env.cells scope.names []) pm c' ctv) → B c' = some (LamX.CodeO c' lq) → Q (.ref f) s') :
    wpAny (model X.prog X.w) X.A (eval (.Lambda params body scope pos) X.env) Q E s := by
  obtain ⟨ps, hP, trip, known⟩ := hT (P, lq) hm
  refine PySem.W.kla_eval hdef ?_
  rw [hq]
  have bm : s.heap.BuiltinsAt X.mg P := TB.bm.keeps I.bk
  have gP : s.heap.get? P = some { cls := .none, data := .fields ps } := I.hok P _ hP
  have gl := I.mod.glob.keeps I.bk
  have cd := TB.code.keeps I.bk
  cases found : codeAmong pos ps.toList with
  | some cv =>
    obtain ⟨c', rfl, hc'⟩ := known pos cv found
    refine PySem.W.kla_makeFunctionHit (closure_ok hfree) I.ok.glob gl hcode cd gP trip found bm fun ctv h' tk keep grown => ?_
    exact go _ c' ((X.mg "__name__").getD .none) ctv H _ (I.kept fun b o e => Heap.get?_push_of_some _ (keep b o e)) (.refl H) (Heap.get?_push_size _ rfl) hc'
  | none =>
    refine PySem.W.kla_makeFunction (closure_ok hfree) I.ok.glob gl hcode cd gP trip found TB.gP bm fun c' ctv h' tk keep ge lt record table => ?_
    obtain ⟨_, oc, vs, t, e2, hoc, hd, hv⟩ := record
    cases e2
    have free' : H c' = none := I.hok.fresh ge
    have neP : P ≠ c' := ne_of_none hP free'
    refine go h'.objs.size c' ((X.mg "__name__").getD .none) ctv _ _ (LamX.inv_table (q := lq) (t' := tk) (more := #[rawInt pos.line, rawInt pos.col, .ref c']) I hP (fun b o hb e => Heap.get?_push_of_some _ (keep b o hb e))
      (Heap.get?_push_of_some _ table) ge ⟨oc, vs, t, Heap.get?_push_of_some _ hoc, hd, hv⟩) ⟨fun b o e n => ?_, fun b e => ?_, fun t' t ht => ?_⟩ (Heap.get?_push_size _ rfl) upd_same
    · have n1 : b ≠ P := fun z => n ps (by rw [z, hP] at e; exact (Option.some.inj e).symm)
      rw [upd_ne (ne_of_none e free'), upd_ne n1]
      exact e
    · by_cases z : b = c'
      · rw [z]
        exact free'
      · rw [upd_ne z] at e
        by_cases z2 : b = P
        · rw [z2, upd_same] at e
          cases e
        · rw [upd_ne z2] at e
          exact e
    · have old : ∀ d lq0, H d = some (LamX.CodeO d lq0) → (upd (upd H P (.tbl (ps ++ #[rawInt pos.line, rawInt pos.col, .ref c']))) c' (LamX.CodeO c' lq)) d = some (LamX.CodeO d lq0) := fun d lq0 e => by
        have n1 : d ≠ P := ne_of e hP (by intro z; unfold LamX.CodeO at z; cases z)
        rw [upd_ne (ne_of_none e free'), upd_ne n1]
        exact e
      by_cases z : t.1 = P
      · have e1 : t = (P, lq) := by
          have := tab_uniq ht hm z
          exact this
        subst e1
        have el : (ps ++ #[rawInt pos.line, rawInt pos.col, Value.ref c']).toList = ps.toList ++ [rawInt pos.line, rawInt pos.col, .ref c'] := by simp
        refine ⟨ps ++ #[rawInt pos.line, rawInt pos.col, .ref c'], (by rw [upd_ne neP, upd_same]), by rw [el]; exact PySem.TriplesOk_snoc _ _ _ _ trip, fun pos' cv hc => ?_⟩
        rw [el] at hc
        rcases LamX.among_app _ trip hc with z | z
        · obtain ⟨d, e1, e2⟩ := known pos' cv z
          exact ⟨d, e1, old d _ e2⟩
        · exact ⟨c', z, upd_same⟩
      · obtain ⟨ps', e1, e2, e3⟩ := t' t ht
        refine ⟨ps', by rw [upd_ne (ne_of_none e1 free'), upd_ne z]; exact e1, e2, fun pos' cv hc => ?_⟩
        obtain ⟨d, g1, g2⟩ := e3 pos' cv hc
        exact ⟨d, g1, old d _ g2⟩
open PySem.Spec PyProof.Rows in
set_option maxHeartbeats 2000000 in
theorem lam_key {prog : Program} {w : World} {A : Around} {s : Shared} {f c' t : Addr} {n v : Int} {qual y : Str} {params : Arguments} {scope : Scope} {cl : List (Str × Addr)} {pm ctv : Value} {q1 q2 q3 : Pos} {j : Nat} {its : List Value}
    (hroom : A.depth < recursionLimit) (hlim : s.heap.NoLimit)
    (hf : s.heap.get? f = some (PySem.W.kla_obj "<lambda>" qual params (.Subscript (.Name y q1) (.Constant (.int 0) j q2) q3) scope cl pm c' ctv))
    (hc : ∃ (oc : Obj) (vs : Array Value) (tq : Tok), s.heap.get? c' = some oc ∧ oc.data = .fields vs ∧ vs[1]? = some (.str qual tq))
    (ht : IsTup s.heap t its.toArray) (hi : Vals [.int n, .int v] its)
    (hk : scope.kind = .function) (hco : scope.isCoroutine = false) (hgen : scope.isGenerator = false) (hcell : ∀ x ∈ scope.names, x.2 ≠ .cell) (hy : scope.names.lookup y = some .local) (hdb : (y == ("__debug__" : Str)) = false)
    (hb : ∀ u : Value, bindArgs (PySem.W.kla_fn "<lambda>" qual params (.Subscript (.Name y q1) (.Constant (.int 0) j q2) q3) scope cl pm (.ref c') ctv) ⟨[u], []⟩ = pure [(y, u)]) :
    wpAny (model prog w) A (call (.ref f) [.ref t]) (PySem.W.KeyPure (.int n) s) (fun _ _ => False) s := by
  obtain ⟨oc, vs, tq, hoc, hdc, hvc⟩ := hc
  refine wpAny_call (PySem.W.kla_callFunE hroom hf rfl hco hgen rfl ⟨c', oc, vs, tq, rfl, hoc, hdc, hvc⟩ ?_)
  rw [hb]
  refine wpAny_pure (wpAny_newFunctionEnv hcell (fun x hx => by
    rw [List.mem_singleton.mp hx]
    exact hy) (fun h1 hns hsb => ⟨hlim.fresh _ hsb, ?_⟩) hk)
  show codeAny _ _ (.expr (.Subscript (.Name y q1) (.Constant (.int 0) j q2) q3) (PySem.W.envX qual scope s.heap.objs.size f (.ref c') cl)) _ _
  have ek : ∀ b o, s.heap.get? b = some o → h1.get? b = some o := fun b o e => hsb.extBut b o (Nat.ne_of_lt (Heap.lt_size e)) (Heap.get?_push_of_some _ e)
  obtain ⟨o1, ho1, ho2⟩ := ht
  have ht1 : IsTup h1 t its.toArray := ⟨o1, ek _ _ ho1, ho2⟩
  obtain ⟨u1, u2, rfl, r1, r2⟩ := vals2 hi
  obtain ⟨tn, rfl⟩ := r1
  refine PySem.W.kla_codeExpr (Subscript_ (wpAny_Name (wpAny_loadName_local (v := .ref t) hk ?_ hns ?_ (wpAny_Constant_int ?_)) hdb))
  · show scope.names.lookup y = some .local
    exact hy
  · show List.lookup y [(y, Value.ref t)] = some (.ref t)
    simp [List.lookup]
  · refine subscriptTail_builtinR (x := .int n tn) ht1.typeIs slot_tuple_getitem.lookup (getItem_tuple (j := 0) (Q := fun r s' => r = .int n tn ∧ _) ht1 (by decide) (by decide) (by rfl) (by rfl) ⟨rfl, ?_⟩) rfl
    exact ⟨h1, _, rfl, ek, .int _ _⟩
def onOne (q : V → Hp → Prop) : List V → Hp → Prop := fun vs H => match vs with
  | [x] => q x H
  | _ => False
theorem onOne_is {q : V → Hp → Prop} {vs : List V} {H : Hp} (h : onOne q vs H) : ∃ x, vs = [x] ∧ q x H := by
  match vs, h with
  | [x], h => exact ⟨x, rfl, h⟩
open PySem.Spec PyProof.Rows in
set_option maxHeartbeats 4000000 in
theorem pe_sortLam {e : Expr} {te : TE} {P c : Addr} {lq : Str} {y : Str} {params : Arguments} {scope : Scope} {p pos lp kp q1 q2 q3 : Pos} {j k : Nat} (TB : LamX.TabB X.base X.mg c P) (hmT : (P, lq) ∈ TabCx.T) (hcode : X.env.code = .ref c) (hq : X.env.qual ++ Str.ofString "<lambda>" = lq) (hr : Room k X.A) (hk2 : 2 ≤ k)
    (hg : Gl X "sorted") (hm : X.mg "sorted" = none) (ha : PE X e te)
    (hdef : defaultsOf params X.env = ([], [])) (hk : scope.kind = .function) (hco : scope.isCoroutine = false) (hgen : scope.isGenerator = false) (hloc : ∀ x ∈ scope.names, x.2 = .local) (hy : scope.names.lookup y = some .local) (hdb : (y == ("__debug__" : Str)) = false)
    (hb0 : ∀ (pm ctv u : Value) (c' : Addr), bindArgs (PySem.W.kla_fn "<lambda>" lq params (.Subscript (.Name y q1) (.Constant (.int 0) j q2) q3) scope (cloFrom X.env.cells scope.names []) pm (.ref c') ctv) ⟨[u], []⟩ = pure [(y, u)])
    (hs : starEach [e] X.env = (false, eval e X.env) :: starEach [] X.env := by rfl) (he : backTo pos (starEach [e] X.env) = (false, eval e X.env) :: backTo pos (starEach [] X.env) := by rfl) (hpl : (backTo pos (starEach [e] X.env)).any (·.1) = false := by rfl) :
    PE X (.Call (.Name "sorted" p) [e] [⟨some "key", .Lambda params (.Subscript (.Name y q1) (.Constant (.int 0) j q2) q3) scope lp, kp⟩] pos) (tSortLam X.K P lq te) := by
  refine ⟨fun pins s σ H Q I h => ?_⟩
  refine wpAny_Call_Name_kw (ld_blt I hg hm (show bootBuiltins "sorted" = some (.builtin "sorted") by decide +kernel) ?_ (by decide) (by decide))
  refine PyProof.Rows.callWith_kw (thn ((pa_cons ha pa_nil hs).run pos pins s σ H (onOne fun x H1 => ∃ (a : Addr) (xs : List V) (ps : List (Int × Int)), x = V.ref a ∧ SqL X.K H1 a xs ∧ PR rpT H1 xs ps ∧ TabsOk H1 ∧
      ∀ (p : Addr) (qs : List (Int × Int)) (B : Hp), qs.Perm ps → qs.Pairwise (fun (a b : Int × Int) => a.1 ≤ b.1) → H1 p = none → Ex H1 B → LR rpT B p qs → Q (.ref p) B) I h) fun us s1 ⟨vs, H1, I1, r1, z1⟩ => ?_) he hpl (by rfl) (by rfl)
  · obtain ⟨x0, rfl, z1⟩ := onOne_is z1
    obtain ⟨a, xs, ps, rfl, hS, hP, hT, kQ⟩ := z1
    obtain ⟨ua, rfl, ra⟩ := vals1 r1
    obtain rfl : ua = Value.ref a := ra
    show wpAny _ _ (evalAll ((do let v ← eval (.Lambda params (.Subscript (.Name y q1) (.Constant (.int 0) j q2) q3) scope lp) X.env; standAt pos; pure v) :: [])) _ _ _
    refine wpAny_evalAll_cons (wpAny_bind ?_)
    refine lam_made I1 TB hcode hq hT hmT hdef (fun x hx e => by rw [hloc x hx] at e; cases e) fun f c' pm ctv H2 s2 I2 eX hf hco' => ?_
    refine wpAny_bind (wpAny_standAt (wpAny_pure (wpAny_evalAll_nil ?_)))
    show wpAny _ _ (call (.builtin "sorted") [.ref a] [(Str.ofString "key", .ref f)]) _ _ _
    obtain ⟨bs, hb1, rfl, hb3⟩ := thg_split (pr_mono eX hP)
    have hS2 := ex_l eX hS
    obtain ⟨its, rv, pl, hz⟩ := I2.list hS2
    have hits := vals_refs rv
    subst hits
    have hlen : bs.length ≤ sizeLine := by simpa using hz
    obtain ⟨⟨oc, vsc, tq, hoc, hdc, hvc⟩, _, _⟩ := I2.hok c' _ hco'
    refine PySem.W.sorted_key_data (b := false) (R := fun (u : Value) (b : (Int × Int) × Addr) => u = .ref b.2) (bs := bs) (fun b : (Int × Int) × Addr => .int b.1.1) pl.isList each_refs (PySem.W.AllAlike.of fun _ _ => by simp [PySem.W.alike]) (PySem.W.Sortable.others fun _ => ?_) hlen (fun b _ => ?_) (PyProof.Rows.ksk_s1 _ _) (fun _ => PyProof.Rows.ksk_l1 _ _) (fun _ => PyProof.Rows.ksk_t1 _ _) (fun u b hu hb hh tk kp => ?_) fun out cc h' tk kp hfr' hD hl eo => ?_
    · exact ⟨fun z => (by cases z), fun xs z => (by cases z)⟩
    · have z := hr.un
      show X.A.units + 2 + PyData.depth (.int _) < cLine
      have z0 : PyData.depth (.int b.1.1) = 0 := by simp [PyData.depth]
      omega
    · subst hu
      obtain ⟨_, its, rvi, hti⟩ := I2.hok b.2 _ (hb3 b hb)
      obtain ⟨o1, ho1, ho2⟩ := hti
      exact lam_key (s := { s2 with heap := hh, toks := tk }) ((hr.mono hk2).in1.in1.depth) (I2.nolimit.keeps kp) (kp _ _ hf) ⟨oc, vsc, tq, kp _ _ hoc, hdc, hvc⟩ ⟨o1, kp _ _ ho1, ho2⟩ rvi hk hco hgen (fun x hx e => by rw [hloc x hx] at e; cases e) hy hdb (fun u => hb0 pm ctv u c')
    · have eo' := refs_each eo
      subst eo'
      have perm : (bs.mergeSort (PySem.W.dataLe false fun b : (Int × Int) × Addr => .int b.1.1)).Perm bs := List.mergeSort_perm bs _
      have hz2 : ((bs.mergeSort (PySem.W.dataLe false fun b : (Int × Int) × Addr => .int b.1.1)).map fun b => V.ref b.2).length ≤ sizeLine := by
        rw [List.length_map, perm.length_eq]
        exact hlen
      have np : H2 (s2.heap.objs.size + 1) = none := I2.hok.fresh (Nat.le_succ _)
      have mem : ∀ b ∈ bs.mergeSort (PySem.W.dataLe false fun b : (Int × Int) × Addr => .int b.1.1), (upd H2 (s2.heap.objs.size + 1) (.lst ((bs.mergeSort (PySem.W.dataLe false fun b : (Int × Int) × Addr => .int b.1.1)).map fun b => V.ref b.2))) b.2 = some (.tup [.int b.1.1, .int b.1.2]) := fun b hb => by
        have z := hb3 b (perm.mem_iff.mp hb)
        rw [upd_ne (ne_of_none z np)]
        exact z
      refine ⟨.ref _, upd H2 (s2.heap.objs.size + 1) (.lst ((bs.mergeSort (PySem.W.dataLe false fun b : (Int × Int) × Addr => .int b.1.1)).map fun b => V.ref b.2)), I2.laid (t' := tk) kp (Nat.le_succ _) ⟨hz2, _, cc, refs_vals, hD⟩, rfl, ?_⟩
      refine kQ _ ((bs.mergeSort (PySem.W.dataLe false fun b : (Int × Int) × Addr => .int b.1.1)).map (·.1)) _ ?_ ?_ (fresh_back eX np) (eX.trans (.new np)) ⟨_, upd_same, thg_join mem⟩
      · rw [← hb1]
        exact perm.map _
      · rw [PySem.W.dataLe_int (fun b : (Int × Int) × Addr => b.1.1)]
        rw [List.pairwise_map]
        have z := List.pairwise_mergeSort (le := fun a b : (Int × Int) × Addr => decide (a.1.1 ≤ b.1.1)) (fun a b c h1 h2 => by
          have h1 := of_decide_eq_true h1
          have h2 := of_decide_eq_true h2
          exact decide_eq_true (Int.le_trans h1 h2)) (fun a b => by
          rcases Int.le_total a.1.1 b.1.1 with z | z
          · rw [decide_eq_true z]; rfl
          · rw [decide_eq_true z, Bool.or_true]) bs
        exact z.imp fun h => of_decide_eq_true h
end

end
section
local macro_rules | `(tactic| walk_at "cond") => `(tactic| first | (with_reducible assumption) | decide | (show (0 : Int) < _; decide) | (exact ⟨by decide, by decide⟩) | (exact ⟨by decide, by decide, by decide⟩) | (exact ⟨by omega, by omega⟩) | (exact Or.inl ⟨by decide, by decide⟩) | (exact Or.inr ⟨by decide, by decide⟩) | (exact Or.inl ⟨by omega, by omega⟩) | (exact Or.inr ⟨by omega, by omega⟩) | omega)

local macro_rules | `(tactic| walk_at "seq") => `(tactic| first | (with_reducible assumption) | (exact sq_of (by with_reducible assumption)) | (exact st_of (by with_reducible assumption)) | (exact ex_l (by with_reducible assumption) (by with_reducible assumption)) | (exact ex_t (by with_reducible assumption) (by with_reducible assumption)))

local macro_rules | `(tactic| walk_at "rv") => `(tactic| first | (with_reducible exact rv_I0) | ((with_reducible apply rv_I); walk_at "cond") | ((with_reducible apply rv_eq); rfl) | ((with_reducible apply rv_ne); rfl) | (with_reducible exact rv_NT) | (with_reducible exact rv_isN) | ((with_reducible apply rv_add_str); walk_at "cond") | ((with_reducible apply rv_ixT); walk_at "seq"; rfl))

local macro_rules | `(tactic| walk_at "rc") => `(tactic| first | ((with_reducible apply rc_len); walk_at "seq") | ((with_reducible apply rc_lenT); walk_at "seq") | ((with_reducible apply rc_lenS); walk_at "cond") | (with_reducible exact rc_intB) | (with_reducible exact rc_typI) | ((with_reducible apply rc_strI); walk_at "cond") | (exact rc_isi tx_str kb_ss) | (exact rc_isi tx_int kb_ii) | (exact rc_isi tx_int kb_ib) | (exact rc_isi (tx_lst (by with_reducible assumption)) kb_ll) | (exact rc_isi (tx_tup (by with_reducible assumption)) kb_tt))

local macro_rules | `(tactic| walk_at "spv") => `(tactic| fail "no promise")

local macro_rules | `(tactic| walk_at "ea") => `(tactic| first | (with_reducible exact ea_nil) | ((with_reducible apply ea_cons); walk_at "ev"; walk_at "ea"))

local macro_rules | `(tactic| walk_at "eo") => `(tactic| first | (with_reducible exact eo_none) | ((with_reducible apply eo_some); walk_at "ev"))

local macro_rules | `(tactic| walk_at "ev") => `(tactic| first
  | (with_reducible exact ev_c)
  | ((with_reducible apply ev_var); rfl)
  | ((with_reducible apply ev_op); walk_at "ev"; walk_at "ev"; walk_at "rv")
  | ((with_reducible apply ev_cb); walk_at "ea"; walk_at "rc")
  | ((with_reducible apply ev_call); walk_at "ea"; walk_at "spv")
  | ((with_reducible apply ev_neg); walk_at "ev")
  | ((with_reducible apply ev_notV); walk_at "ev")
  | ((with_reducible apply ev_andV); walk_at "ev"; (intro _; walk_at "ev"))
  | ((with_reducible apply ev_orV); walk_at "ev"; (intro _; walk_at "ev")))

local macro_rules | `(tactic| walk_at "et") => `(tactic| first
  | ((with_reducible apply et_chain); walk_at "ev"; walk_at "ev"; walk_at "rv"; (intro _; walk_at "ev"); (intro _; walk_at "rv"))
  | ((with_reducible apply et_test); walk_at "ev")
  | ((with_reducible apply et_B); walk_at "ev")
  | ((with_reducible apply et_not); walk_at "et")
  | ((with_reducible apply et_or); walk_at "et"; (intro _; walk_at "et"))
  | ((with_reducible apply et_and); walk_at "et"; (intro _; walk_at "et")))

local macro_rules | `(tactic| walk_at "asg") => `(tactic| ((first | with_reducible apply q_asg | with_reducible apply s_asg); walk_at "ev"))

local macro_rules | `(tactic| walk_at "drop") => `(tactic| ((first | with_reducible apply q_drop | with_reducible apply s_drop); walk_at "ev"))

local macro_rules | `(tactic| walk_at "ret") => `(tactic| ((with_reducible apply s_retk); walk_at "ev"))

local macro_rules | `(tactic| walk_at "when") => `(tactic| ((first | with_reducible apply q_when | with_reducible apply s_when | with_reducible apply q_if | with_reducible apply s_if); walk_at "et"))

variable [TabCx]
theorem okN {P : Program} {w : World} {K : PySem.W.Frag} {mg : Str → Option Value} {base : Heap} {x qual : Str} {st : Stmt} {f : Addr} {fd : FuncData} {N ps : List Str} {k : Nat} {sp : Sp} (F : Fun K x qual st f fd) (S : FnScope N ps (defScope st)) (len : ∀ (vs : List V) (H : Hp) (Q : VK) (E : XK), sp vs H Q E → vs.length = ps.length)
    (body : ∀ (cdv : Value) (A : Around) (outer : List Env) (s : Shared) (H : Hp) (vs : List V) (Q : VK) (E : XK), Room k (A.deeper (PyProof.Rows.envOfC qual (defScope st) s.heap.objs.size f cdv)) → sp vs H Q E →
      ∃ t, PSs (cxOf (L2N.CX P w) P w K mg base N qual (defScope st) f cdv A outer s H E) (defBody st) t ∧ t { nx := fun _ H' => Q V.non H', rt := Q } (L2.start N vs) H) : FnOk P w K mg base (L2N.CX P w) (k + 1) f fd ps sp := by
  obtain ⟨oc, od, kV, doc, pm, an, cdv, ct, osl, rfl, lk, hcd⟩ := F.ex
  exact fn_of lk hcd S len (body cdv)
theorem takesN0 {X : Cx} : L2N.Takes X (fun _ _ _ _ => False) := fun u s' h => by
  obtain ⟨_, _, _, _, _, _, _, _, _, _, _, _, _, _, _, _, h⟩ := h
  exact h.elim
/-- o.m(e, ..) of a method that may raise, its way out by the slots -/
def tMethP (C : Addr) (m : Str) (sp : Sp) (E : St → XK) (ta : TE) (t : TA) : TE := fun σ H Q => ta σ H fun x H1 => ∃ a dx fs, x = .ref a ∧ H1 a = some (.ins C dx fs) ∧ fs.lookup m = none ∧ t σ H1 fun vs H2 => sp (x :: vs) H2 Q (E σ)
theorem pe_methP {X : Cx} {CX : CXT} {k : Nat} {f C : Addr} {fd : FuncData} {ps : List Str} {sp : Sp} {E : St → XK} {m : Str} {pos apos : Pos} {e o : Expr} {es : List Expr} {ta : TE} {t : TA} {pl : Sem Bool} (he : PE X o ta) (c : Cls X.K C) (hm : Meth X.K C m f) (F : FnOk X.prog X.w X.K X.mg X.base CX k f fd ps sp) (hr : Room k X.A) (hb : Binds X.K fd ps []) (hx : ∀ σ, PassesAt CX X σ (E σ)) (ha : PA X (e :: es) t)
    (hst : starEach (e :: es) X.env = (false, eval e X.env) :: starEach es X.env := by rfl) (hpl : (backTo pos (starEach es X.env)).any (·.1) = false := by rfl)
    (ht : eval (.Call (.Attribute o m apos) (e :: es) [] pos) X.env = (do
      let ov ← eval o X.env
      standAt apos.atName
      let (f, first) ← holding [ov] (getMethod ov m pl)
      callWith pos f first (backTo pos (starEach (e :: es) X.env)) (backToKw pos (keywordEach [] X.env))) := by rfl) :
    PE X (.Call (.Attribute o m apos) (e :: es) [] pos) (tMethP C m sp E ta t) := by
  refine ⟨fun pins s σ H Q I h => ?_⟩
  refine PySem.W.methodCall_KW (pl := pl) (thn (he.run pins s σ H _ I h) fun u s1 ⟨x, H1, I1, rx, a, dx, fs, ex, ea, l, q⟩ => ?_) ht
  subst ex
  obtain rfl : u = Value.ref a := rx
  refine getmeth_ok I1 ea c hm l ?_
  refine PySem.W.callWith_K (first := [.ref a]) (h₀ := X.base) I.ok.mod.kin hm.kp (thn (ha.run pos pins s1 σ H1 _ I1 q) fun us s2 ⟨vs, H2, I2, r, q2⟩ => ⟨I2.kIn, ?_⟩) hst hpl
  exact run_fnS (us := .ref a :: us) (vs := .ref a :: vs) F hr hb (hx σ) I2 (.cons rfl r) q2

end
section
local macro_rules | `(tactic| walk_at "cond") => `(tactic| first | (with_reducible assumption) | decide | (show (0 : Int) < _; decide) | (exact ⟨by decide, by decide⟩) | (exact ⟨by decide, by decide, by decide⟩) | (exact ⟨by omega, by omega⟩) | (exact Or.inl ⟨by decide, by decide⟩) | (exact Or.inr ⟨by decide, by decide⟩) | (exact Or.inl ⟨by omega, by omega⟩) | (exact Or.inr ⟨by omega, by omega⟩) | omega)

local macro_rules | `(tactic| walk_at "seq") => `(tactic| first | (with_reducible assumption) | (exact sq_of (by with_reducible assumption)) | (exact st_of (by with_reducible assumption)) | (exact ex_l (by with_reducible assumption) (by with_reducible assumption)) | (exact ex_t (by with_reducible assumption) (by with_reducible assumption)))

local macro_rules | `(tactic| walk_at "rv") => `(tactic| first | (with_reducible exact rv_I0) | ((with_reducible apply rv_I); walk_at "cond") | ((with_reducible apply rv_eq); rfl) | ((with_reducible apply rv_ne); rfl) | (with_reducible exact rv_NT) | (with_reducible exact rv_isN) | ((with_reducible apply rv_add_str); walk_at "cond") | ((with_reducible apply rv_ixT); walk_at "seq"; rfl))

local macro_rules | `(tactic| walk_at "rc") => `(tactic| first | ((with_reducible apply rc_len); walk_at "seq") | ((with_reducible apply rc_lenT); walk_at "seq") | ((with_reducible apply rc_lenS); walk_at "cond") | (with_reducible exact rc_intB) | (with_reducible exact rc_typI) | ((with_reducible apply rc_strI); walk_at "cond") | (exact rc_isi tx_str kb_ss) | (exact rc_isi tx_int kb_ii) | (exact rc_isi tx_int kb_ib) | (exact rc_isi (tx_lst (by with_reducible assumption)) kb_ll) | (exact rc_isi (tx_tup (by with_reducible assumption)) kb_tt))

local macro_rules | `(tactic| walk_at "spv") => `(tactic| fail "no promise")

local macro_rules | `(tactic| walk_at "ea") => `(tactic| first | (with_reducible exact ea_nil) | ((with_reducible apply ea_cons); walk_at "ev"; walk_at "ea"))

local macro_rules | `(tactic| walk_at "eo") => `(tactic| first | (with_reducible exact eo_none) | ((with_reducible apply eo_some); walk_at "ev"))

local macro_rules | `(tactic| walk_at "ev") => `(tactic| first
  | (with_reducible exact ev_c)
  | ((with_reducible apply ev_var); rfl)
  | ((with_reducible apply ev_op); walk_at "ev"; walk_at "ev"; walk_at "rv")
  | ((with_reducible apply ev_cb); walk_at "ea"; walk_at "rc")
  | ((with_reducible apply ev_call); walk_at "ea"; walk_at "spv")
  | ((with_reducible apply ev_neg); walk_at "ev")
  | ((with_reducible apply ev_notV); walk_at "ev")
  | ((with_reducible apply ev_andV); walk_at "ev"; (intro _; walk_at "ev"))
  | ((with_reducible apply ev_orV); walk_at "ev"; (intro _; walk_at "ev")))

local macro_rules | `(tactic| walk_at "et") => `(tactic| first
  | ((with_reducible apply et_chain); walk_at "ev"; walk_at "ev"; walk_at "rv"; (intro _; walk_at "ev"); (intro _; walk_at "rv"))
  | ((with_reducible apply et_test); walk_at "ev")
  | ((with_reducible apply et_B); walk_at "ev")
  | ((with_reducible apply et_not); walk_at "et")
  | ((with_reducible apply et_or); walk_at "et"; (intro _; walk_at "et"))
  | ((with_reducible apply et_and); walk_at "et"; (intro _; walk_at "et")))

local macro_rules | `(tactic| walk_at "asg") => `(tactic| ((first | with_reducible apply q_asg | with_reducible apply s_asg); walk_at "ev"))

local macro_rules | `(tactic| walk_at "drop") => `(tactic| ((first | with_reducible apply q_drop | with_reducible apply s_drop); walk_at "ev"))

local macro_rules | `(tactic| walk_at "ret") => `(tactic| ((with_reducible apply s_retk); walk_at "ev"))

local macro_rules | `(tactic| walk_at "when") => `(tactic| ((first | with_reducible apply q_when | with_reducible apply s_when | with_reducible apply q_if | with_reducible apply s_if); walk_at "et"))

variable [TabCx]
/-! ### sorted(d): the keys of a dict, all texts, any number of them -/
section
open PySem.Spec PyProof.Rows
variable {X : Cx}
abbrev rSortedDS : List V → Hp → VK → Prop := fun xs H Q => ∃ (a : Addr) (kvs : List (Key × V)) (ks : List Str), xs = [.ref a] ∧ Rd H a (.dK kvs) ∧ kvs.map (·.1) = ks.map Sum.inr ∧ ∀ ys p, ys.Perm ks → sortedS ys = true → H p = none → Q (.ref p) (upd H p (.lst (ys.map V.str)))
theorem call_sortedDS (calm : X.calm = true) : CallR X (.builtin "sorted") rSortedDS := by
  intro pins s σ H args us Q I r z
  obtain ⟨a, kvs, ks, rfl, hd, hks, z⟩ := z
  obtain ⟨u, rfl, ru⟩ := vals1 r
  cases ru
  obtain ⟨hsz, big, vs, rel, dd⟩ := dk_rd I.hok hd
  obtain ⟨ep, hat⟩ := dd.dictAt
  have keys : vs.map (·.1) = ks.map Sum.inr := rel.keys.symm.trans hks
  have len : vs.length = ks.length := by simpa using congrArg List.length keys
  have line : vs.length ≤ sizeLine := by rw [← rel.length]; exact hsz
  refine Calls.call_function_entry kind_sorted plain_sorted entry_sorted (args_sorted1 _) ?_
  unfold Builtin.«sorted»
  refine wpAny_bind (m := checkCount "sorted" 1 1 _) (wpAny_pure ?_)
  refine wpAny_bind (PySem.W.kdu_collect (A := X.A.in1) (PySem.W.kdl_dict (knd := mixKind X.prog X.w) (kvs := vs) (ep := ep) big) (I.ok.hd calm) hat line fun h1 tk acc keep each => ?_)
  have la : acc.toList.length = ks.length := by rw [Array.length_toList, each.1, len]
  have texts : StrsAre acc.toList ks := strs_at la fun j v e => by
    obtain ⟨k, x, e1, e2⟩ := each.2 j v (by rw [← Array.getElem?_toList]; exact e)
    have e3 : (vs.map (·.1))[j]? = some k := by rw [List.getElem?_map, e1] <;> rfl
    rw [keys, List.getElem?_map] at e3
    rcases e4 : ks[j]? with _ | y
    · rw [e4] at e3
      cases e3
    · rw [e4] at e3
      obtain rfl : Sum.inr y = k := Option.some.inj e3
      obtain ⟨t, ev⟩ := Value.isStrOf_shape (x := y) (v := v) e2
      exact ⟨y, t, rfl, ev⟩
  have I1 : L2.Inv X pins σ H { s with heap := h1, toks := tk } := I.kept keep
  refine wpAny_bind (wpAny_newList ?_ (by rw [la, ← len]; exact line))
  have ho : (h1.push (seqObj "list" acc.toList.toArray 0)).get? h1.objs.size = some (seqObj "list" acc.toList.toArray 0) := Heap.get?_push_size _ rfl
  show wpAny _ _ _ _ _ { s with heap := h1.push (seqObj "list" acc.toList.toArray 0), toks := tk }
  refine wpAny_bind (wpAny_holding (wpAny_call_entry slot_list_sort ⟨_, ho, rfl⟩ entry_list_sort
    (list_sort_treeKAny strKind_oneLt (s := { s with heap := h1.push (seqObj "list" acc.toList.toArray 0), toks := tk }) ho texts.keysOf (fun v₁ v₂ rest e => keyKind_strs (by rw [← e]; exact texts)) (by rw [la, ← len]; exact line) fun st hp hs => ⟨_, rfl, ?_⟩)
    (args_list_sort _)))
  obtain ⟨ys, g1, g2, g3⟩ := sorted_out_str texts hp hs
  obtain ⟨e', he'⟩ := sortedHeap_at (vs := acc.toList) (out := (arrOf st).map (·.2)) ho
  have l2 : (ys.map V.str).length ≤ sizeLine := by
    rw [List.length_map, g2.length_eq, ← len]
    exact line
  refine wpAny_pure ⟨_, rfl, .ref h1.objs.size, upd H h1.objs.size (.lst (ys.map V.str)), I1.laid (t' := tk) (fun b o e => ?_) (Nat.le_refl _)
    (show ObjOk X.prog X.w _ _ _ (.lst (ys.map V.str)) from ⟨l2, ((arrOf st).map (·.2)).toList, e', vals_of_strs g1, by rw [Array.toArray_toList]; exact he'⟩), rfl, z ys _ g2 g3 (I1.hok.fresh (Nat.le_refl _))⟩
  have hb : b < h1.objs.size := Heap.lt_size e
  rw [sortedHeap_old (Nat.ne_of_lt hb) (by rw [Heap.size_push]; exact Nat.lt_succ_of_lt hb)]
  exact Heap.get?_push_of_some _ e
end

end
section
local macro_rules | `(tactic| walk_at "cond") => `(tactic| first | (with_reducible assumption) | decide | (show (0 : Int) < _; decide) | (exact ⟨by decide, by decide⟩) | (exact ⟨by decide, by decide, by decide⟩) | (exact ⟨by omega, by omega⟩) | (exact Or.inl ⟨by decide, by decide⟩) | (exact Or.inr ⟨by decide, by decide⟩) | (exact Or.inl ⟨by omega, by omega⟩) | (exact Or.inr ⟨by omega, by omega⟩) | omega)

local macro_rules | `(tactic| walk_at "seq") => `(tactic| first | (with_reducible assumption) | (exact sq_of (by with_reducible assumption)) | (exact st_of (by with_reducible assumption)) | (exact ex_l (by with_reducible assumption) (by with_reducible assumption)) | (exact ex_t (by with_reducible assumption) (by with_reducible assumption)))

local macro_rules | `(tactic| walk_at "rv") => `(tactic| first | (with_reducible exact rv_I0) | ((with_reducible apply rv_I); walk_at "cond") | ((with_reducible apply rv_eq); rfl) | ((with_reducible apply rv_ne); rfl) | (with_reducible exact rv_NT) | (with_reducible exact rv_isN) | ((with_reducible apply rv_add_str); walk_at "cond") | ((with_reducible apply rv_ixT); walk_at "seq"; rfl))

local macro_rules | `(tactic| walk_at "rc") => `(tactic| first | ((with_reducible apply rc_len); walk_at "seq") | ((with_reducible apply rc_lenT); walk_at "seq") | ((with_reducible apply rc_lenS); walk_at "cond") | (with_reducible exact rc_intB) | (with_reducible exact rc_typI) | ((with_reducible apply rc_strI); walk_at "cond") | (exact rc_isi tx_str kb_ss) | (exact rc_isi tx_int kb_ii) | (exact rc_isi tx_int kb_ib) | (exact rc_isi (tx_lst (by with_reducible assumption)) kb_ll) | (exact rc_isi (tx_tup (by with_reducible assumption)) kb_tt))

local macro_rules | `(tactic| walk_at "spv") => `(tactic| fail "no promise")

local macro_rules | `(tactic| walk_at "ea") => `(tactic| first | (with_reducible exact ea_nil) | ((with_reducible apply ea_cons); walk_at "ev"; walk_at "ea"))

local macro_rules | `(tactic| walk_at "eo") => `(tactic| first | (with_reducible exact eo_none) | ((with_reducible apply eo_some); walk_at "ev"))

local macro_rules | `(tactic| walk_at "ev") => `(tactic| first
  | (with_reducible exact ev_c)
  | ((with_reducible apply ev_var); rfl)
  | ((with_reducible apply ev_op); walk_at "ev"; walk_at "ev"; walk_at "rv")
  | ((with_reducible apply ev_cb); walk_at "ea"; walk_at "rc")
  | ((with_reducible apply ev_call); walk_at "ea"; walk_at "spv")
  | ((with_reducible apply ev_neg); walk_at "ev")
  | ((with_reducible apply ev_notV); walk_at "ev")
  | ((with_reducible apply ev_andV); walk_at "ev"; (intro _; walk_at "ev"))
  | ((with_reducible apply ev_orV); walk_at "ev"; (intro _; walk_at "ev")))

local macro_rules | `(tactic| walk_at "et") => `(tactic| first
  | ((with_reducible apply et_chain); walk_at "ev"; walk_at "ev"; walk_at "rv"; (intro _; walk_at "ev"); (intro _; walk_at "rv"))
  | ((with_reducible apply et_test); walk_at "ev")
  | ((with_reducible apply et_B); walk_at "ev")
  | ((with_reducible apply et_not); walk_at "et")
  | ((with_reducible apply et_or); walk_at "et"; (intro _; walk_at "et"))
  | ((with_reducible apply et_and); walk_at "et"; (intro _; walk_at "et")))

local macro_rules | `(tactic| walk_at "asg") => `(tactic| ((first | with_reducible apply q_asg | with_reducible apply s_asg); walk_at "ev"))

local macro_rules | `(tactic| walk_at "drop") => `(tactic| ((first | with_reducible apply q_drop | with_reducible apply s_drop); walk_at "ev"))

local macro_rules | `(tactic| walk_at "ret") => `(tactic| ((with_reducible apply s_retk); walk_at "ev"))

local macro_rules | `(tactic| walk_at "when") => `(tactic| ((first | with_reducible apply q_when | with_reducible apply s_when | with_reducible apply q_if | with_reducible apply s_if); walk_at "et"))

section
variable [TabCx]
variable {α β : Type} {r : Rp α} {r' : Rp β} {K : PySem.W.Frag} {σ : L2.St} {H A B : Hp} {te td : TE} {d : Addr} {kvs : List (Key × V)} {od : Obj}
theorem Ex.unlock (hd : A d = some (.dK kvs)) (b : Ex (upd A d (.frz od (.dK kvs))) B) : Ex A (upd B d (.dK kvs)) := by
  refine ⟨fun a o h n => ?_, fun a h => ?_, fun t => ?_⟩
  · by_cases e : a = d
    · rw [e] at h ⊢
      rw [hd] at h
      rw [upd_same]
      exact h
    · rw [upd_ne e]
      exact b.keep a o (by rw [upd_ne e]; exact h) n
  · by_cases e : a = d
    · rw [e, upd_same] at h
      cases h
    · rw [upd_ne e] at h
      have := b.dom a h
      rw [upd_ne e] at this
      exact this
  · have hB : B d = some (.frz od (.dK kvs)) := b.k upd_same
    exact (b.tabs (t.mut hd ⟨(by intro _ z; cases z), (by intro _ z; cases z)⟩)).mut hB ⟨(by intro _ z; cases z), (by intro _ z; cases z)⟩
theorem ExW.unlock (hB : B d = some (.frz od (.dK kvs))) : ExW B (upd B d (.dK kvs)) :=
  ⟨fun a o h i => by rw [upd_ne (ne_of h hB (by intro z; rw [z] at i; exact i))]; exact h, upd_dom hB, fun t => t.mut hB ⟨(by intro _ z; cases z), (by intro _ z; cases z)⟩⟩
/-- a new list made while the dict is locked -/
theorem el_lock {bs : List β} (hd : H d = some (.dK kvs)) (h : ∀ od A, Ex H A → EvLR r' te σ (upd A d (.frz od (.dK kvs))) bs) : EvLR r' (tLockE te) σ H bs := fun A a Q q => by
  have hdA := a.k hd
  refine ⟨d, .dK kvs, hdA, trivial, fun od => h od A a _ (.refl _) _ fun v B b ⟨p, e, hp, L⟩ => ?_⟩
  have hB : B d = some (.frz od (.dK kvs)) := b.k upd_same
  have hpd : p ≠ d := fun z => by rw [z, upd_same] at hp; cases hp
  refine ⟨hB, q v _ (Ex.unlock hdA b) ⟨p, e, ?_, L.monoW (ExW.unlock hB)⟩⟩
  rw [upd_ne hpd] at hp
  exact hp
/-- the values of a locked dict -/
theorem lcV {as : List α} {vs : List Nat} {j : Nat} {Rl : Hp → V → α → Prop} (g : α → β) (mono : ∀ {H H' : Hp} {v : V} {a : α}, Ex H H' → Rl H v a → Rl H' v a) (hp : Paired (fun (kv : Key × V) a => Rl H kv.2 a) kvs as) (h : Ev td σ H (.ref d)) (hd : H d = some (.frz od (.dK kvs))) (hz : as.length ≤ 40000)
    (hw : ∀ x, wipe ((wipe σ vs).set j (some x)) vs = wipe σ vs)
    (he : ∀ x a H1 F, Ex H H1 → (∀ y, F y → H1 y ≠ none) → a ∈ as → Rl H1 x a → EvE r' F te ((wipe σ vs).set j (some x)) H1 (g a)) : EvLR r' (tLc (iVals td) (gName j) tYes te vs) σ H (as.map g) := fun H0 e Q qq => h H0 e _ fun H1 e1 => ⟨d, od, kvs, rfl, (e.trans e1).k hd, fun Dl hD => by
  have hlen := hp.length
  refine lc_it (walk_values (d := d) (o := od) (kvs := kvs)) (fun i H' => Ex H1 H' ∧ ∃ ys, H' Dl = some (.lst ys) ∧ ys.length = i ∧ PRF r' (F1 Dl) H' ys ((as.take i).map g)) ⟨Ex.new hD, [], upd_same, rfl, by rw [List.take_zero]; exact .nil⟩ (fun i H' _ p => p.1.k ((e.trans e1).k hd)) (fun i x H' H'' hi p y => ?_) fun H' p => ?_
  · obtain ⟨p1, ys, p2, p3, p4⟩ := p
    obtain ⟨rfl, k, hk⟩ := y
    have hia : i < as.length := by omega
    obtain ⟨kv, hkv, rb⟩ : ∃ kv, kvs[i]? = some kv ∧ Rl H kv.2 as[i] := by
      clear hk p4 p3 p2
      have : ∀ {kvs : List (Key × V)} {as : List α}, Paired (fun (kv : Key × V) a => Rl H kv.2 a) kvs as → ∀ (i : Nat) (hi : i < as.length), ∃ kv, kvs[i]? = some kv ∧ Rl H kv.2 as[i] := by
        intro kvs as hp
        induction hp with
        | nil => intro i hi; exact absurd hi (Nat.not_lt_zero _)
        | cons a t ih =>
          intro i hi
          cases i with
          | zero => exact ⟨_, rfl, a⟩
          | succ i => exact ih i (Nat.lt_of_succ_lt_succ hi)
      exact this hp i hia
    rw [hk] at hkv
    obtain rfl := Option.some.inj hkv
    have eE := (e.trans e1).trans p1
    have hmem := List.getElem_mem hia
    refine ⟨hw x, ?_⟩
    show te ((wipe σ vs).set j (some x)) H'' _
    refine he x as[i] H'' (F1 Dl) eE (fun y z => by rw [show y = Dl from z, p2]; intro w; cases w) hmem (mono eE rb) H'' (.refl H'') _ fun y H4 e4 ry => ⟨ys, e4.k p2, sz_lt (by omega), Ex.mut (p1.trans e4) hD (e4.k p2), ys ++ [y], upd_same, by rw [List.length_append, p3]; rfl, ?_⟩
    rw [take_snoc (List.getElem?_eq_getElem hia), List.map_append]
    exact pr_lst (show F1 Dl Dl from rfl) (e4.k p2) (pr_app (pr_mono e4 p4) (.cons ry .nil))
  · obtain ⟨p1, ys, p2, p3, p4⟩ := p
    refine qq _ H' (e1.trans p1) ⟨Dl, rfl, fresh_back e1 hD, ys, p2, ?_⟩
    rw [hlen, List.take_length] at p4
    exact pr_0 p4⟩
/-- all items of the lists that are the values of a locked dict -/
theorem lcVV {as : List (List α)} {vs vs1 : List Nat} {j j1 : Nat} (hp : Paired (fun (kv : Key × V) a => ∃ l, kv.2 = .ref l ∧ LR r H l a) kvs as) (h : Ev td σ H (.ref d)) (hd : H d = some (.frz od (.dK kvs))) (hz : (as.map List.length).sum ≤ 40000)
    (hw : ∀ x, wipe ((wipe σ vs).set j (some x)) vs = wipe σ vs) (hj : ∀ x, ((wipe σ vs).set j (some x))[j]? = some (some x))
    (hw1 : ∀ x y, wipe ((wipe ((wipe σ vs).set j (some x)) vs1).set j1 (some y)) vs1 = wipe ((wipe σ vs).set j (some x)) vs1)
    (hj1 : ∀ x y, ((wipe ((wipe σ vs).set j (some x)) vs1).set j1 (some y))[j1]? = some (some y)) :
    EvLR r (tLc2 (iVals td) (gName j) tYes (iList K (tVar j)) (gName j1) tYes (tVar j1) vs vs1) σ H as.flatten := fun H0 e Q qq => h H0 e _ fun H1 e1 => ⟨d, od, kvs, rfl, (e.trans e1).k hd, fun Dl hD => by
  have hlen := hp.length
  have at_ : ∀ (i : Nat) (hi : i < as.length), ∃ k l, kvs[i]? = some (k, V.ref l) ∧ LR r H l as[i] := by
    clear hz hlen hd
    have : ∀ {kvs : List (Key × V)} {as : List (List α)}, Paired (fun (kv : Key × V) a => ∃ l, kv.2 = .ref l ∧ LR r H l a) kvs as → ∀ (i : Nat) (hi : i < as.length), ∃ k l, kvs[i]? = some (k, V.ref l) ∧ LR r H l as[i] := by
      intro kvs as hp
      induction hp with
      | nil => intro i hi; exact absurd hi (Nat.not_lt_zero _)
      | @cons kv _ _ _ a t ih =>
        intro i hi
        cases i with
        | zero =>
          obtain ⟨l, h1, h2⟩ := a
          obtain ⟨k, v⟩ := kv
          obtain rfl : v = .ref l := h1
          exact ⟨k, l, rfl, h2⟩
        | succ i => exact ih i (Nat.lt_of_succ_lt_succ hi)
    exact this hp
  have tot : ∀ i, ((as.take i).flatten).length ≤ (as.map List.length).sum := fun i => by
    rw [← List.length_flatten]
    have := congrArg List.length (congrArg List.flatten (List.take_append_drop i as))
    rw [List.flatten_append, List.length_append] at this
    omega
  refine ⟨fun i m H' => m = kvs.length - i ∧ i ≤ kvs.length ∧ Ex H1 H' ∧ ∃ ys, H' Dl = some (.lst ys) ∧ PRF r (F1 Dl) H' ys (as.take i).flatten, ⟨_, rfl, Nat.zero_le _, .new hD, [], upd_same, by rw [List.take_zero]; exact .nil⟩, ?_⟩
  rintro i m H' ⟨rfl, hi, p1, ys, p2, p4⟩
  have hdH := p1.k ((e.trans e1).k hd)
  by_cases hlt : i < kvs.length
  · have hia : i < as.length := by omega
    obtain ⟨k, l, hk, hl⟩ := at_ i hia
    refine .inr ⟨⟨hdH, hlt⟩, fun H2 => Ex H1 H2 ∧ ∃ ys, H2 Dl = some (.lst ys) ∧ PRF r (F1 Dl) H2 ys (as.take (i + 1)).flatten, fun H2 p => ⟨kvs.length - (i + 1), by omega, rfl, hlt, p.1, p.2⟩, fun x H'' y => ?_⟩
    obtain ⟨rfl, k', hk'⟩ := y
    rw [hk] at hk'
    obtain ⟨rfl, rfl⟩ := Prod.mk.inj (Option.some.inj hk')
    refine ⟨hw _, ?_⟩
    have hl' : LR r H'' l as[i] := hl.mono ((e.trans e1).trans p1)
    have hl1 := hl.mono (e.trans e1)
    obtain ⟨zs, hzs, pzs⟩ := id hl'
    have hzl := pzs.length
    have hDl : l ≠ Dl := fun z => by
      obtain ⟨ws, hws, _⟩ := hl1
      rw [z, hD] at hws
      cases hws
    refine ⟨_, hj _, l, rfl, ⟨zs, sq_of hzs⟩, fun jj kk H2 => kk = zs.length - jj ∧ jj ≤ zs.length ∧ Ex H1 H2 ∧ H2 l = some (.lst zs) ∧ ∃ ys, H2 Dl = some (.lst ys) ∧ PRF r (F1 Dl) H2 ys ((as.take i).flatten ++ as[i].take jj), ⟨_, rfl, Nat.zero_le _, p1, hzs, ys, p2, by rw [List.take_zero, List.append_nil]; exact p4⟩, ?_⟩
    rintro jj kk H2 ⟨rfl, hjj, q1, q2, ys2, q3, q4⟩
    have pz2 : PRF r (F1 Dl) H2 zs as[i] := by
      obtain ⟨ws, hws, pws⟩ := hl1
      have e1 : ws = zs := by
        have := q1.k hws
        rw [q2] at this
        cases this
        rfl
      rw [← e1]
      exact pr_mono q1 (pr_away (fun x z => .inr (by rw [show x = Dl from z]; exact hD)) pws)
    by_cases hjl : jj < zs.length
    · refine .inr ⟨⟨zs, zs[jj], sq_of q2, by simp [hjl]⟩, fun H3 => Ex H1 H3 ∧ H3 l = some (.lst zs) ∧ ∃ ys, H3 Dl = some (.lst ys) ∧ PRF r (F1 Dl) H3 ys ((as.take i).flatten ++ as[i].take (jj + 1)), fun H3 p => ⟨zs.length - (jj + 1), by omega, rfl, hjl, p.1, p.2.1, p.2.2⟩, fun x H3 y => ?_⟩
      obtain ⟨rfl, y⟩ := y
      have hx := y zs (sq_of q2)
      obtain ⟨b, hb, rb⟩ := pr_get pz2 hx
      refine ⟨hw1 _ _, ?_⟩
      refine ⟨x, hj1 _ _, ys2, q3, ?_, q1.mut hD q3, ?_, ys2 ++ [x], upd_same, ?_⟩
      · have hl2 := q4.length
        rw [List.length_append, List.length_take] at hl2
        have t1 := tot (i + 1)
        rw [take_snoc (List.getElem?_eq_getElem hia), List.flatten_append, List.length_append] at t1
        have : ([as[i]] : List (List α)).flatten.length = as[i].length := by simp
        exact sz_lt (by omega)
      · rw [upd_ne hDl]
        exact q2
      · rw [take_snoc hb, ← List.append_assoc]
        exact pr_lst (show F1 Dl Dl from rfl) q3 (pr_app q4 (.cons rb .nil))
    · have ej : jj = zs.length := by omega
      subst ej
      refine .inl ⟨⟨zs, sq_of q2, Nat.le_refl _⟩, q1, ys2, q3, ?_⟩
      rw [take_snoc (List.getElem?_eq_getElem hia), List.flatten_append]
      rw [hzl, List.take_length] at q4
      simpa using q4
  · have ei : i = kvs.length := by omega
    subst ei
    refine .inl ⟨⟨hdH, Nat.le_refl _⟩, qq _ H' (e1.trans p1) ⟨Dl, rfl, fresh_back e1 hD, ys, p2, ?_⟩⟩
    rw [hlen, List.take_length] at p4
    exact pr_0 p4⟩
end

end
section
/-! ### what is written of a store, sign by sign -/
section
open SX
def numZ (i : Int) : List Nat := if 0 ≤ i then TL.numL i.toNat else 45 :: TL.numL i.natAbs
theorem numZ_S (i : Int) : Str.ofString (toString i) = S (numZ i) := by
  unfold numZ
  rcases i with n | n
  · rw [if_pos (show (0 : Int) ≤ Int.ofNat n from Int.natCast_nonneg n)]
    exact num_S n
  · rw [if_neg (by exact Int.not_le.mpr (Int.negSucc_lt_zero n))]
    refine TL.ext_tl ?_
    have e : (toString (Int.negSucc n) : String) = "-" ++ toString (((n + 1 : Nat)) : Int) := rfl
    rw [e, TL.tl_ofString, String.toList_append, List.map_append]
    have := TL.tl_num (n + 1)
    rw [TL.tl_ofString] at this
    rw [this]
    rfl
theorem numZ_ne (i : Int) : numZ i ≠ [] := by
  unfold numZ
  split
  · exact TL.numL_ne _
  · exact List.cons_ne_nil _ _
theorem numZ_free {i : Int} {s : Nat} (h : s < 45 ∨ 57 < s) : s ∉ numZ i := by
  unfold numZ
  split
  · exact TL.numL_free (by omega)
  · intro hm
    rcases List.mem_cons.mp hm with e | e
    · omega
    · exact TL.numL_free (by omega) e
theorem numZ_len {i : Int} {k : Nat} (hk : 0 < k) (h : i.natAbs < 10 ^ k) : (numZ i).length ≤ k + 1 := by
  unfold numZ
  split
  · have := TL.numL_len (n := i.toNat) hk (by have : i.toNat = i.natAbs := by omega
                                              rw [this]; exact h)
    omega
  · have := TL.numL_len (n := i.natAbs) hk h
    rw [List.length_cons]
    omega
def figs (i : Int) : List Nat := TL.numL i.natAbs
theorem rmp_hit (p q : List Nat) : Txt.removeprefix (S (p ++ q)) (S p) = S q := by
  rw [StrLaws.removeprefix_eq, StrLaws.subAt_eq]
  have e1 : (S (p ++ q)).length = p.length + q.length := by rw [S_len, List.length_append]
  have e2 : (S p).length = p.length := S_len p
  have e3 : (S (p ++ q)).cps.toList = p ++ q := rfl
  have e4 : (S p).cps.toList = p := rfl
  rw [e1, e2, e3, e4, List.drop_zero, List.take_left, List.drop_left, decide_eq_true (by omega), beq_self_eq_true, Bool.and_self, if_pos rfl, show p.length + q.length - p.length = q.length by omega, List.take_length]
theorem rmp_miss {p x : List Nat} (h : x.take p.length ≠ p) : Txt.removeprefix (S x) (S p) = S x := by
  rw [StrLaws.removeprefix_eq, StrLaws.subAt_eq]
  have e2 : (S p).length = p.length := S_len p
  have e3 : (S x).cps.toList = x := rfl
  have e4 : (S p).cps.toList = p := rfl
  rw [e2, e3, e4, List.drop_zero, beq_eq_false_iff_ne.mpr h, Bool.and_false, if_neg (by decide)]
theorem rmp_num (i : Int) : Txt.removeprefix (S (numZ i)) (S [45]) = S (TL.numL i.natAbs) := by
  unfold numZ
  split
  · have hz : i.toNat = i.natAbs := by omega
    rw [hz]
    refine rmp_miss fun e => ?_
    have : (45 : Nat) ∈ TL.numL i.natAbs := by
      refine List.mem_of_mem_take (i := 1) ?_
      show 45 ∈ (TL.numL i.natAbs).take ([45] : List Nat).length
      rw [e]
      exact List.mem_cons_self
    exact TL.numL_free (by omega) this
  · exact rmp_hit [45] _
theorem isdec_num (n : Nat) : Txt.isdecimal (S (TL.numL n)) = true := by
  unfold Txt.isdecimal
  have h1 : (S (TL.numL n)).length > 0 := by
    rw [S_len]
    exact List.length_pos_iff.mpr (TL.numL_ne n)
  rw [decide_eq_true h1, Bool.true_and, ← Array.all_toList]
  refine List.all_eq_true.mpr fun c hc => ?_
  have h2 := TL.numL_digits n c hc
  have key : ∀ c, 48 ≤ c → c ≤ 57 → Unicode.isDecimal c = true := by
    intro c a b
    rw [PyProof.Rows.cls_isdecimal c (by omega)]
    have : ∀ d, d < 10 → PyProof.Rows.inR 48 57 ⟨#[48 + d]⟩ = true := by decide +kernel
    have := this (c - 48) (by omega)
    rw [show 48 + (c - 48) = c by omega] at this
    exact this
  exact key c h2.1 h2.2
theorem int_numZ {i : Int} (h : i.natAbs < 10 ^ 60) : PySem.intText? (S (numZ i)) = some i := by
  have hl := TL.numL_len (n := i.natAbs) (k := 60) (by decide) h
  unfold numZ
  split
  · rename_i h0
    have hz : i.toNat = i.natAbs := by omega
    rw [hz]
    have := PySem.intText_digits (x := S (TL.numL i.natAbs)) (TL.numL_digits _) (TL.numL_ne _) (by rw [S_len]; omega)
    rw [this]
    have e : (S (TL.numL i.natAbs)).cps.toList = TL.numL i.natAbs := rfl
    rw [e, TL.numL_val]
    congr 1
    omega
  · rename_i h0
    have := PySem.intText_neg (x := S (45 :: TL.numL i.natAbs)) (cs := TL.numL i.natAbs) rfl (TL.numL_digits _) (TL.numL_ne _) (by rw [S_len, List.length_cons]; omega)
    rw [this, TL.numL_val]
    congr 1
    omega
/-! ### words, rows, the text -/
abbrev VB (ps : List (Int × Int)) : Prop := ∀ p ∈ ps, p.2.natAbs < 10 ^ 60
def word0 (p : Int × Int) : List Nat := numZ p.1 ++ 61 :: numZ p.2
def wordL (p : Int × Int) : List Nat := 32 :: word0 p
def rowL (c : Code) (qs : List (Int × Int)) : List Nat := bl c.1 c.2 ++ 58 :: qs.flatMap wordL
def boundL : List Nat := [98, 111, 117, 110, 100, 32]
def linesL (b : Nat) (rs : List (Code × List (Int × Int))) : List (List Nat) := (boundL ++ numZ b) :: rs.map fun r => rowL r.1 r.2
def textL (b : Nat) (rs : List (Code × List (Int × Int))) : List Nat := TL.joinL [10] (linesL b rs)
theorem joinL_cons (s x : List Nat) (xs : List (List Nat)) : TL.joinL s (x :: xs) = x ++ xs.flatMap fun y => s ++ y := by
  induction xs generalizing x with
  | nil => rw [List.flatMap_nil, List.append_nil]; rfl
  | cons y ys ih =>
    have : TL.joinL s (x :: y :: ys) = x ++ (s ++ TL.joinL s (y :: ys)) := rfl
    rw [this, ih, List.flatMap_cons, List.append_assoc]
theorem joinL_nil : ∀ xs : List (List Nat), TL.joinL [] xs = xs.flatten
  | [] => rfl
  | x :: xs => by
    rw [joinL_cons, List.flatten_cons, List.flatMap_def]
    congr 2
    simp
theorem bl_free {l k s : Nat} (h : s < 48 ∨ 49 < s) : s ∉ bl l k := fun hm => by
  unfold bl at hm
  obtain ⟨t, _, e⟩ := List.mem_map.mp hm
  have := Nat.mod_lt (k / 2 ^ (l - 1 - t)) (by decide : 0 < 2)
  omega
theorem word0_free {p : Int × Int} {s : Nat} (h : s < 45 ∨ 61 < s) : s ∉ word0 p := fun hm => by
  rcases List.mem_append.mp hm with e | e
  · exact numZ_free (by omega) e
  · rcases List.mem_cons.mp e with e | e
    · omega
    · exact numZ_free (by omega) e
theorem rowL_free {c : Code} {qs : List (Int × Int)} : 10 ∉ rowL c qs := fun hm => by
  rcases List.mem_append.mp hm with e | e
  · exact bl_free (by omega) e
  · rcases List.mem_cons.mp e with e | e
    · omega
    · obtain ⟨p, _, e⟩ := List.mem_flatMap.mp e
      rcases List.mem_cons.mp e with e | e
      · omega
      · exact word0_free (by omega) e
theorem lines_free {b : Nat} {rs : List (Code × List (Int × Int))} : ∀ x ∈ linesL b rs, 10 ∉ x := fun x hx hm => by
  rcases List.mem_cons.mp hx with rfl | hx
  · rcases List.mem_append.mp hm with e | e
    · exact absurd e (by decide)
    · exact numZ_free (by omega) e
  · obtain ⟨r, _, rfl⟩ := List.mem_map.mp hx
    exact rowL_free hm
theorem split_text (b : Nat) (rs : List (Code × List (Int × Int))) : Txt.split (S (textL b rs)) (S [10]) = (linesL b rs).map S := by
  rw [split_S (by decide) (by decide)]
  congr 1
  exact spl_join (List.cons_ne_nil _ _) lines_free
theorem rowL_join (c : Code) (qs : List (Int × Int)) : rowL c qs = TL.joinL [32] ((bl c.1 c.2 ++ [58]) :: qs.map word0) := by
  rw [joinL_cons]
  unfold rowL
  rw [List.append_assoc, List.flatMap_map]
  rfl
theorem split_row (c : Code) (qs : List (Int × Int)) : Txt.split (S (rowL c qs)) (S [32]) = S (bl c.1 c.2 ++ [58]) :: (qs.map word0).map S := by
  rw [split_S (by decide) (by decide), rowL_join]
  have := spl_join (c := 32) (sep := []) (parts := (bl c.1 c.2 ++ [58]) :: qs.map word0) (List.cons_ne_nil _ _) (by
    intro x hx hm
    rcases List.mem_cons.mp hx with rfl | hx
    · rcases List.mem_append.mp hm with e | e
      · exact bl_free (by omega) e
      · exact absurd e (by decide)
    · obtain ⟨p, _, rfl⟩ := List.mem_map.mp hx
      exact word0_free (by omega) hm)
  rw [this]
  rfl
theorem part_word (p : Int × Int) : Txt.partition (S (word0 p)) (S [61]) = (S (numZ p.1), S [61], S (numZ p.2)) :=
  partition_some (by decide) (par_head (c := 61) (sep := []) (numZ p.2) (numZ_free (by omega)))
/-! ### how long they are -/
theorem word0_len {p : Int × Int} (h1 : 0 ≤ p.1 ∧ p.1 < 256) (h2 : p.2.natAbs < 10 ^ 60) : (word0 p).length ≤ 66 := by
  unfold word0
  rw [List.length_append, List.length_cons]
  have a := numZ_len (i := p.1) (k := 3) (by decide) (by omega)
  have b := numZ_len (i := p.2) (k := 60) (by decide) h2
  omega
theorem flat_len {α : Type} (f : α → List Nat) (n : Nat) : ∀ (l : List α), (∀ a ∈ l, (f a).length ≤ n) → (l.flatMap f).length ≤ n * l.length
  | [], _ => Nat.zero_le _
  | a :: l, h => by
    rw [List.flatMap_cons, List.length_append, List.length_cons, Nat.mul_succ]
    have := flat_len f n l fun x hx => h x (List.mem_cons_of_mem _ hx)
    have := h a List.mem_cons_self
    omega
theorem rowL_len {c : Code} {qs : List (Int × Int)} (hc : c.1 ≤ 8) (hn : Names qs) (hv : VB qs) : (rowL c qs).length ≤ 17200 := by
  unfold rowL
  rw [List.length_append, List.length_cons, bl_len]
  have := flat_len wordL 67 qs (fun p hp => by
    unfold wordL
    rw [List.length_cons]
    have := word0_len (hn.all p hp) (hv p hp)
    omega)
  have := hn.len
  omega
theorem textL_len {b : Nat} {rs : List (Code × List (Int × Int))} (hb : b ≤ 64) (hr : ∀ r ∈ rs, (rowL r.1 r.2).length ≤ 17200) (hn : rs.length ≤ 256) : (textL b rs).length ≤ 4500000 := by
  unfold textL linesL
  rw [joinL_cons, List.length_append, List.length_append]
  have a := numZ_len (i := (b : Int)) (k := 3) (by decide) (by omega)
  have e := flat_len (fun y => ([10] : List Nat) ++ y) 17201 (rs.map fun r => rowL r.1 r.2) (fun y hy => by
    obtain ⟨r, h, rfl⟩ := List.mem_map.mp hy
    rw [List.length_append]
    have := hr r h
    have : ([10] : List Nat).length = 1 := rfl
    omega)
  rw [List.length_map] at e
  have : boundL.length = 6 := rfl
  omega
end

end
section
/-! ### a comprehension while an exception is handled -/
section
variable {X : Cx}
theorem ok_pn {p : Addr × Obj} (o : X.Ok) : ({ X with pn := [p] } : Cx).Ok := ⟨o.mod, o.kind, o.glob, o.blt, o.above, o.inj, o.has, o.cab, o.hd, o.frames, o.stk, o.exf, o.bs, o.bsz, o.noex, o.exfs, o.funs, o.frf⟩
theorem ok_np {pn : List (Addr × Obj)} (o : ({ X with pn := pn } : Cx).Ok) : X.Ok := ⟨o.mod, o.kind, o.glob, o.blt, o.above, o.inj, o.has, o.cab, o.hd, o.frames, o.stk, o.exf, o.bs, o.bsz, o.noex, o.exfs, o.funs, o.frf⟩
theorem inv_pn {p : Addr × Obj} {σ : L2.St} {H : Hp} {s : Shared} (I : L2.Inv X [] σ H s) (hp : s.heap.get? p.1 = some p.2) (hH : H p.1 = none) (hl : p.1 ≠ X.env.locals) (hf : p.1 ∉ X.fs) (hd : ∀ v, p.2.data ≠ Data.cell v) : L2.Inv ({ X with pn := [p] } : Cx) [] σ H s :=
  ⟨ok_pn I.ok, I.os, I.bare, I.base, I.loc, I.cell, I.free, I.freeC, fun q hq => by
    obtain rfl : q = p := by simpa using hq
    exact ⟨hp, hH, hl, hf, hd⟩, I.hok, I.len⟩
theorem inv_np {pn : List (Addr × Obj)} {σ : L2.St} {H : Hp} {s : Shared} (h0 : X.pn = []) (I : L2.Inv ({ X with pn := pn } : Cx) [] σ H s) : L2.Inv X [] σ H s :=
  ⟨ok_np I.ok, I.os, I.bare, I.base, I.loc, I.cell, I.free, I.freeC, fun q hq => by simp [h0] at hq, I.hok, I.len⟩
open PySem.Spec PyProof.Rows in
set_option maxHeartbeats 4000000 in
theorem lcH_core {pins : List (Addr × Obj)} {s : Shared} {σ : L2.St} {H : Hp} {Q : VK} {use : Option (Value → Sem Unit)} {Qf : Value → Shared → Prop} {pos' : Pos} {elt tg iter : Expr} {ifs : List Expr} {scope : Scope} {own : List (Str × Nat)} {pos : Pos} {wi : TI} {g : TG} {tt : TT} {te : TE} (hc : L2H.HotC X) (hN : X.N.Nodup) (hi : L2H.PIH X tg iter wi) (ok : BlkOk X.N X.env.scope scope own)
    (hg : ∀ (s : Shared) (H : Hp) (C : Addr) (cl : List (Str × Addr)) (fp : List Addr), PG (X.blk s H scope (compEnvC scope cl C X.env) fp) tg g)
    (ht : ∀ (s : Shared) (H : Hp) (C : Addr) (cl : List (Str × Addr)) (fp : List Addr), PTs (X.blk s H scope (compEnvC scope cl C X.env) fp) ifs tt)
    (he : ∀ (s : Shared) (H : Hp) (C : Addr) (cl : List (Str × Addr)) (fp : List Addr), PE (X.blk s H scope (compEnvC scope cl C X.env) fp) elt te)
    (hs : ∀ x : Value, foldedSetIterable iter X.env x = pure x) (I : L2.Inv X pins σ H s) (h : tLc wi g tt te (own.map fun x => x.2) σ H Q)
    (fin0 : ∀ (L C : Addr) (s' : Shared) (m : Str → Option Value) (H' : Hp), L2.Inv X pins σ H' s' → Q (.ref L) H' → s'.heap.Ns C m → FpOk X pins H' C → compPost (model X.prog X.w) X.A X.xe use Qf (.ref L) C (.ok .next) s') :
    wpAny (model X.prog X.w) X.A (comprehension (.ListComp elt [⟨tg, iter, ifs, 0⟩] scope pos) scope X.env pos' (newList []) false (eval iter X.env) use) Qf X.xe s := by
  obtain ⟨p, ⟨hh, vs, hd, hv⟩, hpm⟩ := hc
  have hfree : ∀ y ∈ scope.names, y.2 = .free → ∃ c, X.env.cells.lookup y.1 = some c := fun y hy e => (ok.free y hy e).elim (fun k => I.ok.has y.1 (.inl k)) fun k => I.ok.has y.1 (.inr k)
  refine wpAny_comprehension_free (use := use) rfl hs (closure_ok hfree) ok.kind (fun y hy e => by rw [ok.uniq y hy, e]) (thn (hi.run pins s σ H _ I h) fun xv s1 hx => thn hx fun itv s2 h2 => ?_)
  obtain ⟨it, fp, tn, J, H2, rfl, I2, T, st2, f2, q⟩ := h2
  refine wpAny_newObj_type (newEnv_comp ?_) (show (0 : Nat) ≤ sizeLine from Nat.zero_le _)
  have hDn : H2 s2.heap.objs.size = none := I2.hok.fresh (Nat.le_refl _)
  obtain ⟨W, ⟨m0, w0⟩, turn⟩ := q s2.heap.objs.size hDn
  have I3 : L2.Inv X pins σ (upd H2 s2.heap.objs.size (.lst [])) { s2 with heap := s2.heap.push { cls := .type "list", data := .seq #[] } } :=
    Inv.laid I2 (fun b o e => Heap.get?_push_of_some _ e) (Nat.le_refl _) ⟨Nat.zero_le _, [], 0, Paired.nil, Heap.get?_push_size _ rfl⟩
  have sz : ∀ b ∈ fp, b < s2.heap.objs.size := fun b hb => by
    obtain ⟨o, e, _⟩ := T.obj 0 s2.heap st2 b hb
    exact Heap.lt_size e
  have st3 : tn 0 (s2.heap.push { cls := .type "list", data := .seq #[] }) := T.keep 0 s2.heap _ st2 fun b _ o e => Heap.get?_push_of_some _ e
  have f3 : ∀ b ∈ fp, FpOk X pins (upd H2 s2.heap.objs.size (.lst [])) b ∧ b < (s2.heap.push { cls := .type "list", data := .seq #[] }).objs.size := fun b hb => by
    refine ⟨⟨?_, (f2 b hb).2⟩, ?_⟩
    · rw [upd_ne (Nat.ne_of_lt (sz b hb))]
      exact (f2 b hb).1
    · rw [Heap.size_push]
      exact Nat.lt_succ_of_lt (sz b hb)
  generalize hD : s2.heap.objs.size = D at *
  generalize hS : ({ s2 with heap := s2.heap.push { cls := .type "list", data := .seq #[] } } : Shared) = s3 at I3
  have hh3 : s2.heap.push { cls := .type "list", data := .seq #[] } = s3.heap := by rw [← hS]
  rw [hh3] at st3 f3
  generalize upd H2 D (.lst []) = H3 at I3 f3 w0
  have I4 := block_start I3 ok hN f3
  have pg := hg s3 H3 s3.heap.objs.size (cellsFrom (s3.heap.objs.size + 1) scope.names (cloFrom X.env.cells scope.names [])) fp
  have pt := ht s3 H3 s3.heap.objs.size (cellsFrom (s3.heap.objs.size + 1) scope.names (cloFrom X.env.cells scope.names [])) fp
  have pe := he s3 H3 s3.heap.objs.size (cellsFrom (s3.heap.objs.size + 1) scope.names (cloFrom X.env.cells scope.names [])) fp
  have nfp : ∀ b ∈ fp, H3 b = none := fun b hb => (f3 b hb).1.1
  have st4 : tn 0 (pushCells (s3.heap.push { cls := .type "dict", data := .dict #[] }) scope.names) := T.keep 0 s3.heap _ st3 fun b _ o e => pushCells_keeps scope.names _ b o (Heap.get?_push_of_some _ e)
  have cL : (compEnvC scope (cellsFrom (s3.heap.objs.size + 1) scope.names (cloFrom X.env.cells scope.names [])) s3.heap.objs.size X.env).locals = s3.heap.objs.size := rfl
  obtain ⟨pg3, pH3, pl3, pf3, pd3⟩ := I3.pin p (List.mem_append_left _ hpm)
  have pfp : p.1 ∉ fp := fun hb => (f3 p.1 hb).1.2.2.2.2.2 p (List.mem_append_left _ hpm) rfl
  have pfr : p.1 ∉ frs X.stack := by
    rcases I3.ok.stk with e | ⟨e, e2⟩
    · rw [e]
      exact pf3
    · rw [e]
      intro hb
      unfold frs at hb
      rw [List.filterMap_cons, e2] at hb
      rcases List.mem_cons.mp hb with z | z
      · exact pl3 z
      · exact pf3 z
  generalize hce : compEnvC scope (cellsFrom (s3.heap.objs.size + 1) scope.names (cloFrom X.env.cells scope.names [])) s3.heap.objs.size X.env = ce at I4 pg pt pe cL
  have hotb : ∀ {σ5 : L2.St} {H5 : Hp} {s5 : Shared}, L2.Inv (X.blk s3 H3 scope ce fp) [] σ5 H5 s5 → L2.Inv ({ X.blk s3 H3 scope ce fp with pn := [p] } : Cx) [] σ5 H5 s5 := fun {σ5 H5 s5} I5 => by
    have g5 := I5.base.keep p.1 p.2 pg3 pH3 pfr pfp
    exact inv_pn I5 g5 (I5.base.free p.1 p.2 pg3 pH3 pfp) (by
      show p.1 ≠ ce.locals
      rw [cL]
      exact Nat.ne_of_lt (Heap.lt_size pg3)) pfr pd3
  have hotc : L2H.HotC ({ X.blk s3 H3 scope ce fp with pn := [p] } : Cx) := ⟨p, ⟨hh, vs, hd, hv⟩, List.mem_singleton.mpr rfl⟩
  have stat : ∀ {σ' : L2.St} {H' : Hp} {s' : Shared}, L2.Inv (X.blk s3 H3 scope ce fp) [] σ' H' s' → (∀ b ∈ fp, H' b = none) → ∀ b ∈ fp, FpOk (X.blk s3 H3 scope ce fp) [] H' b := fun {σ' H' s'} I' hn b hb =>
    ⟨hn b hb, (I'.ok.exf b hb).1, I'.ok.exfs b hb, .inl hb, fun x c e => (I'.ok.exf b hb).2 x c e, fun q hq => by simp at hq⟩
  have statP : ∀ {σ' : L2.St} {H' : Hp} {s' : Shared}, L2.Inv (X.blk s3 H3 scope ce fp) [] σ' H' s' → (∀ b ∈ fp, H' b = none) → ∀ b ∈ fp, FpOk ({ X.blk s3 H3 scope ce fp with pn := [p] } : Cx) [] H' b := fun {σ' H' s'} I' hn b hb =>
    ⟨hn b hb, (I'.ok.exf b hb).1, I'.ok.exfs b hb, .inl hb, fun x c e => (I'.ok.exf b hb).2 x c e, fun q hq => by
      obtain rfl : q = p := by simpa using hq
      exact fun z => pfp (z ▸ hb)⟩
  have loop : codeAny (model X.prog X.w) X.A (.compLoop (.ListComp elt [⟨tg, iter, ifs, 0⟩] scope pos) 0 (.ref it) (.ref D) ce) (compPost (model X.prog X.w) X.A X.xe use Qf (.ref D) s3.heap.objs.size) { s3 with heap := pushCells (s3.heap.push { cls := .type "dict", data := .dict #[] }) scope.names } := by
    refine compLoop_any (fun n s' => ∃ i H', L2.Inv (X.blk s3 H3 scope ce fp) [] (wipe σ (own.map fun x => x.2)) H' s' ∧ tn i s'.heap ∧ (∀ b ∈ fp, H' b = none) ∧ W i n H') ?_ m0 ⟨0, H3, I4, st4, nfp, w0⟩
    rintro n s5 ⟨i, H5, I5, st5, n5, w5⟩
    rcases turn i n H5 w5 with ⟨stop, qq⟩ | ⟨go, Nx, hNx, step⟩
    · refine thnF (T.done ({ X.blk s3 H3 scope ce fp with pn := [p] } : Cx) rfl rfl rfl hotc i [] s5 _ H5 (fun _ _ => False) (hotb I5) (statP I5 n5) st5 stop) ?_
      rintro r s6 ⟨rfl, I6p⟩
      have I6 : L2.Inv (X.blk s3 H3 scope ce fp) [] (wipe σ (own.map fun x => x.2)) H5 s6 := inv_np rfl I6p
      have I7 : L2.Inv X pins σ H5 s6 := Inv.call' I3 I6.os I6.base I6.hok I6.bare fun b hb => ⟨(f3 b hb).1.2.2.2.1, (f3 b hb).1.2.1, (f3 b hb).1.2.2.2.2.1, (f3 b hb).1.2.2.2.2.2⟩
      have nC : H5 s3.heap.objs.size = none := cL ▸ I6.free
      obtain ⟨m, hn, _⟩ := I6.loc
      have hn' : s6.heap.Ns s3.heap.objs.size m := cL ▸ hn
      exact fin0 D s3.heap.objs.size s6 m H5 I7 qq hn' (Inv.fpOk (H' := H5) I3 (Nat.le_refl s3.heap.objs.size) nC)
    · refine thnF (T.item ({ X.blk s3 H3 scope ce fp with pn := [p] } : Cx) rfl rfl rfl hotc i [] s5 _ H5 (fun _ _ => False) (hotb I5) (statP I5 n5) st5 go) ?_
      rintro r s6 ⟨u, rfl, h6⟩
      refine thnF h6 ?_
      rintro _ s7 ⟨x, H7, I7p, r7, y7, st7, n7⟩
      have I7 : L2.Inv (X.blk s3 H3 scope ce fp) [] (wipe σ (own.map fun x => x.2)) H7 s7 := inv_np rfl I7p
      have I7' := Inv.pinned I7 (stat I7 n7) (T.obj (i + 1) s7.heap st7)
      refine thnF (pg.run ([] ++ pinsAt fp s7.heap) s7 _ H7 x u _ I7' r7 (step x H7 y7)) ?_
      rintro _ s8 ⟨σ8, H8, I8, hw8, q8⟩
      refine thnF (pt.run ([] ++ pinsAt fp s7.heap) s8 σ8 H8 _ I8 q8) ?_
      rintro b s9 ⟨H9, I9, q9⟩
      have fin : ∀ {s' : Shared} {H' : Hp}, L2.Inv (X.blk s3 H3 scope ce fp) ([] ++ pinsAt fp s7.heap) σ8 H' s' → Nx H' → ∃ m, m < n ∧ ∃ i H', L2.Inv (X.blk s3 H3 scope ce fp) [] (wipe σ (own.map fun x => x.2)) H' s' ∧ tn i s'.heap ∧ (∀ b ∈ fp, H' b = none) ∧ W i m H' := fun {s' H'} I' nx => by
        obtain ⟨m', hm, w'⟩ := hNx H' nx
        have pin' : ∀ b ∈ fp, ∀ o, s7.heap.get? b = some o → s'.heap.get? b = some o ∧ H' b = none := fun b hb o e => by
          obtain ⟨z1, z2, _⟩ := I'.pin (b, o) (List.mem_append_right _ (List.mem_append_right [] (mem_pinsAt hb e)))
          exact ⟨z1, z2⟩
        refine ⟨m', hm, i + 1, H', Inv.weak (Inv.unpinned I') (by rw [← hw8, wipe_length]) fun j v e => ?_, T.keep (i + 1) s7.heap s'.heap st7 fun b hb o e => (pin' b hb o e).1, fun b hb => ?_, w'⟩
        · rw [← hw8] at e
          exact (wipe_some e).1
        · obtain ⟨o, e, _⟩ := T.obj (i + 1) s7.heap st7 b hb
          exact (pin' b hb o e).2
      cases b with
      | false => exact fin I9 q9
      | true =>
        refine thnF (pe.run ([] ++ pinsAt fp s7.heap) s9 σ8 H9 _ I9 q9) ?_
        rintro z s10 ⟨yv, H10, I10, r10, acc, hD10, hz10, nx⟩
        exact app_ok (X := X.blk s3 H3 scope ce fp) I10 hD10 hz10 r10 fun s11 I11 => fin I11 nx
  have done := codeAny_compStart_list loop (T.self X.A 0 _ _ _ st4 loop)
  subst hce hS hD
  exact done
open PySem.Spec PyProof.Rows in
set_option maxHeartbeats 2000000 in
theorem pe_lcH {elt tg iter : Expr} {ifs : List Expr} {scope : Scope} {own : List (Str × Nat)} {pos : Pos} {wi : TI} {g : TG} {tt : TT} {te : TE} (hc : L2H.HotC X) (hN : X.N.Nodup) (hi : L2H.PIH X tg iter wi) (ok : BlkOk X.N X.env.scope scope own)
    (hg : ∀ (s : Shared) (H : Hp) (C : Addr) (cl : List (Str × Addr)) (fp : List Addr), PG (X.blk s H scope (compEnvC scope cl C X.env) fp) tg g)
    (ht : ∀ (s : Shared) (H : Hp) (C : Addr) (cl : List (Str × Addr)) (fp : List Addr), PTs (X.blk s H scope (compEnvC scope cl C X.env) fp) ifs tt)
    (he : ∀ (s : Shared) (H : Hp) (C : Addr) (cl : List (Str × Addr)) (fp : List Addr), PE (X.blk s H scope (compEnvC scope cl C X.env) fp) elt te)
    (hs : ∀ x : Value, foldedSetIterable iter X.env x = pure x := by intro _; rfl) :
    PE X (.ListComp elt [⟨tg, iter, ifs, 0⟩] scope pos) (tLc wi g tt te (own.map fun x => x.2)) := by
  refine ⟨fun pins s σ H Q I h => ?_⟩
  rw [eval_ListComp]
  refine lcH_core hc hN hi ok hg ht he hs I h fun L C s' m H' I' q hn ⟨z0, z1, _, z3, z4, z5⟩ => ⟨m, hn, fun h2 sb => ?_⟩
  exact ⟨.ref L, H', Inv.turned (t' := s'.toks) I' (fun b o hb e => (sb.right b hb).trans e) z0 z1 z3 z4 z5, rfl, q⟩
open PySem.Spec PyProof.Rows in
set_option maxHeartbeats 2000000 in
theorem ps_setLcH {i : Nat} {y : Str} {py : Pos} {elt tg iter : Expr} {ifs : List Expr} {scope : Scope} {own : List (Str × Nat)} {pos spos : Pos} {wi : TI} {g : TG} {tt : TT} {te : TE} (hc : L2H.HotC X) (hN : X.N.Nodup) (hy : X.N[i]? = some y) (hyl : X.env.scope.names.lookup y = some .local)
    (hsw : swapsWith (.ListComp elt [⟨tg, iter, ifs, 0⟩] scope pos) (some (.Name y py)) spos.line X.env = pure true) (hi : L2H.PIH X tg iter wi) (ok : BlkOk X.N X.env.scope scope own)
    (hg : ∀ (s : Shared) (H : Hp) (C : Addr) (cl : List (Str × Addr)) (fp : List Addr), PG (X.blk s H scope (compEnvC scope cl C X.env) fp) tg g)
    (ht : ∀ (s : Shared) (H : Hp) (C : Addr) (cl : List (Str × Addr)) (fp : List Addr), PTs (X.blk s H scope (compEnvC scope cl C X.env) fp) ifs tt)
    (he : ∀ (s : Shared) (H : Hp) (C : Addr) (cl : List (Str × Addr)) (fp : List Addr), PE (X.blk s H scope (compEnvC scope cl C X.env) fp) elt te)
    (hs : ∀ x : Value, foldedSetIterable iter X.env x = pure x := by intro _; rfl) :
    PS X (.Assign [.Name y py] (.ListComp elt [⟨tg, iter, ifs, 0⟩] scope pos) spos) (tAsg (tLc wi g tt te (own.map fun x => x.2)) (gName i)) := by
  refine ⟨fun pins s σ H D I h => ?_⟩
  rw [exec_Assign_Name_used _ _ _ _ hsw]
  refine wpAny_bind (wpAny_standAt (wpAny_bind (wpAny_bind ?_)))
  refine thn (lcH_core (Q := fun x H1 => gName i x σ H1 D.nx) (use := some (assign (.Name y py) X.env)) (pos' := firstIterPos [⟨tg, iter, ifs, 0⟩] pos) (Qf := fun _ s' => SP X pins D .next s') hc hN hi ok hg ht he hs I h fun L C s' m H' I' q hn ⟨z0, z1, z2, z3, z4, z5⟩ => ?_) fun _ s' hq => wpAny_pure (wpAny_pure hq)
  refine wpAny_assign_Name (store_ok2 (v := V.ref L) I' hN hy (.inl hyl) rfl (fun s2 I2 ⟨a, sb, ha⟩ => ?_) (.inr hyl))
  have ne : C ≠ a := ha.elim (fun z => by rw [z]; exact z1) fun z e => z4 y a z e.symm
  exact ⟨m, hn.sameBut sb ne, fun h3 sb3 => ⟨_, H', Inv.turned (t' := s2.toks) I2 (fun b o hb e => (sb3.right b hb).trans e) z0 z1 z3 z4 z5, q⟩⟩
open PySem.Spec PyProof.Rows HotX in
set_option maxHeartbeats 2000000 in
theorem next_list_hot {prog : Program} {w : World} {A : Around} {E : Value → Shared → Prop} {s : Shared} {it l p : Addr} {i : Nat} {its : Array Value} {Q : Option Value → Shared → Prop} (hot : HotAt A p s.heap) (hne : p ≠ it) (hit : s.heap.IsListIter it l i) (hl : s.heap.IsList l its) (hx : its[i]? = none)
    (hQ : ∀ h', Heap.ExtBut it s.heap h' → Q none { s with heap := h' }) : wpAny (model prog w) A (pyNext (.ref it)) Q E s := by
  obtain ⟨hh, o1, v1, h1, d1, c1⟩ := hot
  obtain ⟨oi, hoi, ci, di⟩ := id hit
  obtain ⟨ol, hol, _, nl, dl⟩ := hl
  unfold pyNext
  refine wpAny_bind (wpAny_attempt (wpAny_callSpecial?_slot (name := Str.ofString "__next__") (Heap.IsListIter.typeIs hit) slot_listiter_next (wpAny_call_entry slot_listiter_next (Heap.IsListIter.typeIs hit) entry_listiter_next ?_ (args_listiter_next _))))
  show wpAny _ _ (field (Value.ref it) 0 >>= _) _ _ s
  refine wpAny_bind (wpAny_field hoi di (x := Value.ref l) rfl ?_)
  show wpAny _ _ (if (Value.ref l == .none) = true then _ else _) _ _ s
  rw [if_neg (show ¬ (Value.ref l == .none) = true from Bool.false_ne_true)]
  show wpAny _ _ (field (Value.ref it) 1 >>= _) _ _ s
  refine wpAny_bind (wpAny_field hoi di (x := Value.int i 0) rfl (show wpAny _ _ (seqItems? (Value.ref l) >>= _) _ _ s from wpAny_bind (wpAny_seqItems hol dl ?_)))
  simp only [hx, Int.toNat_natCast]
  refine wpAny_bind (wpAny_rule (wpAny_bind (wpAny_setField hoi di (by simp) (show wpAny _ _ (newExc (.type "StopIteration") [] >>= _) _ _ _ from wpAny_bind ?_))))
  simp only [newTuple, newExc]
  refine wpAny_bind (wpAny_newObj_type (wpAny_bind (m := firstArgMember _ _) (wpAny_of_eq (a := Value.none) (by first | rfl | (simp only [firstArgMember]; rfl)) (wpAny_newObj_type ?_ (by size_fits)))) (by size_fits))
  have g1 := (Heap.get?_update_other (f := Obj.mapFields (·.setIfInBounds 0 .none)) s.heap (Ne.symm hne)).trans h1
  refine raiseNew_hot ⟨hh, o1, v1, Heap.get?_push_of_some _ (Heap.get?_push_of_some _ ?_), d1, c1⟩ ?_ (Heap.get?_push_size _ rfl) rfl (by first | (simp; done) | (simp; omega) | (simp only [Array.size_append]; simp; omega)) ?_
  · exact g1
  · exact Nat.ne_of_lt (Heap.lt_size (Heap.get?_push_of_some _ g1))
  · refine wpAny_bind (wpAny_isInstance (T := "StopIteration") (b := true) ⟨_, Heap.get?_update_self _ (Heap.get?_push_size _ rfl) rfl, rfl⟩ isSubtype_stop (wpAny_pure (hQ _ fun b o hb e => ?_)))
    have e2 := Heap.get?_push_of_some { cls := .type "tuple", data := .seq #[] } ((Heap.get?_update_other (f := Obj.mapFields (·.setIfInBounds 0 .none)) s.heap hb.symm).trans e)
    rw [Heap.get?_update_other _ _ (Nat.ne_of_gt (Heap.lt_size e2))]
    exact Heap.get?_push_of_some _ e2
theorem turn_listH {P : Program} {w : World} {K : PySem.W.Frag} {tg : Expr} (a it : Addr) : L2H.TurnH P w K tg (Itl K a) [it] it (fun i h => h.IsListIter it a i) where
  mem := List.mem_singleton.mpr rfl
  obj := fun i h st b hb => by
    obtain rfl : b = it := List.mem_singleton.mp hb
    obtain ⟨o, e, _, d⟩ := st
    exact ⟨o, e, fun v z => by rw [d] at z; cases z⟩
  keep := fun i h h' st k => by
    obtain ⟨o, e, c, d⟩ := st
    exact ⟨o, k it (List.mem_singleton.mpr rfl) o e, c, d⟩
  item := by
    intro X hP hw hK hc i pins s σ H E I hf st ⟨xs, x, hq, hx⟩
    subst hP hw hK
    obtain ⟨its, rv, pl, _⟩ := Inv.list I hq
    obtain ⟨u, hu, ru⟩ := rv.get hx
    obtain ⟨z0, z1, _, z3, z4, z5⟩ := hf it (List.mem_singleton.mpr rfl)
    refine wpAny_pyNext_list_item st pl.isList (x := u) (by simpa using hu) fun h2 st2 sb => ?_
    obtain ⟨o, e, c, d⟩ := id st2
    have I2 : L2.Inv X pins σ H { s with heap := h2 } := Inv.turned (t' := s.toks) I (fun b o hb e => (sb.right b hb).trans e) z0 z1 z3 z4 z5
    exact ⟨u, rfl, go_of (s := { s with heap := h2 }) e c d (by decide) ⟨x, H, I2, ru, ⟨rfl, fun ys hy => by rw [Inv.list_inj I hy hq]; exact hx⟩, st2, fun b hb => (hf b hb).1⟩⟩
  done := by
    intro X hP hw hK hc i pins s σ H E I hf st ⟨xs, hq, hx⟩
    subst hP hw hK
    obtain ⟨its, rv, pl, _⟩ := Inv.list I hq
    obtain ⟨z0, z1, _, z3, z4, z5⟩ := hf it (List.mem_singleton.mpr rfl)
    have hl := rv.length
    obtain ⟨p, ⟨hh, v1, e1, c1⟩, hp⟩ := hc
    refine next_list_hot ⟨hh, p.2, v1, (Inv.pin I p (List.mem_append_left _ hp)).1, e1, c1⟩ (z5 p (List.mem_append_left _ hp)) st pl.isList (by simp; omega) fun h2 eb => ⟨rfl, Inv.turned (t' := s.toks) I (fun b o hb e => eb b o hb e) z0 z1 z3 z4 z5⟩
  self := fun _ _ _ _ _ st h => wpAny_pyIter_listiter st h
theorem pi_listH {tg l : Expr} {tl : TE} (hl : PE X l tl) : L2H.PIH X tg l (iList X.K tl) := by
  refine ⟨fun pins s σ H R I h => thn (hl.run pins s σ H _ I h) fun v s1 ⟨x, H1, I1, r1, a, e, ⟨xs, hq⟩, q⟩ => ?_⟩
  subst e
  cases r1
  obtain ⟨its, rv, pl, _⟩ := Inv.list I1 hq
  refine wpAny_pyIter_list pl.isList ⟨s1.heap.objs.size, [s1.heap.objs.size], _, _, H1, rfl, Inv.kept (t' := s1.toks) I1 fun b o e => Heap.get?_push_of_some _ e, turn_listH a _, ⟨_, Heap.get?_push_size _ rfl, rfl, rfl⟩, fun b hb => ?_, q⟩
  obtain rfl : b = s1.heap.objs.size := List.mem_singleton.mp hb
  exact Inv.fpOk I1 (Nat.le_refl _) (I1.hok.fresh (Nat.le_refl _))
end

end
section
/-! ### a def that is called while an exception of a known kind is handled -/
structure FnHZ (P : Program) (w : World) (K : PySem.W.Frag) (mg : Str → Option Value) (base : Heap) (CX : CXT) (k : Nat) (f : Addr) (fd : FuncData) (ps : List Str) (Z : Addr × Obj → Prop) (sp : Addr → Sp) : Prop where
  len : ∀ (a : Addr) (vs : List V) (H : Hp) (Q : VK) (E : XK), sp a vs H Q E → vs.length = ps.length
  run : ∀ (A : Around) (outer : List Env) (s : Shared) (H : Hp) (args : Args) (us : List Value) (vs : List V) (Q : VK) (E : XK) (p : Addr × Obj),
    L2H.RoomH k A → L2H.Hot1 A p → Z p → L2H.PinOk outer H s p → Env0 P w K mg base A outer s H → BindsTo s fd args (ps.zip us) → Vals vs us → sp p.1 vs H Q E → codeAny (model P w) A (.call (.ref f) args) (CR CX outer P w H s Q E) s
section
variable {CX : CXT} {P : Program} {w : World} {K : PySem.W.Frag} {mg : Str → Option Value} {base : Heap} {Z : Addr × Obj → Prop} {sp : Addr → Sp}
open PySem.Spec PyProof.Rows in
set_option maxHeartbeats 2000000 in
theorem fn_ofHZ {k : Nat} {f : Addr} {name qual : Str} {params : Arguments} {body : List Stmt} {scope : Scope} {dV kV doc pm cdv ct oc : Value} {an od : Option Addr} {osl : Array (Option Value)} {N ps : List Str}
    (lk : K.lookup f = some ⟨oc, od, .func (PySem.W.fnOf name qual params body scope dV kV doc pm an cdv ct), osl⟩) (hcd : PySem.W.codeIn K cdv qual = true) (S : FnScope N ps scope)
    (len : ∀ (a : Addr) (vs : List V) (H : Hp) (Q : VK) (E : XK), sp a vs H Q E → vs.length = ps.length)
    (hbody : ∀ (A : Around) (outer : List Env) (s : Shared) (H : Hp) (vs : List V) (Q : VK) (E : XK) (p : Addr × Obj), L2H.Hot1 A p → Z p → L2H.RoomH k (A.deeper (envOfC qual scope s.heap.objs.size f cdv)) → sp p.1 vs H Q E →
      ∃ t, PSs (L2H.cxH CX P w K mg base N qual scope f cdv A outer s H E p) body t ∧ t { nx := fun _ H' => Q .non H', rt := Q } (L2.start N vs) H) :
    FnHZ P w K mg base CX (k + 1) f (PySem.W.fnOf name qual params body scope dV kV doc pm an cdv ct) ps Z sp := by
  refine ⟨len, fun A outer s H args us vs Q E p hr hot hz hpin e0 hb r hsp => ?_⟩
  have hl := len p.1 vs H Q E hsp
  have KX := PySem.W.Frag.In.keeps e0.mod.kin fun b o e => (e0.bs b o e).1
  have lim := Heap.NoLimit.keeps e0.mod.nolimit fun b o e => (e0.bs b o e).1
  refine codeAny_call_function hr.depth (KX f _ lk) rfl S.co S.gen rfl (PySem.W.codeRec_of KX hcd) (hb (model P w) A.in1 _ _ ?_)
  refine wpAny_newFunctionEnv_cells S.kind (fun x hy => ?_) fun env he s1 x => ?_
  · obtain ⟨n, v⟩ := x
    rcases S.par n (List.of_mem_zip hy).1 with q | q
    · exact .inl q
    · exact .inr ⟨q, PySem.W.cellsFrom_some scope.names (s.heap.objs.size + 1) [] (.inl q)⟩
  subst he
  refine ⟨Heap.NoLimit.keeps lim x.toInCall.keep, codeAny_func ?_⟩
  obtain ⟨t, ht, hq⟩ := hbody A outer s H vs Q E p hot hz (hr.deeper _) hsp
  have I : L2.Inv (L2H.cxH CX P w K mg base N qual scope f cdv A outer s H E p) [] (L2.start N vs) H s1 := L2H.inv_startH S hpin e0 hl r x
  refine wpAny_mono (ht.run [] s1 (L2.start N vs) H { nx := fun _ H' => Q .non H', rt := Q } I hq) (fun fl s' hs => ?_) fun e s' hs => hs
  cases fl with
  | next =>
    obtain ⟨σ', H', J, q⟩ := hs
    exact ⟨.non, _, J.os, J.bare, J.base, J.hok, rfl, q⟩
  | ret u =>
    obtain ⟨v, σ', H', J, rv, q⟩ := hs
    exact ⟨_, _, J.os, J.bare, J.base, J.hok, rv, q⟩
  | brk =>
    obtain ⟨_, _, _, q⟩ := hs
    exact q.elim
  | cont =>
    obtain ⟨_, _, _, q⟩ := hs
    exact q.elim
open PySem.Spec PyProof.Rows in
set_option maxHeartbeats 2000000 in
theorem pe_callHZ {X : Cx} {k : Nat} {f : Addr} {fd : FuncData} {ps : List Str} {E : L2.St → XK} {x : Str} {q pos : Pos} {e : Expr} {es : List Expr} {t : TA} {p : Addr × Obj}
    (F : FnHZ X.prog X.w X.K X.mg X.base CX k f fd ps Z sp) (hr : L2H.RoomH k X.A) (hot : L2H.Hot1 X.A p) (hp : p ∈ X.pn) (hz : Z p) (hg : Gl X x) (hm : X.mg x = some (.ref f)) (hk : PySem.W.keepIn X.K (.ref f) = true) (hb : Binds X.K fd ps []) (hx : ∀ σ, PassesAt CX X σ (E σ))
    (ha : PA X (e :: es) t) (hdb : (x == ("__debug__" : Str)) = false := by decide +kernel) (he : starEach (e :: es) X.env = (false, eval e X.env) :: starEach es X.env := by rfl) (hpl : ((backTo pos (starEach es X.env)).any fun x => x.1) = false := by rfl) :
    PE X (.Call (.Name x q) (e :: es) [] pos) (tCallS (sp p.1) E t) := by
  refine ⟨fun pins s σ H Q I h => wpAny_Call_Name_kw (ld_glob I hg hm (PySem.W.callWith_K I.ok.mod.kin hk (thn (ha.run pos pins s σ H (fun vs H1 => sp p.1 vs H1 Q (E σ)) I h) fun us s1 z => ?_) he hpl) hdb)⟩
  obtain ⟨vs, H1, I1, r, q⟩ := z
  refine ⟨Inv.kIn I1, ?_⟩
  have hl : us.length = ps.length := r.length.symm.trans (F.len p.1 vs H1 Q (E σ) q)
  have b := hb s1 us (Inv.kIn I1) (by rw [List.append_nil]; exact hl)
  rw [List.append_nil] at b
  have P1 := I1.pin p (List.mem_append_left _ hp)
  refine wpAny_call (codeAny_mono (F.run X.A X.stack s1 H1 ⟨us, []⟩ us vs Q (E σ) p hr hot hz ⟨P1.1, P1.2.1, fun hm => ?_, P1.2.2.2.2⟩ (Inv.env0 I1) b r q) fun r s' hq => ?_)
  · rcases List.mem_cons.mp (Inv.stkSub I1 p.1 hm) with z | z
    · exact P1.2.2.1 z
    · exact P1.2.2.2.1 z
  · cases r with
    | error e => exact hx σ pins H1 s1 e s' I1 hq
    | ok fl =>
      cases fl with
      | next => exact hq.elim
      | brk => exact hq.elim
      | cont => exact hq.elim
      | ret u => exact Inv.after I1 hq
end

section
variable {X : Cx} {CX : CXT} {k : Nat} {f C : Addr} {fd : FuncData} {ps : List Str} {sp : Sp} {x : Str} {p pos : Pos} {e : Expr} {es : List Expr} {t : TA}
/-- C(..) of a class whose __init__ may raise -/
def tMakeP (C : Addr) (sp : Sp) (E : L2.St → XK) (t : TA) : TE := fun σ H Q => t σ H fun vs H1 => ∀ y dy, H1 y = none → H1 dy = none → dy ≠ y → sp (.ref y :: vs) (upd (upd H1 dy (.own y)) y (.ins C dy [])) (fun v H2 => v = .non ∧ Q (.ref y) H2) (E σ)
theorem make_runP {pins : List (Addr × Obj)} {σ : L2.St} {H : Hp} {s : Shared} {Q : VK} {us : List Value} {vs : List V} {Eo : XK} (M : Mk X.K C f) (F : FnOk X.prog X.w X.K X.mg X.base CX k f fd ps sp) (hr : Room (k + 1) X.A) (hb : Binds X.K fd ps []) (hx : PassesAt CX X σ Eo) (I : Inv X pins σ H s) (r : Vals vs us)
    (h : ∀ y dy, H y = none → H dy = none → dy ≠ y → sp (.ref y :: vs) (upd (upd H dy (.own y)) y (.ins C dy [])) (fun v H2 => v = .non ∧ Q (.ref y) H2) Eo) : wpAny (model X.prog X.w) X.A (call (.ref C) us) (EP X pins σ Q) X.xe s := by
  have z := h (s.heap.objs.size + 1) s.heap.objs.size (I.hok.fresh (Nat.le_succ _)) (I.hok.fresh (Nat.le_refl _)) (Nat.ne_of_lt (Nat.lt_succ_self _))
  have J := Inv.made (C := C) I
  have r2 : Vals (V.ref (s.heap.objs.size + 1) :: vs) (Value.ref (s.heap.objs.size + 1) :: us) := .cons rfl r
  have len : (Value.ref (s.heap.objs.size + 1) :: us).length = ps.length := r2.length.symm.trans (F.len _ _ _ _ z)
  have bnd := hb _ (Value.ref (s.heap.objs.size + 1) :: us) J.kIn (by rw [List.append_nil]; exact len)
  rw [List.append_nil] at bnd
  refine wpAny_call (make_map (f := f) I.kIn M.makes M.init (beq_iff_eq.mp M.fn) (codeAny_mono (F.run _ X.stack _ _ ⟨_, []⟩ _ _ _ Eo (hr.make C us []) (J.env0.make C us []) bnd r2 z) fun r s' q => ?_))
  cases r with
  | error err => exact hx pins _ _ err s' J q
  | ok fl =>
    cases fl with
    | next => exact q.elim
    | brk => exact q.elim
    | cont => exact q.elim
    | ret u =>
      obtain ⟨v, H', J2, rv, ev, q3⟩ := J.after q
      subst ev
      exact ⟨rv, ⟨V.ref (s.heap.objs.size + 1), H', J2, rfl, q3⟩⟩
theorem pe_makeP {E : L2.St → XK} (M : Mk X.K C f) (F : FnOk X.prog X.w X.K X.mg X.base CX k f fd ps sp) (hr : Room (k + 1) X.A) (hg : Gl X x) (hm : X.mg x = some (.ref C)) (hb : Binds X.K fd ps []) (hx : ∀ σ, PassesAt CX X σ (E σ))
    (ha : PA X (e :: es) t) (hdb : (x == ("__debug__" : Str)) = false := by decide) (he : starEach (e :: es) X.env = (false, eval e X.env) :: starEach es X.env := by rfl) (hpl : (backTo pos (starEach es X.env)).any (·.1) = false := by rfl) :
    PE X (.Call (.Name x p) (e :: es) [] pos) (tMakeP C sp E t) :=
  ⟨fun pins s σ H Q I h => wpAny_Call_Name_kw (ld_glob I hg hm (PySem.W.callWith_K (h₀ := X.base) I.ok.mod.kin M.kp (thn (ha.run pos pins s σ H _ I h) fun us s1 ⟨vs, H1, I1, r, q⟩ => ⟨I1.kIn, make_runP M F hr hb (hx σ) I1 r q⟩) he hpl) hdb)⟩
end
theorem mark_self {A : Around} {v : Value} (h : A.handled = some v) : A.mark (some v) = A := by
  cases A
  simp only at h
  subst h
  rfl
theorem call_isN {X : Cx} {p : Addr × Obj} {D : Addr} (h : X.A.handled = some (.ref p.1)) (hc : X.calm = false) (hpn : X.pn = [p]) (hD : ExcC X.K D) (hz : Zc (.ref D) none p.2) (hd : ∃ vs, p.2.data = .fields vs) : CallR X.nox (.builtin "isinstance") (rIsE X.K D p.1) := by
  have e : X.nox = X.suite p.1 [p] := by
    show ({ X with xe := fun _ _ => False } : Cx) = { X with A := X.A.mark (some (.ref p.1)), calm := false, pn := [p], xe := fun _ _ => False }
    rw [mark_self h, ← hc, ← hpn]
  rw [e]
  exact call_isE (X := X) (pn := []) hD hz hd
theorem pss_if {X : Cx} {st : List Stmt} {t : TS} {φ : Prop} (h : φ → PSs X st t) : PSs X st (fun D σ H => φ ∧ t D σ H) := ⟨fun pins s σ H D I z => (h z.1).run pins s σ H D I z.2⟩

end
section
/-! ### an exception is handled whose context is None, or one whose context is None -/
section
open PySem.Spec PyProof.Rows HotX
/-- the context of the object o -/
def Ctx2 (G : Addr → Option Obj) (o : Obj) : Prop := ∀ vs : Array Value, o.data = .fields vs → vs[2]? = some .none ∨ ∃ (q : Addr) (oq : Obj) (vq : Array Value), vs[2]? = some (.ref q) ∧ G q = some oq ∧ oq.data = .fields vq ∧ vq[2]? = some .none
def HotAt2 (A : Around) (x1 : Addr) (h : Heap) : Prop := A.handled = some (.ref x1) ∧ ∃ (o : Obj) (vs : Array Value), h.get? x1 = some o ∧ o.data = .fields vs ∧ Ctx2 h.get? o
theorem HotAt2.keep {A : Around} {x1 : Addr} {h h' : Heap} (c : HotAt2 A x1 h) (k : ∀ b o vs, h.get? b = some o → o.data = .fields vs → h'.get? b = some o) : HotAt2 A x1 h' := by
  obtain ⟨hh, o, vs, h1, d1, c1⟩ := c
  refine ⟨hh, o, vs, k _ _ _ h1 d1, d1, fun vs' d' => ?_⟩
  rcases c1 vs' d' with z | ⟨q, oq, vq, z1, z2, z3, z4⟩
  · exact .inl z
  · exact .inr ⟨q, oq, vq, z1, k _ _ _ z2 z3, z3, z4⟩
section
variable {prog : Program} {w : World} {A : Around} {E : Value → Shared → Prop} {s : Shared}
theorem unchained2 {x1 a : Addr} {Q : Value → Shared → Prop} (hot : HotAt2 A x1 s.heap) (hn : ∀ (o : Obj) (vs : Array Value), s.heap.get? x1 = some o → o.data = .fields vs → vs[2]? ≠ some (.ref a)) (q : Q .none s) :
    wpAny (model prog w) A (holding [Value.ref a] (runValue (.builtin "proto.unchain" ⟨[.ref a, .ref x1, .ref x1, .bool false], []⟩))) Q E s := by
  obtain ⟨hh, o1, vs1, h1, d1, c1⟩ := hot
  rcases c1 vs1 d1 with c1 | ⟨z, oz, vz, c1, hz, dz, cz⟩
  · exact unchained h1 d1 c1 q
  · refine wpAny_holding (wpAny_runValue (codeAny_builtin entry_unchain ?_))
    show wpAny _ _ (field (.ref x1) 2 >>= _) _ _ s
    refine wpAny_bind (wpAny_field h1 d1 c1 ?_)
    rw [if_neg (show ¬ ((Value.ref z == Value.none) = true) from by simp)]
    have hza : z ≠ a := fun e => hn o1 vs1 h1 d1 (by rw [c1, e])
    rw [if_neg (show ¬ ((Value.ref z == Value.ref a) = true) from by simp [hza])]
    by_cases hzx : z = x1
    · rw [if_pos (show (Value.ref z == Value.ref x1) = true from by simp [hzx])]
      exact wpAny_bind (wpAny_rule (wpAny_pure q))
    · rw [if_neg (show ¬ ((Value.ref z == Value.ref x1) = true) from by simp [hzx])]
      show wpAny _ _ (again _) _ _ s
      refine wpAny_pure ⟨by with_unfolding_all rfl, codeAny_builtin entry_unchain ?_⟩
      show wpAny _ _ (field (.ref z) 2 >>= _) _ _ s
      refine wpAny_bind (wpAny_field hz dz cz ?_)
      rw [if_pos (show (Value.none == Value.none) = true from rfl)]
      exact wpAny_pure q
theorem raiseNew_hot2 {α : Type} {a x1 : Addr} {oe : Obj} {vs : Array Value} {Q : α → Shared → Prop} (hot : HotAt2 A x1 s.heap) (hne : x1 ≠ a) (hn : ∀ (o : Obj) (vs : Array Value), s.heap.get? x1 = some o → o.data = .fields vs → vs[2]? ≠ some (.ref a)) (ha : s.heap.get? a = some oe) (da : oe.data = .fields vs) (hi : 2 < vs.size)
    (hE : E (.ref a) { s with heap := s.heap.update a (Obj.mapFields (·.setIfInBounds 2 (.ref x1))) }) : wpAny (model prog w) A (raiseNew (.ref a) : Sem α) Q E s := by
  have hh := hot.1
  unfold raiseNew
  refine wpAny_bind (wpAny_handled ?_)
  rw [hh]
  have hb : (Value.ref x1 != Value.ref a) = true := ref_bne hne
  first
  | (show wpAny _ _ (if (Value.ref x1 != Value.ref a) = true then _ else _) _ _ _
     rw [if_pos hb]
     first
     | exact wpAny_bind (unchained2 hot hn (wpAny_bind (chained ha da hi (wpAny_throw hE))))
     | exact wpAny_bind (wpAny_bind (unchained2 hot hn (chained ha da hi (wpAny_throw hE)))))
  | (refine wpAny_bind ?_
     show wpAny _ _ (if (Value.ref x1 != Value.ref a) = true then _ else _) _ _ _
     rw [if_pos hb]
     exact wpAny_bind (unchained2 hot hn (chained ha da hi (wpAny_throw hE))))
theorem get_none_ge {h : Heap} {a : Addr} (e : h.objs.size ≤ a) : h.get? a = none := by
  cases z : h.get? a with
  | none => rfl
  | some o => exact absurd (Heap.lt_size z) (Nat.not_lt.mpr e)
/-- a new place is no context -/
theorem HotAt2.nctx {A : Around} {x1 a : Addr} {h h' : Heap} (hot : HotAt2 A x1 h) (hn : h.get? a = none) (k : ∀ b o, h.get? b = some o → h'.get? b = some o) : ∀ (o : Obj) (vs : Array Value), h'.get? x1 = some o → o.data = .fields vs → vs[2]? ≠ some (.ref a) := by
  obtain ⟨_, o1, vs1, h1, d1, c1⟩ := hot
  intro o vs ho hd e
  rw [k _ _ h1] at ho
  cases ho
  rcases c1 vs hd with z | ⟨q, oq, vq, z1, z2, z3, z4⟩
  · rw [z] at e
    cases e
  · rw [z1] at e
    cases e
    rw [z2] at hn
    cases hn
theorem pyNext_range_end_hot2 {it x1 : Addr} {x left step : Int} {Q : Option Value → Shared → Prop} (hot : HotAt2 A x1 s.heap) (hit : IsRangeIter s.heap it x left step) (hleft : left ≤ 0)
    (hQ : ∀ h', (∀ b o, s.heap.get? b = some o → h'.get? b = some o) → Q none { s with heap := h' }) : wpAny (model prog w) A (pyNext (.ref it)) Q E s := by
  have hT : s.TypeIs (.ref it) "range_iterator" := ⟨_, hit, rfl⟩
  unfold pyNext
  refine wpAny_bind (wpAny_attempt (wpAny_callSpecial?_slot (name := Str.ofString "__next__") hT F.slot_range_iterator_next
    (wpAny_call_entry F.slot_range_iterator_next hT F.entry_range_iterator_next ?_ (F.args_range_iterator_next_1 _))))
  show wpAny _ _ (field (.ref it) 0 >>= _) _ _ s
  refine wpAny_bind (wpAny_field hit rfl (x := rawInt x) rfl ?_)
  show wpAny _ _ (field (.ref it) 1 >>= _) _ _ s
  refine wpAny_bind (wpAny_field hit rfl (x := rawInt left) rfl ?_)
  show wpAny _ _ (field (.ref it) 2 >>= _) _ _ s
  refine wpAny_bind (wpAny_field hit rfl (x := rawInt step) rfl ?_)
  show wpAny _ _ (if left ≤ 0 then _ else _) _ _ s
  rw [if_pos hleft]
  refine wpAny_bind (wpAny_rule ?_)
  refine wpAny_bind ?_
  show wpAny _ _ (newExc (.type "StopIteration") [] >>= _) _ _ _
  refine wpAny_bind ?_
  simp only [newExc, newTuple]
  refine wpAny_bind (wpAny_newObj_type ?_ (by size_fits))
  refine wpAny_bind (m := firstArgMember _ _) (wpAny_of_eq (a := Value.none) (by first | rfl | (simp only [firstArgMember]; rfl)) ?_)
  refine wpAny_newObj_type ?_ (by size_fits)
  obtain ⟨_, o1, vs1, h1, _, _⟩ := id hot
  refine raiseNew_hot2 (hot.keep fun b o vs e _ => Heap.get?_push_of_some _ (Heap.get?_push_of_some _ e)) (Nat.ne_of_lt (Heap.lt_size (Heap.get?_push_of_some _ h1))) (hot.nctx (get_none_ge (by rw [Heap.size_push]; exact Nat.le_succ _)) fun b o e => Heap.get?_push_of_some _ (Heap.get?_push_of_some _ e)) (Heap.get?_push_size _ rfl) rfl (by first | (simp; done) | (simp; omega) | (simp only [Array.size_append]; simp; omega)) ?_
  refine wpAny_bind (wpAny_isInstance (T := "StopIteration") (b := true) ⟨_, Heap.get?_update_self _ (Heap.get?_push_size _ rfl) rfl, rfl⟩ isSubtype_stop ?_)
  refine wpAny_pure (hQ _ fun b o e => ?_)
  rw [Heap.get?_update_other _ _ (Nat.ne_of_gt (Heap.lt_size (Heap.get?_push_of_some _ e)))]
  exact Heap.get?_push_of_some _ (Heap.get?_push_of_some _ e)
end
/-! ### the context that bears it -/
def Hot2 (A : Around) (pl : List (Addr × Obj)) (p : Addr × Obj) : Prop := A.handled = some (.ref p.1) ∧ ∃ vs : Array Value, p.2.data = .fields vs ∧ (vs[2]? = some .none ∨ ∃ q ∈ pl, vs[2]? = some (.ref q.1) ∧ ∃ vq : Array Value, q.2.data = .fields vq ∧ vq[2]? = some .none)
def Hot2C (X : Cx) : Prop := ∃ p ∈ X.pn, Hot2 X.A X.pn p
theorem Hot2C.at {X : Cx} {pins : List (Addr × Obj)} {σ : L2.St} {H : Hp} {s : Shared} (c : Hot2C X) (I : L2.Inv X pins σ H s) : ∃ x1, HotAt2 X.A x1 s.heap := by
  obtain ⟨p, hp, hh, v1, e1, c1⟩ := c
  refine ⟨p.1, hh, p.2, v1, (I.pin p (List.mem_append_left _ hp)).1, e1, fun vs d => ?_⟩
  rw [e1] at d
  cases d
  rcases c1 with z | ⟨q, hq, z, vq, d2, c2⟩
  · exact .inl z
  · exact .inr ⟨q.1, q.2, vq, z, (I.pin q (List.mem_append_left _ hq)).1, d2, c2⟩
/-! ### for over range, there -/
structure TurnR (P : Program) (w : World) (K : PySem.W.Frag) (tg : Expr) (J : It) (fp : List Addr) (it : Addr) (tn : Nat → Heap → Prop) : Prop where
  mem : it ∈ fp
  obj : ∀ i h, tn i h → ∀ b ∈ fp, ∃ o, h.get? b = some o ∧ ∀ v, o.data ≠ .cell v
  keep : ∀ i h h', tn i h → (∀ b ∈ fp, ∀ o, h.get? b = some o → h'.get? b = some o) → tn i h'
  item : ∀ (X : Cx), X.prog = P → X.w = w → X.K = K → ∀ (i : Nat) (pins : List (Addr × Obj)) (s : Shared) (σ : L2.St) (H : Hp) (E : Value → Shared → Prop), L2.Inv X pins σ H s → (∀ b ∈ fp, FpOk X pins H b) → tn i s.heap → J.go i H →
    wpAny (model P w) X.A (pyNext (.ref it)) (fun r s1 => ∃ u, r = some u ∧
      wpAny (model P w) X.A (letOwnedTupleGo tg (.ref it) u) (fun _ s2 => ∃ x H', L2.Inv X pins σ H' s2 ∧ RelV x u ∧ J.yld i H x H' ∧ tn (i + 1) s2.heap ∧ ∀ b ∈ fp, H' b = none) E s1) E s
  done : ∀ (X : Cx), X.prog = P → X.w = w → X.K = K → Hot2C X → ∀ (i : Nat) (pins : List (Addr × Obj)) (s : Shared) (σ : L2.St) (H : Hp) (E : Value → Shared → Prop), L2.Inv X pins σ H s → (∀ b ∈ fp, FpOk X pins H b) → tn i s.heap → J.stop i H →
    wpAny (model P w) X.A (pyNext (.ref it)) (fun r s1 => r = none ∧ L2.Inv X pins σ H s1) E s
  self : ∀ (A : Around) (i : Nat) (s : Shared) (Q : Value → Shared → Prop) (E : Value → Shared → Prop), tn i s.heap → Q (.ref it) s → wpAny (model P w) A (pyIter (.ref it)) Q E s
theorem turn_rangeR {P : Program} {w : World} {K : PySem.W.Frag} {tg : Expr} (it : Addr) (lo : Int) (n : Nat) : TurnR P w K tg (Itr lo n) [it] it (fun i h => IsRangeIter h it (lo + (i : Nat) * 1) ((n : Int) - (i : Nat)) 1) where
  mem := by simp
  obj := fun i h st b hb => by
    have e : b = it := by simpa using hb
    subst e
    exact ⟨_, st, fun v z => by
      have z' : Data.fields _ = Data.cell v := z
      cases z'⟩
  keep := fun i h h' st k => k it (by simp) _ st
  item := by
    intro X hP hw hK i pins s σ H E I hf st hg
    subst hP hw hK
    obtain ⟨f0, f1, f2, f3, f4, f5⟩ := hf it (by simp)
    have hlt : i < n := hg
    refine wpAny_pyNext_range_item st (by omega) fun h' st' sb => ?_
    have st2 : IsRangeIter h' it (lo + ((i + 1 : Nat) : Int) * 1) ((n : Int) - ((i + 1 : Nat) : Int)) 1 := by
      have e1 : lo + ((i : Nat) : Int) * 1 + 1 = lo + ((i + 1 : Nat) : Int) * 1 := by omega
      have e2 : (n : Int) - ((i : Nat) : Int) - 1 = (n : Int) - ((i + 1 : Nat) : Int) := by omega
      rw [← e1, ← e2]
      exact st'
    have I1 : L2.Inv X pins σ H { s with heap := h', toks := s.toks + 1 } := I.turned (fun b o hb e => (sb.2 b hb).trans e) f0 f1 f3 f4 f5
    refine ⟨_, rfl, go_of (s := { s with heap := h', toks := s.toks + 1 }) (n := "range_iterator") st2 rfl rfl (by decide) ⟨.int (lo + i), H, I1, ⟨s.toks, ?_⟩, ⟨rfl, rfl⟩, st2, fun b hb => (hf b hb).1⟩⟩
    rw [Int.mul_one]
  done := by
    intro X hP hw hK hc i pins s σ H E I hf st hg
    subst hP hw hK
    obtain ⟨f0, f1, f2, f3, f4, f5⟩ := hf it (by simp)
    obtain ⟨x1, hot⟩ := hc.at I
    exact pyNext_range_end_hot2 hot st (by have : n ≤ i := hg; omega) fun h' eb => ⟨rfl, I.turned (t' := s.toks) (fun b o _ e => eb b o e) f0 f1 f3 f4 f5⟩
  self := fun _ _ _ _ _ st h => wpAny_pyIter_rangeiter st h
structure PIR (X : Cx) (tg iter : Expr) (wi : TI) : Prop where
  run : ∀ (pins : List (Addr × Obj)) (s : Shared) (σ : L2.St) (H : Hp) (R : It → Hp → Prop), L2.Inv X pins σ H s → wi σ H R →
    wpAny (model X.prog X.w) X.A (eval iter X.env) (fun v s1 => wpAny (model X.prog X.w) X.A (pyIter v) (fun itv s2 => ∃ (it : Addr) (fp : List Addr) (tn : Nat → Heap → Prop) (J : It) (H' : Hp), itv = .ref it ∧ L2.Inv X pins σ H' s2 ∧ TurnR X.prog X.w X.K tg J fp it tn ∧ tn 0 s2.heap ∧ (∀ b ∈ fp, FpOk X pins H' b) ∧ R J H') X.xe s1) X.xe s
theorem pi_range1R {X : Cx} {tg a : Expr} {ta : TA} {p pos : Pos} (hg : Gl X "range") (hm : X.mg "range" = none) (ha : PA X [a] ta) (hs : starEach [a] X.env = [(false, eval a X.env)] := by rfl) : PIR X tg (.Call (.Name "range" p) [a] [] pos) (iRng1 ta) := by
  refine ⟨fun pins s σ H R I h => ?_⟩
  refine Call_ (ld_blt I hg hm boot_range (PyProof.Rows.callWith_type1 (thn (ha.run pos pins s σ H _ I h) fun us s1 ⟨vs, H1, I1, r1, q1⟩ => ?_) hs rfl))
  obtain ⟨j, e, q1, q2, q⟩ := q1
  subst e
  cases r1 with
  | cons r rr =>
    cases rr
    obtain ⟨t, rfl⟩ := r
    refine call_range_1 ?_
    refine wpAny_pyIter_range (IsRange.new ..) (small_one (by omega) (by omega) q1 q2) ?_
    refine ⟨_, [_], _, _, H1, rfl, Inv.kept (t' := _) (Inv.kept (t' := _) I1 fun b o e => Heap.get?_push_of_some _ e) fun b o e => Heap.get?_push_of_some _ e, turn_rangeR _ 0 (j - 0).toNat, ?_, fun b hb => ?_, by simpa using q⟩
    · have e1 : (0 : Int) + ((0 : Nat) : Int) * 1 = 0 := by simp
      have e2 : (((j - 0).toNat : Nat) : Int) - ((0 : Nat) : Int) = Builtin.Range.rangeSize 0 j 1 := by rw [rangeSize_one]; split <;> omega
      rw [e1, e2]
      exact Heap.get?_push_size _ rfl
    · have e := List.mem_singleton.mp hb
      subst e
      exact Inv.fpOk I1 (by rw [Heap.size_push]; exact Nat.le_succ _) (I1.hok.fresh (by rw [Heap.size_push]; exact Nat.le_succ _))
end

end
section
section
variable {X : Cx}
theorem inv_pnL {pl : List (Addr × Obj)} {σ : L2.St} {H : Hp} {s : Shared} (I : L2.Inv X [] σ H s) (h : ∀ p ∈ pl, s.heap.get? p.1 = some p.2 ∧ H p.1 = none ∧ p.1 ≠ X.env.locals ∧ p.1 ∉ X.fs ∧ ∀ v, p.2.data ≠ Data.cell v) : L2.Inv ({ X with pn := pl } : Cx) [] σ H s :=
  ⟨⟨I.ok.mod, I.ok.kind, I.ok.glob, I.ok.blt, I.ok.above, I.ok.inj, I.ok.has, I.ok.cab, I.ok.hd, I.ok.frames, I.ok.stk, I.ok.exf, I.ok.bs, I.ok.bsz, I.ok.noex, I.ok.exfs, I.ok.funs, I.ok.frf⟩, I.os, I.bare, I.base, I.loc, I.cell, I.free, I.freeC, fun q hq => h q (by simpa using hq), I.hok, I.len⟩
open PySem.Spec PyProof.Rows in
set_option maxHeartbeats 4000000 in
theorem lcR_core {pins : List (Addr × Obj)} {s : Shared} {σ : L2.St} {H : Hp} {Q : VK} {use : Option (Value → Sem Unit)} {Qf : Value → Shared → Prop} {pos' : Pos} {elt tg iter : Expr} {ifs : List Expr} {scope : Scope} {own : List (Str × Nat)} {pos : Pos} {wi : TI} {g : TG} {tt : TT} {te : TE} (hc : Hot2C X) (hN : X.N.Nodup) (hi : PIR X tg iter wi) (ok : BlkOk X.N X.env.scope scope own)
    (hg : ∀ (s : Shared) (H : Hp) (C : Addr) (cl : List (Str × Addr)) (fp : List Addr), PG (X.blk s H scope (compEnvC scope cl C X.env) fp) tg g)
    (ht : ∀ (s : Shared) (H : Hp) (C : Addr) (cl : List (Str × Addr)) (fp : List Addr), PTs (X.blk s H scope (compEnvC scope cl C X.env) fp) ifs tt)
    (he : ∀ (s : Shared) (H : Hp) (C : Addr) (cl : List (Str × Addr)) (fp : List Addr), PE (X.blk s H scope (compEnvC scope cl C X.env) fp) elt te)
    (hs : ∀ x : Value, foldedSetIterable iter X.env x = pure x) (I : L2.Inv X pins σ H s) (h : tLc wi g tt te (own.map fun x => x.2) σ H Q)
    (fin0 : ∀ (L C : Addr) (s' : Shared) (m : Str → Option Value) (H' : Hp), L2.Inv X pins σ H' s' → Q (.ref L) H' → s'.heap.Ns C m → FpOk X pins H' C → compPost (model X.prog X.w) X.A X.xe use Qf (.ref L) C (.ok .next) s') :
    wpAny (model X.prog X.w) X.A (comprehension (.ListComp elt [⟨tg, iter, ifs, 0⟩] scope pos) scope X.env pos' (newList []) false (eval iter X.env) use) Qf X.xe s := by
  have hfree : ∀ y ∈ scope.names, y.2 = .free → ∃ c, X.env.cells.lookup y.1 = some c := fun y hy e => (ok.free y hy e).elim (fun k => I.ok.has y.1 (.inl k)) fun k => I.ok.has y.1 (.inr k)
  refine wpAny_comprehension_free (use := use) rfl hs (closure_ok hfree) ok.kind (fun y hy e => by rw [ok.uniq y hy, e]) (thn (hi.run pins s σ H _ I h) fun xv s1 hx => thn hx fun itv s2 h2 => ?_)
  obtain ⟨it, fp, tn, J, H2, rfl, I2, T, st2, f2, q⟩ := h2
  refine wpAny_newObj_type (newEnv_comp ?_) (show (0 : Nat) ≤ sizeLine from Nat.zero_le _)
  have hDn : H2 s2.heap.objs.size = none := I2.hok.fresh (Nat.le_refl _)
  obtain ⟨W, ⟨m0, w0⟩, turn⟩ := q s2.heap.objs.size hDn
  have I3 : L2.Inv X pins σ (upd H2 s2.heap.objs.size (.lst [])) { s2 with heap := s2.heap.push { cls := .type "list", data := .seq #[] } } :=
    Inv.laid I2 (fun b o e => Heap.get?_push_of_some _ e) (Nat.le_refl _) ⟨Nat.zero_le _, [], 0, Paired.nil, Heap.get?_push_size _ rfl⟩
  have sz : ∀ b ∈ fp, b < s2.heap.objs.size := fun b hb => by
    obtain ⟨o, e, _⟩ := T.obj 0 s2.heap st2 b hb
    exact Heap.lt_size e
  have st3 : tn 0 (s2.heap.push { cls := .type "list", data := .seq #[] }) := T.keep 0 s2.heap _ st2 fun b _ o e => Heap.get?_push_of_some _ e
  have f3 : ∀ b ∈ fp, FpOk X pins (upd H2 s2.heap.objs.size (.lst [])) b ∧ b < (s2.heap.push { cls := .type "list", data := .seq #[] }).objs.size := fun b hb => by
    refine ⟨⟨?_, (f2 b hb).2⟩, ?_⟩
    · rw [upd_ne (Nat.ne_of_lt (sz b hb))]
      exact (f2 b hb).1
    · rw [Heap.size_push]
      exact Nat.lt_succ_of_lt (sz b hb)
  generalize hD : s2.heap.objs.size = D at *
  generalize hS : ({ s2 with heap := s2.heap.push { cls := .type "list", data := .seq #[] } } : Shared) = s3 at I3
  have hh3 : s2.heap.push { cls := .type "list", data := .seq #[] } = s3.heap := by rw [← hS]
  rw [hh3] at st3 f3
  generalize upd H2 D (.lst []) = H3 at I3 f3 w0
  have I4 := block_start I3 ok hN f3
  have pg := hg s3 H3 s3.heap.objs.size (cellsFrom (s3.heap.objs.size + 1) scope.names (cloFrom X.env.cells scope.names [])) fp
  have pt := ht s3 H3 s3.heap.objs.size (cellsFrom (s3.heap.objs.size + 1) scope.names (cloFrom X.env.cells scope.names [])) fp
  have pe := he s3 H3 s3.heap.objs.size (cellsFrom (s3.heap.objs.size + 1) scope.names (cloFrom X.env.cells scope.names [])) fp
  have nfp : ∀ b ∈ fp, H3 b = none := fun b hb => (f3 b hb).1.1
  have st4 : tn 0 (pushCells (s3.heap.push { cls := .type "dict", data := .dict #[] }) scope.names) := T.keep 0 s3.heap _ st3 fun b _ o e => pushCells_keeps scope.names _ b o (Heap.get?_push_of_some _ e)
  have cL : (compEnvC scope (cellsFrom (s3.heap.objs.size + 1) scope.names (cloFrom X.env.cells scope.names [])) s3.heap.objs.size X.env).locals = s3.heap.objs.size := rfl
  have P3 : ∀ p ∈ X.pn, _ := fun p hp => I3.pin p (List.mem_append_left _ hp)
  have pfp : ∀ p ∈ X.pn, p.1 ∉ fp := fun p hp hb => (f3 p.1 hb).1.2.2.2.2.2 p (List.mem_append_left _ hp) rfl
  have pfr : ∀ p ∈ X.pn, p.1 ∉ frs X.stack := fun p hp => by
    obtain ⟨pg3, pH3, pl3, pf3, pd3⟩ := I3.pin p (List.mem_append_left _ hp)
    rcases I3.ok.stk with e | ⟨e, e2⟩
    · rw [e]
      exact pf3
    · rw [e]
      intro hb
      unfold frs at hb
      rw [List.filterMap_cons, e2] at hb
      rcases List.mem_cons.mp hb with z | z
      · exact pl3 z
      · exact pf3 z
  generalize hce : compEnvC scope (cellsFrom (s3.heap.objs.size + 1) scope.names (cloFrom X.env.cells scope.names [])) s3.heap.objs.size X.env = ce at I4 pg pt pe cL
  have hotb : ∀ {σ5 : L2.St} {H5 : Hp} {s5 : Shared}, L2.Inv (X.blk s3 H3 scope ce fp) [] σ5 H5 s5 → L2.Inv ({ X.blk s3 H3 scope ce fp with pn := X.pn } : Cx) [] σ5 H5 s5 := fun {σ5 H5 s5} I5 => inv_pnL I5 fun p hp => by
    obtain ⟨pg3, pH3, pl3, pf3, pd3⟩ := I3.pin p (List.mem_append_left _ hp)
    exact ⟨I5.base.keep p.1 p.2 pg3 pH3 (pfr p hp) (pfp p hp), I5.base.free p.1 p.2 pg3 pH3 (pfp p hp), (by
      show p.1 ≠ ce.locals
      rw [cL]
      exact Nat.ne_of_lt (Heap.lt_size pg3)), pfr p hp, pd3⟩
  have hotc : Hot2C ({ X.blk s3 H3 scope ce fp with pn := X.pn } : Cx) := hc
  have stat : ∀ {σ' : L2.St} {H' : Hp} {s' : Shared}, L2.Inv (X.blk s3 H3 scope ce fp) [] σ' H' s' → (∀ b ∈ fp, H' b = none) → ∀ b ∈ fp, FpOk (X.blk s3 H3 scope ce fp) [] H' b := fun {σ' H' s'} I' hn b hb =>
    ⟨hn b hb, (I'.ok.exf b hb).1, I'.ok.exfs b hb, .inl hb, fun x c e => (I'.ok.exf b hb).2 x c e, fun q hq => by simp at hq⟩
  have statP : ∀ {σ' : L2.St} {H' : Hp} {s' : Shared}, L2.Inv (X.blk s3 H3 scope ce fp) [] σ' H' s' → (∀ b ∈ fp, H' b = none) → ∀ b ∈ fp, FpOk ({ X.blk s3 H3 scope ce fp with pn := X.pn } : Cx) [] H' b := fun {σ' H' s'} I' hn b hb =>
    ⟨hn b hb, (I'.ok.exf b hb).1, I'.ok.exfs b hb, .inl hb, fun x c e => (I'.ok.exf b hb).2 x c e, fun q hq => by
      have hq : q ∈ X.pn := by simpa using hq
      exact fun z => pfp q hq (z ▸ hb)⟩
  have loop : codeAny (model X.prog X.w) X.A (.compLoop (.ListComp elt [⟨tg, iter, ifs, 0⟩] scope pos) 0 (.ref it) (.ref D) ce) (compPost (model X.prog X.w) X.A X.xe use Qf (.ref D) s3.heap.objs.size) { s3 with heap := pushCells (s3.heap.push { cls := .type "dict", data := .dict #[] }) scope.names } := by
    refine compLoop_any (fun n s' => ∃ i H', L2.Inv (X.blk s3 H3 scope ce fp) [] (wipe σ (own.map fun x => x.2)) H' s' ∧ tn i s'.heap ∧ (∀ b ∈ fp, H' b = none) ∧ W i n H') ?_ m0 ⟨0, H3, I4, st4, nfp, w0⟩
    rintro n s5 ⟨i, H5, I5, st5, n5, w5⟩
    rcases turn i n H5 w5 with ⟨stop, qq⟩ | ⟨go, Nx, hNx, step⟩
    · refine thnF (T.done ({ X.blk s3 H3 scope ce fp with pn := X.pn } : Cx) rfl rfl rfl hotc i [] s5 _ H5 (fun _ _ => False) (hotb I5) (statP I5 n5) st5 stop) ?_
      rintro r s6 ⟨rfl, I6p⟩
      have I6 : L2.Inv (X.blk s3 H3 scope ce fp) [] (wipe σ (own.map fun x => x.2)) H5 s6 := inv_np rfl I6p
      have I7 : L2.Inv X pins σ H5 s6 := Inv.call' I3 I6.os I6.base I6.hok I6.bare fun b hb => ⟨(f3 b hb).1.2.2.2.1, (f3 b hb).1.2.1, (f3 b hb).1.2.2.2.2.1, (f3 b hb).1.2.2.2.2.2⟩
      have nC : H5 s3.heap.objs.size = none := cL ▸ I6.free
      obtain ⟨m, hn, _⟩ := I6.loc
      have hn' : s6.heap.Ns s3.heap.objs.size m := cL ▸ hn
      exact fin0 D s3.heap.objs.size s6 m H5 I7 qq hn' (Inv.fpOk (H' := H5) I3 (Nat.le_refl s3.heap.objs.size) nC)
    · refine thnF (T.item ({ X.blk s3 H3 scope ce fp with pn := X.pn } : Cx) rfl rfl rfl i [] s5 _ H5 (fun _ _ => False) (hotb I5) (statP I5 n5) st5 go) ?_
      rintro r s6 ⟨u, rfl, h6⟩
      refine thnF h6 ?_
      rintro _ s7 ⟨x, H7, I7p, r7, y7, st7, n7⟩
      have I7 : L2.Inv (X.blk s3 H3 scope ce fp) [] (wipe σ (own.map fun x => x.2)) H7 s7 := inv_np rfl I7p
      have I7' := Inv.pinned I7 (stat I7 n7) (T.obj (i + 1) s7.heap st7)
      refine thnF (pg.run ([] ++ pinsAt fp s7.heap) s7 _ H7 x u _ I7' r7 (step x H7 y7)) ?_
      rintro _ s8 ⟨σ8, H8, I8, hw8, q8⟩
      refine thnF (pt.run ([] ++ pinsAt fp s7.heap) s8 σ8 H8 _ I8 q8) ?_
      rintro b s9 ⟨H9, I9, q9⟩
      have fin : ∀ {s' : Shared} {H' : Hp}, L2.Inv (X.blk s3 H3 scope ce fp) ([] ++ pinsAt fp s7.heap) σ8 H' s' → Nx H' → ∃ m, m < n ∧ ∃ i H', L2.Inv (X.blk s3 H3 scope ce fp) [] (wipe σ (own.map fun x => x.2)) H' s' ∧ tn i s'.heap ∧ (∀ b ∈ fp, H' b = none) ∧ W i m H' := fun {s' H'} I' nx => by
        obtain ⟨m', hm, w'⟩ := hNx H' nx
        have pin' : ∀ b ∈ fp, ∀ o, s7.heap.get? b = some o → s'.heap.get? b = some o ∧ H' b = none := fun b hb o e => by
          obtain ⟨z1, z2, _⟩ := I'.pin (b, o) (List.mem_append_right _ (List.mem_append_right [] (mem_pinsAt hb e)))
          exact ⟨z1, z2⟩
        refine ⟨m', hm, i + 1, H', Inv.weak (Inv.unpinned I') (by rw [← hw8, wipe_length]) fun j v e => ?_, T.keep (i + 1) s7.heap s'.heap st7 fun b hb o e => (pin' b hb o e).1, fun b hb => ?_, w'⟩
        · rw [← hw8] at e
          exact (wipe_some e).1
        · obtain ⟨o, e, _⟩ := T.obj (i + 1) s7.heap st7 b hb
          exact (pin' b hb o e).2
      cases b with
      | false => exact fin I9 q9
      | true =>
        refine thnF (pe.run ([] ++ pinsAt fp s7.heap) s9 σ8 H9 _ I9 q9) ?_
        rintro z s10 ⟨yv, H10, I10, r10, acc, hD10, hz10, nx⟩
        exact app_ok (X := X.blk s3 H3 scope ce fp) I10 hD10 hz10 r10 fun s11 I11 => fin I11 nx
  have done := codeAny_compStart_list loop (T.self X.A 0 _ _ _ st4 loop)
  subst hce hS hD
  exact done
open PySem.Spec PyProof.Rows in
set_option maxHeartbeats 2000000 in
theorem pe_lcR {elt tg iter : Expr} {ifs : List Expr} {scope : Scope} {own : List (Str × Nat)} {pos : Pos} {wi : TI} {g : TG} {tt : TT} {te : TE} (hc : Hot2C X) (hN : X.N.Nodup) (hi : PIR X tg iter wi) (ok : BlkOk X.N X.env.scope scope own)
    (hg : ∀ (s : Shared) (H : Hp) (C : Addr) (cl : List (Str × Addr)) (fp : List Addr), PG (X.blk s H scope (compEnvC scope cl C X.env) fp) tg g)
    (ht : ∀ (s : Shared) (H : Hp) (C : Addr) (cl : List (Str × Addr)) (fp : List Addr), PTs (X.blk s H scope (compEnvC scope cl C X.env) fp) ifs tt)
    (he : ∀ (s : Shared) (H : Hp) (C : Addr) (cl : List (Str × Addr)) (fp : List Addr), PE (X.blk s H scope (compEnvC scope cl C X.env) fp) elt te)
    (hs : ∀ x : Value, foldedSetIterable iter X.env x = pure x := by intro _; rfl) :
    PE X (.ListComp elt [⟨tg, iter, ifs, 0⟩] scope pos) (tLc wi g tt te (own.map fun x => x.2)) := by
  refine ⟨fun pins s σ H Q I h => ?_⟩
  rw [eval_ListComp]
  refine lcR_core hc hN hi ok hg ht he hs I h fun L C s' m H' I' q hn ⟨z0, z1, _, z3, z4, z5⟩ => ⟨m, hn, fun h2 sb => ?_⟩
  exact ⟨.ref L, H', Inv.turned (t' := s'.toks) I' (fun b o hb e => (sb.right b hb).trans e) z0 z1 z3 z4 z5, rfl, q⟩

/-- isinstance of an object that is pinned -/
theorem call_isL {p : Addr × Obj} {D : Addr} (hp : p ∈ X.pn) (C : ExcC X.K D) (hz : Zc (.ref D) none p.2) (hf : ∃ vs, p.2.data = .fields vs) : CallR X (.builtin "isinstance") (rIsE X.K D p.1) := by
  intro pins s σ H xs us Q I r h
  obtain ⟨c, cv, b, rfl, hcv, e, q⟩ := h
  cases r with
  | cons rx rr =>
    cases rr with
    | cons rt rr =>
      cases rr
      cases rx
      have ec := hcv _ rt
      subst ec
      obtain ⟨hget, _⟩ := I.pin p (List.mem_append.mpr (.inl hp))
      obtain ⟨vs, hv⟩ := hf
      have J : PySem.W.InstAt s.heap p.1 p.2 D none := by
        obtain ⟨pa, oc, od, oda, osl⟩ := p
        obtain ⟨h1, h2⟩ := hz
        dsimp only at h1 h2 hv
        subst h1 h2 hv
        exact ⟨hget, rfl, rfl, trivial⟩
      exact PySem.W.kia_one (PySem.W.handS_kitx_exc C.hg C.hk C.hs C.hd C.ha C.hn C.ht C.hm) I.kIn J e (fun z => nomatch z) fun tk => ⟨.bl b, H, I.kept (t' := tk) fun _ _ z => z, rfl, q⟩
end
/-! ### a def that is called while such an exception is handled -/
def cxL (CX : CXT) (P : Program) (w : World) (K : PySem.W.Frag) (mg : Str → Option Value) (base : Heap) (N : List Str) (qual : Str) (scope : Scope) (f : Addr) (cd : Value) (A : Around) (outer : List Env) (s : Shared) (H : Hp) (E : XK) (pl : List (Addr × Obj)) : Cx :=
  { cxOf CX P w K mg base N qual scope f cd A outer s H E with calm := false, pn := pl }
open PySem.Spec PyProof.Rows in
theorem inv_startL {CX : CXT} {P : Program} {w : World} {K : PySem.W.Frag} {mg : Str → Option Value} {base : Heap} {N ps : List Str} {qual : Str} {scope : Scope} {f : Addr} {cd : Value} {A : Around} {outer : List Env} {s s1 : Shared} {H : Hp} {E : XK} {us : List Value} {vs : List V}
    (S : FnScope N ps scope) {pl : List (Addr × Obj)} {p0 : Addr × Obj} (hp0 : p0 ∈ pl) (hpin : ∀ p ∈ pl, L2H.PinOk outer H s p) (e0 : Env0 P w K mg base A outer s H) (hl : vs.length = ps.length) (r : Vals vs us)
    (x : InCallC s s.heap.objs.size (bindL (envOfC qual scope s.heap.objs.size f cd).kindOf (ps.zip us) fun _ => none) (cellsFrom (s.heap.objs.size + 1) scope.names []) (bindC (envOfC qual scope s.heap.objs.size f cd).kindOf (ps.zip us) fun _ => none) s1) :
    L2.Inv (cxL CX P w K mg base N qual scope f cd A outer s H E pl) [] (L2.start N vs) H s1 := by
  have K0 : ∀ p ∈ pl, L2.Inv (L2H.cxH CX P w K mg base N qual scope f cd A outer s H E p) [] (L2.start N vs) H s1 := fun p hp => L2H.inv_startH S (hpin p hp) e0 hl r x
  have I := K0 p0 hp0
  exact ⟨⟨I.ok.mod, I.ok.kind, I.ok.glob, I.ok.blt, I.ok.above, I.ok.inj, I.ok.has, I.ok.cab, I.ok.hd, I.ok.frames, I.ok.stk, I.ok.exf, I.ok.bs, I.ok.bsz, I.ok.noex, I.ok.exfs, I.ok.funs, I.ok.frf⟩, I.os, I.bare, I.base, I.loc, I.cell, I.free, I.freeC, fun q hq => by
      have hq : q ∈ pl := by
        have hq : q ∈ pl ++ [] := hq
        simpa using hq
      have J := K0 q hq
      exact J.pin q (by show q ∈ [q] ++ []; simp), I.hok, I.len⟩
structure FnH2 (P : Program) (w : World) (K : PySem.W.Frag) (mg : Str → Option Value) (base : Heap) (CX : CXT) (k : Nat) (f : Addr) (fd : FuncData) (ps : List Str) (Z : Addr × Obj → Prop) (sp : Addr → Sp) : Prop where
  len : ∀ (a : Addr) (vs : List V) (H : Hp) (Q : VK) (E : XK), sp a vs H Q E → vs.length = ps.length
  run : ∀ (A : Around) (outer : List Env) (s : Shared) (H : Hp) (args : Args) (us : List Value) (vs : List V) (Q : VK) (E : XK) (p : Addr × Obj) (pl : List (Addr × Obj)),
    L2H.RoomH k A → p ∈ pl → Hot2 A pl p → Z p → (∀ q ∈ pl, L2H.PinOk outer H s q) → Env0 P w K mg base A outer s H → BindsTo s fd args (ps.zip us) → Vals vs us → sp p.1 vs H Q E → codeAny (model P w) A (.call (.ref f) args) (CR CX outer P w H s Q E) s
section
variable {CX : CXT} {P : Program} {w : World} {K : PySem.W.Frag} {mg : Str → Option Value} {base : Heap} {Z : Addr × Obj → Prop} {sp : Addr → Sp}
open PySem.Spec PyProof.Rows in
set_option maxHeartbeats 2000000 in
theorem fn_ofH2 {k : Nat} {f : Addr} {name qual : Str} {params : Arguments} {body : List Stmt} {scope : Scope} {dV kV doc pm cdv ct oc : Value} {an od : Option Addr} {osl : Array (Option Value)} {N ps : List Str}
    (lk : K.lookup f = some ⟨oc, od, .func (PySem.W.fnOf name qual params body scope dV kV doc pm an cdv ct), osl⟩) (hcd : PySem.W.codeIn K cdv qual = true) (S : FnScope N ps scope)
    (len : ∀ (a : Addr) (vs : List V) (H : Hp) (Q : VK) (E : XK), sp a vs H Q E → vs.length = ps.length)
    (hbody : ∀ (A : Around) (outer : List Env) (s : Shared) (H : Hp) (vs : List V) (Q : VK) (E : XK) (p : Addr × Obj) (pl : List (Addr × Obj)), p ∈ pl → Hot2 A pl p → Z p → L2H.RoomH k (A.deeper (envOfC qual scope s.heap.objs.size f cdv)) → sp p.1 vs H Q E →
      ∃ t, PSs (cxL CX P w K mg base N qual scope f cdv A outer s H E pl) body t ∧ t { nx := fun _ H' => Q .non H', rt := Q } (L2.start N vs) H) :
    FnH2 P w K mg base CX (k + 1) f (PySem.W.fnOf name qual params body scope dV kV doc pm an cdv ct) ps Z sp := by
  refine ⟨len, fun A outer s H args us vs Q E p pl hr hp hot hz hpin e0 hb r hsp => ?_⟩
  have hl := len p.1 vs H Q E hsp
  have KX := PySem.W.Frag.In.keeps e0.mod.kin fun b o e => (e0.bs b o e).1
  have lim := Heap.NoLimit.keeps e0.mod.nolimit fun b o e => (e0.bs b o e).1
  refine codeAny_call_function hr.depth (KX f _ lk) rfl S.co S.gen rfl (PySem.W.codeRec_of KX hcd) (hb (model P w) A.in1 _ _ ?_)
  refine wpAny_newFunctionEnv_cells S.kind (fun x hy => ?_) fun env he s1 x => ?_
  · obtain ⟨n, v⟩ := x
    rcases S.par n (List.of_mem_zip hy).1 with q | q
    · exact .inl q
    · exact .inr ⟨q, PySem.W.cellsFrom_some scope.names (s.heap.objs.size + 1) [] (.inl q)⟩
  subst he
  refine ⟨Heap.NoLimit.keeps lim x.toInCall.keep, codeAny_func ?_⟩
  obtain ⟨t, ht, hq⟩ := hbody A outer s H vs Q E p pl hp hot hz (hr.deeper _) hsp
  have I : L2.Inv (cxL CX P w K mg base N qual scope f cdv A outer s H E pl) [] (L2.start N vs) H s1 := inv_startL S hp hpin e0 hl r x
  refine wpAny_mono (ht.run [] s1 (L2.start N vs) H { nx := fun _ H' => Q .non H', rt := Q } I hq) (fun fl s' hs => ?_) fun e s' hs => hs
  cases fl with
  | next =>
    obtain ⟨σ', H', J, q⟩ := hs
    exact ⟨.non, _, J.os, J.bare, J.base, J.hok, rfl, q⟩
  | ret u =>
    obtain ⟨v, σ', H', J, rv, q⟩ := hs
    exact ⟨_, _, J.os, J.bare, J.base, J.hok, rv, q⟩
  | brk =>
    obtain ⟨_, _, _, q⟩ := hs
    exact q.elim
  | cont =>
    obtain ⟨_, _, _, q⟩ := hs
    exact q.elim
open PySem.Spec PyProof.Rows in
set_option maxHeartbeats 2000000 in
theorem pe_callH2 {X : Cx} {k : Nat} {f : Addr} {fd : FuncData} {ps : List Str} {E : L2.St → XK} {x : Str} {q pos : Pos} {e : Expr} {es : List Expr} {t : TA} {p : Addr × Obj}
    (F : FnH2 X.prog X.w X.K X.mg X.base CX k f fd ps Z sp) (hr : L2H.RoomH k X.A) (hot : Hot2 X.A X.pn p) (hp : p ∈ X.pn) (hz : Z p) (hg : Gl X x) (hm : X.mg x = some (.ref f)) (hk : PySem.W.keepIn X.K (.ref f) = true) (hb : Binds X.K fd ps []) (hx : ∀ σ, PassesAt CX X σ (E σ))
    (ha : PA X (e :: es) t) (hdb : (x == ("__debug__" : Str)) = false := by decide +kernel) (he : starEach (e :: es) X.env = (false, eval e X.env) :: starEach es X.env := by rfl) (hpl : ((backTo pos (starEach es X.env)).any fun x => x.1) = false := by rfl) :
    PE X (.Call (.Name x q) (e :: es) [] pos) (tCallS (sp p.1) E t) := by
  refine ⟨fun pins s σ H Q I h => wpAny_Call_Name_kw (ld_glob I hg hm (PySem.W.callWith_K I.ok.mod.kin hk (thn (ha.run pos pins s σ H (fun vs H1 => sp p.1 vs H1 Q (E σ)) I h) fun us s1 z => ?_) he hpl) hdb)⟩
  obtain ⟨vs, H1, I1, r, q⟩ := z
  refine ⟨Inv.kIn I1, ?_⟩
  have hl : us.length = ps.length := r.length.symm.trans (F.len p.1 vs H1 Q (E σ) q)
  have b := hb s1 us (Inv.kIn I1) (by rw [List.append_nil]; exact hl)
  rw [List.append_nil] at b
  refine wpAny_call (codeAny_mono (F.run X.A X.stack s1 H1 ⟨us, []⟩ us vs Q (E σ) p X.pn hr hp hot hz (fun q0 hq0 => ?_) (Inv.env0 I1) b r q) fun r s' hq => ?_)
  · have P1 := I1.pin q0 (List.mem_append_left _ hq0)
    refine ⟨P1.1, P1.2.1, fun hm => ?_, P1.2.2.2.2⟩
    rcases List.mem_cons.mp (Inv.stkSub I1 q0.1 hm) with z | z
    · exact P1.2.2.1 z
    · exact P1.2.2.2.1 z
  · cases r with
    | error e => exact hx σ pins H1 s1 e s' I1 hq
    | ok fl =>
      cases fl with
      | next => exact hq.elim
      | brk => exact hq.elim
      | cont => exact hq.elim
      | ret u => exact Inv.after I1 hq
end

end
section
/-! ### exceptions whose context is None, or an exception whose context is None -/
section
open PySem.Spec PyProof.Rows HotX
def Z2 (B : Heap) (H : Hp) (cls : Value) (d : Option Addr) : Obj → Prop := fun o => o.cls = cls ∧ o.dict = d ∧ ∀ vs : Array Value, o.data = .fields vs → vs[2]? = some .none ∨ ∃ (q : Addr) (oq : Obj) (vq : Array Value), vs[2]? = some (.ref q) ∧ B.get? q = some oq ∧ H q = none ∧ oq.data = .fields vq ∧ vq[2]? = some .none
theorem Z2.steady {B : Heap} {H : Hp} {cls : Value} {d : Option Addr} : PXN.Steady1 (Z2 B H cls d) := fun o v h => by
  refine ⟨PXN.steady_cls o v h.1, PXN.steady_dict o v h.2.1, ?_⟩
  obtain ⟨c, d, dt, sl⟩ := o
  cases dt with
  | fields vs0 =>
    intro vs e
    have e2 : vs0.setIfInBounds 1 v = vs := Data.fields.inj e
    have e3 : (vs0.setIfInBounds 1 v)[2]? = vs0[2]? := by
      first
      | exact Array.getElem?_setIfInBounds_ne (by decide)
      | simp [Array.getElem?_setIfInBounds]
    rw [← e2, e3]
    exact h.2.2 vs0 rfl
  | _ =>
    intro vs e
    first
    | exact Data.noConfusion e
    | cases e
theorem zn_z2 {B : Heap} {H : Hp} {cls : Value} {d : Option Addr} {o : Obj} (h : L2N.Zn cls d o) : Z2 B H cls d o := ⟨h.1, h.2.1, fun vs e => .inl (h.2.2 vs e)⟩
theorem sky_imp {B h : Heap} {l : List Env} {a L : Addr} {Z Z' : Obj → Prop} (z : ∀ o, Z o → Z' o) (x : Sky B l a Z L h) : Sky B l a Z' L h := by
  rcases x with ⟨h1, h2, h3, oe, vs, h4, h5, h6, h7⟩ | fl | ⟨h1, h2, h3, h4⟩
  · exact .inl ⟨h1, h2, h3, oe, vs, h4, z _ h5, h6, h7⟩
  · exact .inr (.inl (L2H.flyingZ_imp z fl))
  · exact .inr (.inr ⟨h1, h2, h3, L2H.tracedZ_imp z h4⟩)
/-- an exception in the air of X -/
def XE2 (X : Cx) (W : WX) (u : Value) (s' : Shared) : Prop :=
  ∃ (a : Addr) (B : Heap) (sI : Shared) (pins : List (Addr × Obj)) (σ : L2.St) (H : Hp) (cls : Value) (d : Option Addr),
    u = .ref a ∧ L2.Inv X pins σ H sI ∧ (∀ b o, sI.heap.get? b = some o → b ∉ frs X.stack → B.get? b = some o) ∧ sI.heap.UpToSlots s'.heap ∧
      Sky B X.stack a (Z2 B H cls d) X.env.locals s'.heap ∧ H a = none ∧ s'.os = sI.os ∧ AllBare s'.gens ∧ W cls d σ H
def Takes2 (X : Cx) (W : WX) : Prop := ∀ u s', XE2 X W u s' → X.xe u s'
theorem takes2_n {X : Cx} {W : WX} (tk : Takes2 X W) : L2N.Takes X W := fun u s' ⟨a, B, sI, pins, σ, H, cls, d, e, I, nb, up, sky, na, os, ag, w⟩ =>
  tk u s' ⟨a, B, sI, pins, σ, H, cls, d, e, I, nb, up, sky_imp (fun o z => zn_z2 z) sky, na, os, ag, w⟩
/-- behind a call that let it out -/
def CX2 (P : Program) (w : World) (outer : List Env) (H : Hp) (s : Shared) (E : XK) (u : Value) (s' : Shared) : Prop :=
  ∃ (a : Addr) (B : Heap) (H' : Hp) (cls : Value) (d : Option Addr), u = .ref a ∧ HandSPX.FlyingZ B outer a (Z2 B H' cls d) s'.heap ∧ HOk P w H' B ∧ UB (frs outer) H H' s.heap B s'.heap ∧ H' a = none ∧ s'.os = s.os ∧ AllBare s'.gens ∧ E cls d H'
section
variable {X : Cx} {pins : List (Addr × Obj)} {σ : L2.St} {H : Hp} {sI s s' : Shared} {B : Heap} {W : WX} {E : XK}
theorem XE2.of_call (I : L2.Inv X pins σ H s) (hW : ∀ cls d H', E cls d H' → W cls d σ H') {u : Value} (c : CX2 X.prog X.w X.stack H s E u s') : XE2 X W u s' := by
  obtain ⟨a, B, H', cls, d, rfl, fl, hok, ub, na, os, ag, hE⟩ := c
  obtain ⟨G, g1, g2⟩ := restrict s'.heap fun b => (B.get? b).isSome || decide (b ∈ frs X.stack)
  have st : B.StaysIn s'.heap := fl.1
  have gB : ∀ b o, B.get? b = some o → G.get? b = some o := fun b o e => by
    rw [g1 b (by simp [e])]
    exact st b o e
  have gF : ∀ b, b ∈ frs X.stack → G.get? b = s'.heap.get? b := fun b hb => g1 b (by simp [hb])
  have og : ∀ b o, G.get? b = some o → s'.heap.get? b = some o ∧ ((B.get? b).isSome = true ∨ b ∈ frs X.stack) := fun b o e => by
    cases q : ((B.get? b).isSome || decide (b ∈ frs X.stack)) with
    | false => rw [g2 b q] at e; cases e
    | true =>
      rw [g1 b q] at e
      exact ⟨e, by simpa [Bool.or_eq_true] using q⟩
  refine ⟨a, B, { s with heap := G, gens := s'.gens, drawn := s'.drawn, toks := s'.toks }, pins, σ, H', cls, d, rfl, ?_, fun b o e hb => ?_, Heap.UpToSlots.of_keeps fun b o e => (og b o e).1, .inr (.inl fl), na, os, ag, hW _ _ _ hE⟩
  · refine I.call (ch := []) ⟨fun b o e n hb _ => gB b o (ub.keep b o e n hb), fun b o e n hb _ => ?_, fun b o e n _ => ub.free b o e n, fun b o e _ => ?_, ub.tups, ub.frzs, ub.tbls⟩ (hok.kept gB) ag (fun _ z => nomatch z)
    · obtain ⟨sl, q⟩ := ub.slot b o e hb
      exact ⟨sl, by rw [gF b hb]; exact q⟩
    · by_cases hb : b ∈ frs X.stack
      · obtain ⟨sl, q⟩ := ub.slot b o e hb
        exact ⟨_, by rw [gF b hb]; exact q⟩
      · obtain ⟨o', q⟩ := ub.there b o e hb
        exact ⟨o', gB b o' q⟩
  · obtain ⟨e', h⟩ := og b o e
    rcases h with h | h
    · obtain ⟨o', q⟩ := Option.isSome_iff_exists.mp h
      have z := st b o' q
      rw [e'] at z; cases z
      exact q
    · exact absurd h hb
theorem XE2.leave (hs : X.stack = X.env :: X.outer) (hf : X.env.frame = some X.env.locals) (hex : X.ex = []) {E₁ : Value → Shared → Prop} (hW : ∀ cls d σ H, W cls d σ H → E cls d H) {u : Value} (x : XE2 X W u s') :
    wpAny (model X.prog X.w) X.A (leaving X.env u) (fun _ s'' => CX2 X.prog X.w X.outer X.H_0 X.s_0 E u s'') E₁ s' := by
  obtain ⟨a, B, sI, pins, σ, H, cls, d, rfl, I, nb, up, sky, na, os, ag, w⟩ := x
  have hfr : X.A.frames = some (X.env :: X.outer) := by rw [I.ok.frames, hs]
  have nst : ∀ b o, X.s_0.heap.get? b = some o → b ∉ X.fs → b ∉ frs X.stack := fun b o e hb hm => by
    rcases List.mem_cons.mp (I.stkSub b hm) with z | z
    · have h1 := Heap.lt_size e
      have h2 := I.ok.above
      rw [z] at h1
      exact absurd (Nat.lt_of_lt_of_le h1 h2) (Nat.lt_irrefl _)
    · exact hb z
  have hex' : ∀ b, b ∉ X.ex := fun b hb => by rw [hex] at hb; cases hb
  have hokB := I.inGround nb
  have fin : ∀ h', HandSPX.FlyingZ B X.outer a (Z2 B H cls d) h' → s'.heap.UpToSlots h' → CX2 X.prog X.w X.outer X.H_0 X.s_0 E (.ref a) { s' with heap := h' } := fun h' fl up' => by
    refine ⟨a, B, H, cls, d, rfl, fl, hokB, ⟨fun b o e n hb => nb b o (I.base.keep b o e n hb (hex' b)) (nst b o e hb), fun b o e hb => ?_, fun b o e n => I.base.free b o e n (hex' b), fun b o e hb => ?_, I.base.tups, I.base.frzs, I.base.tbls⟩,
      na, os.trans I.os, ag, hW _ _ _ _ w⟩
    · obtain ⟨_, o₀, e₀, hnf⟩ := I.ok.funs.mem hb
      rw [e] at e₀; cases e₀
      obtain ⟨sl, e1⟩ := I.base.slot b o e (I.ok.frf b hb) hb (hex' b)
      obtain ⟨sl2, e2⟩ := up b _ e1 hnf
      obtain ⟨sl3, e3⟩ := up' b _ e2 hnf
      exact ⟨sl3, e3⟩
    · obtain ⟨o', e1⟩ := I.base.there b o e (hex' b)
      exact ⟨o', nb b o' e1 (nst b o e hb)⟩
  rw [hs] at sky
  rcases sky with ⟨hB, hn, hl, oe, vs, he, hz, hd, h1⟩ | fl | hd
  · exact PXN.leaving_firstZ Z2.steady hfr hl hf he hB hn hd h1 hz fin
  · exact PXN.leaves_onZ Z2.steady hfr hf fl fin
  · exact HandSPX.leaves_heldZ hf hd fin
theorem takes2_of (hs : X.stack = X.env :: X.outer) (hf : X.env.frame = some X.env.locals) (hex : X.ex = []) {E₁ : Value → Shared → Prop}
    (hx : X.xe = fun e s' => wpAny (model X.prog X.w) X.A (leaving X.env e) (fun _ s'' => CX2 X.prog X.w X.outer X.H_0 X.s_0 E e s'') E₁ s') : Takes2 X (fun cls d _ H => E cls d H) := fun u s' x => by
  rw [hx]
  exact XE2.leave (W := fun cls d _ H => E cls d H) (E := E) hs hf hex (fun _ _ _ _ h => h) x
theorem passAt2 (tk : Takes2 X W) (σ : L2.St) : PassesAt (CX2 X.prog X.w) X σ (WE W σ) := fun _ _ _ e s' I c => tk e s' (XE2.of_call I (fun _ _ _ h => h) c)
end
/-- raise X(..) from None, in an except suite: the context is what is handled -/
theorem ps_raiseHN2 {X : Cx} {W : WX} {e : Expr} {t : L2.St → Hp → XK → Prop} {j : Nat} {cpos pos : Pos} (hc : L2H.HotC X) (tk : Takes2 X W) (he : L2H.PMk5 X e t) :
    PS X (.Raise (some e) (some (.Constant .none j cpos)) pos) (fun _ σ H => t σ H fun cls d H' => W cls d σ H') := by
  refine ⟨fun pins s σ H D I h => ?_⟩
  obtain ⟨p, ⟨hh, v1, e1, c1⟩, hp⟩ := hc
  show wpAny _ _ (do standAt pos; raiseStmt X.env (some (do let v ← eval e X.env; standAt pos; pure v)) (some (do let v ← eval (.Constant .none j cpos) X.env; standAt pos; pure v))) _ _ _
  refine wpAny_bind (wpAny_standAt (raise_made_hotN (x1 := p.1) (fun s2 Q2 q2 => wpAny_bind (Constant_none (wpAny_bind (wpAny_standAt (wpAny_pure q2))))) (wpAny_bind (wpAny_mono (he pins s σ H _ I h) (fun u s1 hu => wpAny_bind (wpAny_standAt (wpAny_pure ?_))) fun _ _ x => x))))
  obtain ⟨⟨a, oe, vs, sI, H', cls, d, rfl, J, k, hne, ha, hz, hd, h1, na, os, ag, r, q⟩, h5⟩ := hu
  have hi : 4 < vs.size := h5 a oe vs rfl ha hd
  have k4 : ∀ b u, sI.heap.get? b = some u → (noneFrom s1.heap a).get? b = some u := fun b u z => by
    have nab : a ≠ b := fun y => by
      rw [← y, hne] at z
      cases z
    rw [noneFrom_other nab]
    exact k b u z
  obtain ⟨r1, _⟩ := r (model X.prog X.w) s1.heap (J.kIn.keeps k)
  obtain ⟨_, r2⟩ := r (model X.prog X.w) (noneFrom s1.heap a) (J.kIn.keeps k4)
  obtain ⟨P1, P2, P3, P4, _⟩ := J.pin p (List.mem_append_left _ hp)
  have nap : p.1 ≠ a := fun z => by
    rw [z, hne] at P1
    cases P1
  have pfr : p.1 ∉ frs X.stack := fun hm => (List.mem_cons.mp (J.stkSub p.1 hm)).elim P3 P4
  obtain ⟨ha4, hd4⟩ := noneFrom_at ha hd
  have s2 : 2 < ((vs.setIfInBounds 3 Value.none).setIfInBounds 4 (Value.bool true)).size := by rw [set_size, set_size]; omega
  have h12 : (((vs.setIfInBounds 3 Value.none).setIfInBounds 4 (Value.bool true)).setIfInBounds 2 (Value.ref p.1))[1]? = some Value.none := set_other (by decide) (set_other (by decide) (set_other (by decide) h1))
  have h22 : (((vs.setIfInBounds 3 Value.none).setIfInBounds 4 (Value.bool true)).setIfInBounds 2 (Value.ref p.1))[2]? = some (Value.ref p.1) := by
    first
    | exact Array.getElem?_setIfInBounds_self_of_lt s2
    | simp [Array.getElem?_setIfInBounds, s2]
  have k2 : ∀ b u, sI.heap.get? b = some u → ((noneFrom s1.heap a).update a (Obj.mapFields (·.setIfInBounds 2 (.ref p.1)))).get? b = some u := fun b u z => by
    have nab : a ≠ b := fun y => by
      rw [← y, hne] at z
      cases z
    rw [Heap.get?_update_other _ _ nab]
    exact k4 b u z
  refine ⟨a, oe, vs, cls, rfl, ha, hz.1, hd, h1, hi, nap, ⟨hh, p.2, v1, k _ _ P1, e1, c1⟩, r1, r2, tk _ _ ?_⟩
  refine ⟨a, PySem.W.hideAll sI.heap (frs X.stack), sI, pins, σ, H', cls, d, rfl, J, fun b o e hb => PySem.W.hideAll_get _ e hb, Heap.UpToSlots.of_keeps k2,
    .inl ⟨fun b o e => k2 b o (PySem.W.of_hideAll _ e), ?_, ?_, _, _, Heap.get?_update_self _ ha4 (Obj.isFreed_of_fields (Obj.data_mapFields hd4 _)), ⟨by rw [Obj.cls_mapFields, Obj.cls_mapFields, Obj.cls_mapFields]; exact hz.1, by rw [HandSPX.dict_mapFields, HandSPX.dict_mapFields, HandSPX.dict_mapFields]; exact hz.2.1, fun vs' e' => .inr ⟨p.1, p.2, v1, ?_, PySem.W.hideAll_get _ P1 pfr, P2, e1, c1⟩⟩, Obj.data_mapFields hd4 _, h12⟩, na, os, ag, q⟩
  · cases q : (PySem.W.hideAll sI.heap (frs X.stack)).get? a with
    | none => rfl
    | some o =>
      have z := PySem.W.of_hideAll _ q
      rw [hne] at z; cases z
  · exact Heap.FunFrames.of_keeps (fun b o e _ => ⟨o, k2 b o e, rfl⟩) (funFrames_none J.stack fun b hb => PySem.W.hideAll_none _ hb)
  · rw [Obj.data_mapFields hd4 (·.setIfInBounds 2 (.ref p.1))] at e'
    rw [← Data.fields.inj e']
    exact h22
end

end
section
/-! ### try, where what flies may have a context -/
section
open PySem.Spec PyProof.Rows HotX
theorem flyingZ_keeps {B h h' : Heap} {l : List Env} {a : Addr} {Z : Obj → Prop} (k : ∀ b o, h.get? b = some o → h'.get? b = some o) (x : HandSPX.FlyingZ B l a Z h) : HandSPX.FlyingZ B l a Z h' := by
  obtain ⟨h1, h2, h3, oe, vs, T, oT, ts, e1, e2, e3, e4, e5, e6, e7, e8, e9⟩ := x
  exact ⟨fun b o e => k b o (h1 b o e), h2, Heap.FunFrames.of_keeps (fun b o e _ => ⟨o, k b o e, rfl⟩) h3, oe, vs, T, oT, ts, k _ _ e1, e2, e3, e4, e5, e6, k _ _ e7, e8, e9⟩
/-- the exception and its context are pinned -/
def pins2 (a : Addr) (oe : Obj) (pn : List (Addr × Obj)) (pn' : List (Addr × Obj)) : Prop := pn' = (a, oe) :: pn ∨ ∃ q : Addr × Obj, pn' = (a, oe) :: q :: pn
section
variable {X : Cx} {pins : List (Addr × Obj)} {σ : L2.St} {H : Hp} {s : Shared}
theorem suite2 {a : Addr} {oe : Obj} {B : Heap} {cls : Value} {d : Option Addr} (S : L2.Inv (X.suite a ((a, oe) :: (X.pn ++ pins))) [] σ H s) (hz : Z2 B H cls d oe) (hd : ∃ vs, oe.data = .fields vs) (st : B.StaysIn s.heap)
    (nf : ∀ q oq, B.get? q = some oq → q ∉ frs X.stack) (hs : X.stack = X.env :: X.outer) (hf : X.env.frame = some X.env.locals) :
    ∃ pn', pins2 a oe (X.pn ++ pins) pn' ∧ Hot2 (X.A.mark (some (.ref a))) pn' (a, oe) ∧ L2.Inv (X.suite a pn') [] σ H s := by
  obtain ⟨vs, hd⟩ := hd
  rcases hz.2.2 vs hd with c | ⟨q, oq, vq, c, hq, hH, dq, cq⟩
  · exact ⟨_, .inl rfl, ⟨rfl, vs, hd, .inl c⟩, S⟩
  · have nq := nf q oq hq
    rw [hs] at nq
    have nL : q ≠ X.env.locals := fun z => nq (List.mem_filterMap.mpr ⟨X.env, List.mem_cons_self, by rw [hf, z]⟩)
    have nF : q ∉ X.fs := fun hm => by
      obtain ⟨e, he, z⟩ := List.mem_filterMap.mp hm
      exact nq (List.mem_filterMap.mpr ⟨e, List.mem_cons_of_mem _ he, z⟩)
    refine ⟨(a, oe) :: (q, oq) :: (X.pn ++ pins), .inr ⟨(q, oq), rfl⟩, ⟨rfl, vs, hd, .inr ⟨(q, oq), List.mem_cons_of_mem _ List.mem_cons_self, c, vq, dq, cq⟩⟩, ?_⟩
    refine inv_pnL (X := X.suite a ((a, oe) :: (X.pn ++ pins))) S fun p hp => ?_
    rcases List.mem_cons.mp hp with z | hp
    · exact S.pin p (List.mem_append_left _ (by rw [z]; exact List.mem_cons_self))
    · rcases List.mem_cons.mp hp with z | hp
      · rw [z]
        exact ⟨st _ _ hq, hH, nL, nF, fun v z => by
          have z' : oq.data = .cell v := z
          rw [dq] at z'
          cases z'⟩
      · exact S.pin p (List.mem_append_left _ (List.mem_cons_of_mem _ hp))
theorem unsuite2 {a : Addr} {oe : Obj} {pn' : List (Addr × Obj)} (hp : pins2 a oe (X.pn ++ pins) pn') (S : L2.Inv (X.suite a pn') [] σ H s) (ok : X.Ok) : L2.Inv X pins σ H s :=
  Inv.unsuite (X := X) (a := a) (q := (a, oe)) (pn' := []) (inv_pnL (X := X.suite a pn') (pl := (a, oe) :: (X.pn ++ pins)) S fun p hp' => by
    rcases hp with z | ⟨q, z⟩
    · exact S.pin p (List.mem_append_left _ (by show p ∈ pn'; rw [z]; exact hp'))
    · refine S.pin p (List.mem_append_left _ (?_ : p ∈ pn'))
      rw [z]
      rcases List.mem_cons.mp hp' with y | y
      · rw [y]
        exact List.mem_cons_self
      · exact List.mem_cons_of_mem _ (List.mem_cons_of_mem _ y)) ok
end
section
variable {X : Cx} {x n : Str} {c : Value} {i : Nat} {body suite : List Stmt} {b₀ : Stmt} {np pos pos' : Pos} {tb : WX → TS} {ts : Addr → Value → Option Addr → TS} {Wout : WX}
theorem notFr2 {B h : Heap} {l : List Env} {a : Addr} {o : Obj} {vs : Array Value} (ff : h.FunFrames B l) (e : h.get? a = some o) (dd : o.data = .fields vs) : a ∉ frs l := fun hm => by
  obtain ⟨_, o', e', hnf⟩ := ff.mem hm
  rw [e] at e'; cases e'
  exact hnf _ dd
theorem ground_nf {B h : Heap} {l : List Env} (ff : h.FunFrames B l) : ∀ q oq, B.get? q = some oq → q ∉ frs l := fun q oq e hm => by
  obtain ⟨z, _⟩ := ff.mem hm
  rw [e] at z
  cases z
theorem ps_try_as2 (hs : X.stack = X.env :: X.outer) (hf : X.env.frame = some X.env.locals) (hN : X.N.Nodup) (hi : X.N[i]? = some n) (hln : X.env.kindOf n = some .local) (hc : L2.Names X x c) (tk : Takes2 X Wout)
    (hb : ∀ (W : WX) (pn : List (Addr × Obj)) (xe : Value → Shared → Prop), Takes2 (X.tr pn xe) W → PassesOwn (model X.prog X.w) X.A X.env xe → PSs (X.tr pn xe) body (tb W))
    (hsu : ∀ (a : Addr) (oe : Obj) (cls : Value) (d : Option Addr) (pn : List (Addr × Obj)), (a, oe) ∈ pn → Hot2 (X.A.mark (some (.ref a))) pn (a, oe) → Zc cls d oe → (∃ vs, oe.data = .fields vs) → PSs (X.suite a pn) (b₀ :: suite) (ts a cls d)) :
    PS X (.Try body [.ExceptHandler (some (.Name x np)) (some n) (b₀ :: suite) pos'] [] [] pos) (fun D σ H => tb (wAs X.K c i ts Wout D) D σ H) := by
  refine ⟨fun pins s σ H D I h => ?_⟩
  have ok := I.ok
  have hfr : X.A.frames = some (X.env :: X.outer) := by rw [ok.frames, hs]
  have hloc : Loc X.env.scope n := .inl hln
  refine wpAny_Try_except ?_
  refine wpAny_mono ((hb (wAs X.K c i ts Wout D) (X.pn ++ pins) (fun e s₁ => wpAny (model X.prog X.w) X.A (noteFrame e X.env) (fun _ s₂ => wpAny (model X.prog X.w) X.A (setFlight e none) (fun _ s₃ =>
    wpAny (model X.prog X.w) X.A (handleBy e X.env [.ExceptHandler (some (.Name x np)) (some n) (b₀ :: suite) pos']) (SP X pins D) X.xe s₃) X.xe s₂) X.xe s₁) (fun u s' xx => ?_) PassesOwn.looking).run [] s σ H D (I.toTry _) h) (fun f s1 hsp => ?_) (fun e s1 he => he)
  · obtain ⟨a, B, sI, pins', σ', H', cls, d, rfl, J', nb, up, sky, na, os, ag, b, hb1, hyes, hno⟩ := xx
    have J : L2.Inv X pins σ' H' sI := J'.ofTry ok
    have sky' : Sky B (X.env :: X.outer) a (Z2 B H' cls d) X.env.locals s'.heap := by rw [← hs]; exact sky
    show wpAny (model X.prog X.w) X.A (noteFrame (.ref a) X.env) _ _ _
    refine L2N.Sky.land Z2.steady hfr hf sky' fun h3 fl3 up3 => ?_
    have J3 : L2.Inv X pins σ' H' { s' with heap := h3 } := J.landed nb fl3.1 (up.trans up3) os ag
    obtain ⟨oe3, vs3, he3, hz3, hd3⟩ := fl3.there
    have nfr := notFr2 fl3.2.2.1 he3 hd3
    have nL : a ≠ X.env.locals := fun z => nfr (List.mem_filterMap.mpr ⟨X.env, List.mem_cons_self, by rw [hf, z]⟩)
    have nF : a ∉ X.fs := fun hm => by
      obtain ⟨e, he, q⟩ := List.mem_filterMap.mp hm
      exact nfr (List.mem_filterMap.mpr ⟨e, List.mem_cons_of_mem _ he, q⟩)
    have S3 := J3.suite he3 hd3 na nL nF
    refine wpAny_handleBy_cons (codeAny_handlers_test ?_) (by intro q; cases q)
    have LT : PySem.W.Looks (model X.prog X.w) h3 (typeOf (.ref a)) cls := fun A Q E s k q => wpAny_typeOf_ref (k _ _ he3) (by rw [hz3.1]; exact q)
    have LM := PySem.W.exm_one (M := model X.prog X.w) (J3.kIn) LT hb1
    have test : ∀ {Q : Value → Shared → Prop} {E : Value → Shared → Prop}, Q c { s' with heap := h3 } → wpAny (model X.prog X.w) (X.A.mark (some (.ref a))) (eval (.Name x np) X.env) Q E { s' with heap := h3 } := fun {Q E} q => by
      obtain ⟨hg, hdbg, hm | ⟨hm, hv, hnn⟩⟩ := hc
      · exact ld_glob (X := X.suite a ((a, oe3) :: (X.pn ++ pins))) S3 hg hm q hdbg
      · exact ld_blt (X := X.suite a ((a, oe3) :: (X.pn ++ pins))) S3 hg hm hv q hnn hdbg
    refine test (LM.here ?_)
    cases b with
    | true =>
      refine codeAny_handlers_suite_as ?_
      refine HandSPX.lands_againZ fl3 fun h4 fl4 up4 => ?_
      have J4 : L2.Inv X pins σ' H' { s' with heap := h4 } := J.landed nb fl4.1 ((up.trans up3).trans up4) os ag
      obtain ⟨oe4, vs4, he4, hz4, hd4⟩ := fl4.there
      have S4 := J4.suite he4 hd4 na nL nF
      obtain ⟨pn', hpn, hot, S4'⟩ := suite2 S4 hz4 ⟨_, hd4⟩ fl4.1 (by rw [hs]; exact ground_nf fl4.2.2.1) hs hf
      have hmem : (a, oe4) ∈ pn' := by
        rcases hpn with z | ⟨q, z⟩ <;> (rw [z]; exact List.mem_cons_self)
      refine store_ok (X := X.suite a pn') (v := .ref a) S4' hN hi hloc rfl (fun s5 S5 => ?_) (.inr hln)
      refine wpAny_mono ((hsu a oe4 cls d pn' hmem hot ⟨hz4.1, hz4.2.1⟩ ⟨_, hd4⟩).run [] s5 _ H' _ S5 (hyes rfl a na)) (fun f s6 hsp => ?_) (fun _ _ z => False.elim z)
      have end_ : ∀ {σ6 : L2.St} {H6 : Hp} {Q : Shared → Prop}, L2.Inv (X.suite a pn') [] σ6 H6 s6 → (∀ s7, L2.Inv X pins (σ6.set i none) H6 s7 → Q s7) →
          wpAny (model X.prog X.w) X.A (do bindName X.env n .none; unbindBehindTheSuite X.env n pos') (fun _ s7 => Q s7) X.xe s6 := fun {σ6 H6 Q} S6 hq => gone_ok (unsuite2 hpn S6 ok) hN hi hln hq
      cases f with
      | next =>
        obtain ⟨σ6, H6, S6, q6⟩ := hsp
        exact end_ S6 fun s7 J7 => ⟨_, _, J7, q6⟩
      | brk =>
        obtain ⟨σ6, H6, S6, q6⟩ := hsp
        exact end_ S6 fun s7 J7 => ⟨_, _, J7, q6⟩
      | cont =>
        obtain ⟨σ6, H6, S6, q6⟩ := hsp
        exact end_ S6 fun s7 J7 => ⟨_, _, J7, q6⟩
      | ret u =>
        obtain ⟨v6, σ6, H6, S6, r6, q6⟩ := hsp
        exact end_ S6 fun s7 J7 => ⟨_, _, _, J7, r6, q6⟩
    | false =>
      show wpAny _ X.A (handleBy (.ref a) X.env []) _ _ _
      refine wpAny_handleBy_nil ?_
      obtain ⟨k1, k2, k3, oe, vs, T, oT, ts', he, hz, hd, h1, hr⟩ := id fl3
      unfold PySem.passOn
      refine wpAny_bind (wpAny_field he hd h1 ?_)
      rw [if_neg (show ¬ ((Value.ref T == Value.none) = true) from by simp)]
      have fin : wpAny (model X.prog X.w) X.A (setFlight (.ref a) X.env.frame) (fun _ s4 => wpAny (model X.prog X.w) X.A (throw (.ref a) : Sem Flow) (SP X pins D) X.xe s4) X.xe { s' with heap := h3 } := by
        rw [hf]
        refine HandSPX.setFlight_upZ fl3 fun h4 hh4 up4 => wpAny_throw (tk _ _ ?_)
        exact ⟨a, B, sI, pins, σ', H', cls, d, rfl, J, nb, (up.trans up3).trans up4, .inr (.inr (by rw [hs]; exact hh4)), na, os, ag, hno rfl⟩
      first
        | exact wpAny_bind (wpAny_pure (wpAny_bind fin))
        | exact wpAny_bind fin
  · cases f with
    | next =>
      obtain ⟨σ', H', J', q⟩ := hsp
      exact wpAny_execs_nil ⟨σ', H', J'.ofTry ok, q⟩
    | brk =>
      obtain ⟨σ', H', J', q⟩ := hsp
      exact ⟨σ', H', J'.ofTry ok, q⟩
    | cont =>
      obtain ⟨σ', H', J', q⟩ := hsp
      exact ⟨σ', H', J'.ofTry ok, q⟩
    | ret u =>
      obtain ⟨v, σ', H', J', r, q⟩ := hsp
      exact ⟨v, σ', H', J'.ofTry ok, r, q⟩
theorem ps_try_one2 (hs : X.stack = X.env :: X.outer) (hf : X.env.frame = some X.env.locals) (hc : L2.Names X x c) (tk : Takes2 X Wout)
    (hb : ∀ (W : WX) (pn : List (Addr × Obj)) (xe : Value → Shared → Prop), Takes2 (X.tr pn xe) W → PassesOwn (model X.prog X.w) X.A X.env xe → PSs (X.tr pn xe) body (tb W))
    (hsu : ∀ (a : Addr) (oe : Obj) (cls : Value) (d : Option Addr) (pn : List (Addr × Obj)), Zc cls d oe → (∃ vs, oe.data = .fields vs) → PSs (X.suite a ((a, oe) :: pn)) (b₀ :: suite) (ts a cls d)) :
    PS X (.Try body [.ExceptHandler (some (.Name x np)) none (b₀ :: suite) pos'] [] [] pos) (fun D σ H => tb (wOnly X.K c ts Wout D) D σ H) := by
  refine ⟨fun pins s σ H D I h => ?_⟩
  have ok := I.ok
  have hfr : X.A.frames = some (X.env :: X.outer) := by rw [ok.frames, hs]
  refine wpAny_Try_except ?_
  refine wpAny_mono ((hb (wOnly X.K c ts Wout D) (X.pn ++ pins) (fun e s₁ => wpAny (model X.prog X.w) X.A (noteFrame e X.env) (fun _ s₂ => wpAny (model X.prog X.w) X.A (setFlight e none) (fun _ s₃ =>
    wpAny (model X.prog X.w) X.A (handleBy e X.env [.ExceptHandler (some (.Name x np)) none (b₀ :: suite) pos']) (SP X pins D) X.xe s₃) X.xe s₂) X.xe s₁) (fun u s' xx => ?_) PassesOwn.looking).run [] s σ H D (I.toTry _) h) (fun f s1 hsp => ?_) (fun e s1 he => he)
  · obtain ⟨a, B, sI, pins', σ', H', cls, d, rfl, J', nb, up, sky, na, os, ag, b, hb1, hyes, hno⟩ := xx
    have J : L2.Inv X pins σ' H' sI := J'.ofTry ok
    have sky' : Sky B (X.env :: X.outer) a (Z2 B H' cls d) X.env.locals s'.heap := by rw [← hs]; exact sky
    show wpAny (model X.prog X.w) X.A (noteFrame (.ref a) X.env) _ _ _
    refine L2N.Sky.land Z2.steady hfr hf sky' fun h3 fl3 up3 => ?_
    have J3 : L2.Inv X pins σ' H' { s' with heap := h3 } := J.landed nb fl3.1 (up.trans up3) os ag
    obtain ⟨oe3, vs3, he3, hz3, hd3⟩ := fl3.there
    have nfr := notFr2 fl3.2.2.1 he3 hd3
    have nL : a ≠ X.env.locals := fun z => nfr (List.mem_filterMap.mpr ⟨X.env, List.mem_cons_self, by rw [hf, z]⟩)
    have nF : a ∉ X.fs := fun hm => by
      obtain ⟨e, he, q⟩ := List.mem_filterMap.mp hm
      exact nfr (List.mem_filterMap.mpr ⟨e, List.mem_cons_of_mem _ he, q⟩)
    have S3 := J3.suite he3 hd3 na nL nF
    refine wpAny_handleBy_cons (codeAny_handlers_test ?_) (by intro q; cases q)
    have LT : PySem.W.Looks (model X.prog X.w) h3 (typeOf (.ref a)) cls := fun A Q E s k q => wpAny_typeOf_ref (k _ _ he3) (by rw [hz3.1]; exact q)
    have LM := PySem.W.exm_one (M := model X.prog X.w) (J3.kIn) LT hb1
    have test : ∀ {Q : Value → Shared → Prop} {E : Value → Shared → Prop}, Q c { s' with heap := h3 } → wpAny (model X.prog X.w) (X.A.mark (some (.ref a))) (eval (.Name x np) X.env) Q E { s' with heap := h3 } := fun {Q E} q => by
      obtain ⟨hg, hdbg, hm | ⟨hm, hv, hnn⟩⟩ := hc
      · exact ld_glob (X := X.suite a ((a, oe3) :: (X.pn ++ pins))) S3 hg hm q hdbg
      · exact ld_blt (X := X.suite a ((a, oe3) :: (X.pn ++ pins))) S3 hg hm hv q hnn hdbg
    refine test (LM.here ?_)
    cases b with
    | true =>
      refine codeAny_handlers_suite ?_
      refine HandSPX.lands_againZ fl3 fun h4 fl4 up4 => ?_
      have J4 : L2.Inv X pins σ' H' { s' with heap := h4 } := J.landed nb fl4.1 ((up.trans up3).trans up4) os ag
      obtain ⟨oe4, vs4, he4, hz4, hd4⟩ := fl4.there
      have S4 := J4.suite he4 hd4 na nL nF
      refine wpAny_mono ((hsu a oe4 cls d (X.pn ++ pins) ⟨hz4.1, hz4.2.1⟩ ⟨_, hd4⟩).run [] _ _ H' _ S4 (hyes rfl a na)) (fun f s6 hsp => ?_) (fun _ _ z => False.elim z)
      cases f with
      | next =>
        obtain ⟨σ6, H6, S6, q6⟩ := hsp
        exact ⟨_, _, S6.unsuite ok, q6⟩
      | brk =>
        obtain ⟨σ6, H6, S6, q6⟩ := hsp
        exact ⟨_, _, S6.unsuite ok, q6⟩
      | cont =>
        obtain ⟨σ6, H6, S6, q6⟩ := hsp
        exact ⟨_, _, S6.unsuite ok, q6⟩
      | ret u =>
        obtain ⟨v6, σ6, H6, S6, r6, q6⟩ := hsp
        exact ⟨_, _, _, S6.unsuite ok, r6, q6⟩
    | false =>
      show wpAny _ X.A (handleBy (.ref a) X.env []) _ _ _
      refine wpAny_handleBy_nil ?_
      obtain ⟨k1, k2, k3, oe, vs, T, oT, ts', he, hz, hd, h1, hr⟩ := id fl3
      unfold PySem.passOn
      refine wpAny_bind (wpAny_field he hd h1 ?_)
      rw [if_neg (show ¬ ((Value.ref T == Value.none) = true) from by simp)]
      have fin : wpAny (model X.prog X.w) X.A (setFlight (.ref a) X.env.frame) (fun _ s4 => wpAny (model X.prog X.w) X.A (throw (.ref a) : Sem Flow) (SP X pins D) X.xe s4) X.xe { s' with heap := h3 } := by
        rw [hf]
        refine HandSPX.setFlight_upZ fl3 fun h4 hh4 up4 => wpAny_throw (tk _ _ ?_)
        exact ⟨a, B, sI, pins, σ', H', cls, d, rfl, J, nb, (up.trans up3).trans up4, .inr (.inr (by rw [hs]; exact hh4)), na, os, ag, hno rfl⟩
      first
        | exact wpAny_bind (wpAny_pure (wpAny_bind fin))
        | exact wpAny_bind fin
  · cases f with
    | next =>
      obtain ⟨σ', H', J', q⟩ := hsp
      exact wpAny_execs_nil ⟨σ', H', J'.ofTry ok, q⟩
    | brk =>
      obtain ⟨σ', H', J', q⟩ := hsp
      exact ⟨σ', H', J'.ofTry ok, q⟩
    | cont =>
      obtain ⟨σ', H', J', q⟩ := hsp
      exact ⟨σ', H', J'.ofTry ok, q⟩
    | ret u =>
      obtain ⟨v, σ', H', J', r, q⟩ := hsp
      exact ⟨v, σ', H', J'.ofTry ok, r, q⟩
/-- one of two classes is named; the suite may raise -/
def wTup (K : PySem.W.Frag) (c1 c2 : Value) (ts : Addr → Value → Option Addr → TS) (Wout : WX) (D : Ends) : WX := fun cls d σ H =>
  ∃ b, PySem.W.exmAny K cls [c1, c2] = some b ∧ (b = true → ∀ a, H a = none → ts a cls d D σ H) ∧ (b = false → Wout cls d σ H)
theorem ps_try_tup2 {x1 x2 : Str} {c1 c2 : Value} {p1 p2 tpos : Pos} {kk : Nat} (hs : X.stack = X.env :: X.outer) (hf : X.env.frame = some X.env.locals) (hc1 : L2.Names X x1 c1) (hc2 : L2.Names X x2 c2) (hpa : ∀ hd : Option Value, PassesOwnAt (model X.prog X.w) (X.A.mark hd) X.A X.env X.xe) (tk : Takes2 X Wout)
    (hb : ∀ (W : WX) (pn : List (Addr × Obj)) (xe : Value → Shared → Prop), L2N.Takes (X.tr pn xe) W → PassesOwn (model X.prog X.w) X.A X.env xe → PSs (X.tr pn xe) body (tb W))
    (hsu : ∀ (a : Addr) (oe : Obj) (cls : Value) (d : Option Addr) (pn : List (Addr × Obj)), Takes2 (L2H.suiteX X a ((a, oe) :: pn)) Wout → L2H.HotC (L2H.suiteX X a ((a, oe) :: pn)) → PSs (L2H.suiteX X a ((a, oe) :: pn)) (b₀ :: suite) (ts a cls d)) :
    PS X (.Try body [.ExceptHandler (some (.Tuple [.Name x1 p1, .Name x2 p2] kk tpos)) none (b₀ :: suite) pos'] [] [] pos) (fun D σ H => tb (wTup X.K c1 c2 ts Wout D) D σ H) := by
  refine ⟨fun pins s σ H D I h => ?_⟩
  have ok := I.ok
  have hfr : X.A.frames = some (X.env :: X.outer) := by rw [ok.frames, hs]
  refine wpAny_Try_except ?_
  refine wpAny_mono ((hb (wTup X.K c1 c2 ts Wout D) (X.pn ++ pins) (fun e s₁ => wpAny (model X.prog X.w) X.A (noteFrame e X.env) (fun _ s₂ => wpAny (model X.prog X.w) X.A (setFlight e none) (fun _ s₃ =>
    wpAny (model X.prog X.w) X.A (handleBy e X.env [.ExceptHandler (some (.Tuple [.Name x1 p1, .Name x2 p2] kk tpos)) none (b₀ :: suite) pos']) (SP X pins D) X.xe s₃) X.xe s₂) X.xe s₁) (fun u s' xx => ?_) PassesOwn.looking).run [] s σ H D (I.toTry _) h) (fun f s1 hsp => ?_) (fun e s1 he => he)
  · obtain ⟨a, B, sI, pins', σ', H', cls, d, rfl, J', nb, up, sky, na, os, ag, b, hb1, hyes, hno⟩ := xx
    have J : L2.Inv X pins σ' H' sI := J'.ofTry ok
    have sky' : Sky B (X.env :: X.outer) a (L2N.Zn cls d) X.env.locals s'.heap := by rw [← hs]; exact sky
    show wpAny (model X.prog X.w) X.A (noteFrame (.ref a) X.env) _ _ _
    refine L2N.Sky.land L2N.Zn.steady hfr hf sky' fun h3 fl3 up3 => ?_
    have J3 : L2.Inv X pins σ' H' { s' with heap := h3 } := J.landed nb fl3.1 (up.trans up3) os ag
    obtain ⟨oe3, vs3, he3, hz3, hd3⟩ := fl3.there
    have nfr := notFr2 fl3.2.2.1 he3 hd3
    have nL : a ≠ X.env.locals := fun z => nfr (List.mem_filterMap.mpr ⟨X.env, List.mem_cons_self, by rw [hf, z]⟩)
    have nF : a ∉ X.fs := fun hm => by
      obtain ⟨e, he, q⟩ := List.mem_filterMap.mp hm
      exact nfr (List.mem_filterMap.mpr ⟨e, List.mem_cons_of_mem _ he, q⟩)
    have S3 := J3.suite he3 hd3 na nL nF
    refine wpAny_handleBy_cons (codeAny_handlers_test ?_) (by intro q; cases q)
    have LT : PySem.W.Looks (model X.prog X.w) h3 (typeOf (.ref a)) cls := fun A Q E s k q => wpAny_typeOf_ref (k _ _ he3) (by rw [hz3.1]; exact q)
    have test : ∀ {x : Str} {c : Value} {np : Pos} (_ : L2.Names X x c) {Q : Value → Shared → Prop} {E : Value → Shared → Prop}, Q c { s' with heap := h3 } → wpAny (model X.prog X.w) (X.A.mark (some (.ref a))) (eval (.Name x np) X.env) Q E { s' with heap := h3 } := fun {x c np} hc {Q E} q => by
      obtain ⟨hg, hdbg, hm | ⟨hm, hv, hnn⟩⟩ := hc
      · exact ld_glob (X := X.suite a ((a, oe3) :: (X.pn ++ pins))) S3 hg hm q hdbg
      · exact ld_blt (X := X.suite a ((a, oe3) :: (X.pn ++ pins))) S3 hg hm hv q hnn hdbg
    have kp : ∀ q o, h3.get? q = some o → (h3.push { cls := .type "tuple", data := .seq [c1, c2].toArray }).get? q = some o := fun _ _ z => Heap.get?_push_of_some _ z
    refine wpAny_Tuple (wpAny_items_cons (test hc1 (wpAny_items_cons (test hc2 (wpAny_items_nil ⟨by size_fits, ?_⟩)))))
    refine (PySem.W.exm_tup2 (M := model X.prog X.w) ((J3.kIn).keeps kp) (LT.keeps kp) (Heap.get?_push_size h3 rfl) hb1).here ?_
    have fl5 := flyingZ_keeps kp fl3
    have up5 : s'.heap.UpToSlots (h3.push { cls := .type "tuple", data := .seq [c1, c2].toArray }) := up3.trans (Heap.UpToSlots.of_keeps kp)
    generalize h3.push { cls := .type "tuple", data := .seq [c1, c2].toArray } = h5 at fl5 up5
    cases b with
    | true =>
      refine codeAny_handlers_suite ?_
      refine HandSPX.lands_againZ fl5 fun h4 fl4 up4 => ?_
      have J4 : L2.Inv X pins σ' H' { s' with heap := h4 } := J.landed nb fl4.1 ((up.trans up5).trans up4) os ag
      obtain ⟨oe4, vs4, he4, hz4, hd4⟩ := fl4.there
      have S4 := J4.suite he4 hd4 na nL nF
      have tkS : Takes2 (L2H.suiteX X a ((a, oe4) :: (X.pn ++ pins))) Wout := fun u2 s2 x2 => by
        obtain ⟨a2, B2, sI2, pn2, σ2, H2, cls2, d2, e2, I2, nb2, up2, sky2, na2, os2, ag2, w2⟩ := x2
        exact tk u2 s2 ⟨a2, B2, sI2, pins, σ2, H2, cls2, d2, e2, L2H.unsuiteX I2 ok, nb2, up2, sky2, na2, os2, ag2, w2⟩
      have hot : L2H.HotC (L2H.suiteX X a ((a, oe4) :: (X.pn ++ pins))) := ⟨(a, oe4), ⟨rfl, vs4, hd4, hz4.2.2 vs4 hd4⟩, List.mem_cons_self⟩
      refine wpAny_mono ((hsu a oe4 cls d (X.pn ++ pins) tkS hot).run [] _ _ H' _ (L2H.suiteX_of S4) (hyes rfl a na)) (fun f s6 hsp => ?_) (fun e6 s6 z => hpa (some (.ref a)) e6 s6 z)
      cases f with
      | next =>
        obtain ⟨σ6, H6, S6, q6⟩ := hsp
        exact ⟨_, _, L2H.unsuiteX S6 ok, q6⟩
      | brk =>
        obtain ⟨σ6, H6, S6, q6⟩ := hsp
        exact ⟨_, _, L2H.unsuiteX S6 ok, q6⟩
      | cont =>
        obtain ⟨σ6, H6, S6, q6⟩ := hsp
        exact ⟨_, _, L2H.unsuiteX S6 ok, q6⟩
      | ret u =>
        obtain ⟨v6, σ6, H6, S6, r6, q6⟩ := hsp
        exact ⟨_, _, _, L2H.unsuiteX S6 ok, r6, q6⟩
    | false =>
      show wpAny _ X.A (handleBy (.ref a) X.env []) _ _ _
      refine wpAny_handleBy_nil ?_
      obtain ⟨k1, k2, k3, oe, vs, T, oT, ts', he, hz, hd, h1, hr⟩ := id fl5
      unfold PySem.passOn
      refine wpAny_bind (wpAny_field he hd h1 ?_)
      rw [if_neg (show ¬ ((Value.ref T == Value.none) = true) from by simp)]
      have fin : wpAny (model X.prog X.w) X.A (setFlight (.ref a) X.env.frame) (fun _ s4 => wpAny (model X.prog X.w) X.A (throw (.ref a) : Sem Flow) (SP X pins D) X.xe s4) X.xe { s' with heap := h5 } := by
        rw [hf]
        refine HandSPX.setFlight_upZ fl5 fun h4 hh4 up4 => wpAny_throw (takes2_n tk _ _ ?_)
        exact ⟨a, B, sI, pins, σ', H', cls, d, rfl, J, nb, (up.trans up5).trans up4, .inr (.inr (by rw [hs]; exact hh4)), na, os, ag, hno rfl⟩
      first
        | exact wpAny_bind (wpAny_pure (wpAny_bind fin))
        | exact wpAny_bind fin
  · cases f with
    | next =>
      obtain ⟨σ', H', J', q⟩ := hsp
      exact wpAny_execs_nil ⟨σ', H', J'.ofTry ok, q⟩
    | brk =>
      obtain ⟨σ', H', J', q⟩ := hsp
      exact ⟨σ', H', J'.ofTry ok, q⟩
    | cont =>
      obtain ⟨σ', H', J', q⟩ := hsp
      exact ⟨σ', H', J'.ofTry ok, q⟩
    | ret u =>
      obtain ⟨v, σ', H', J', r, q⟩ := hsp
      exact ⟨v, σ', H', J'.ofTry ok, r, q⟩
end
end

end
section
/-! ### a comprehension whose element may raise -/
section
open PySem.Spec PyProof.Rows
theorem noteFrame_frame {e : Value} {env env' : Env} (h : env.frame = env'.frame) : noteFrame e env = noteFrame e env' := by
  unfold noteFrame PySem.frameOf
  rw [h]
theorem funFrames_hide {base h : Heap} {C : Addr} : ∀ {l : List Env}, h.FunFrames base l → C ∉ frs l → (PySem.W.hideAll h [C]).FunFrames base l
  | [], _, _ => trivial
  | env :: l, hh, hn => by
    obtain ⟨hk, ⟨L, o, hf, hb, ho, hd⟩, hr⟩ := hh
    exact ⟨hk, ⟨L, o, hf, hb, PySem.W.hideAll_get _ ho (by
      intro z
      exact hn (List.mem_filterMap.mpr ⟨env, List.mem_cons_self, by rw [hf, List.mem_singleton.mp z]⟩)), hd⟩, funFrames_hide hr fun z => hn (by
      obtain ⟨e, he, q⟩ := List.mem_filterMap.mp z
      exact List.mem_filterMap.mpr ⟨e, List.mem_cons_of_mem _ he, q⟩)⟩
variable {X : Cx}
/-- the context of its element: what flies comes out of a call -/
abbrev blkE (X : Cx) (E : XK) (s : Shared) (H : Hp) (scope : Scope) (cenv : Env) (fp : List Addr) : Cx := { X.blk s H scope cenv fp with xe := fun u s' => ∃ (pins : List (Addr × Obj)) (σ : L2.St) (H1 : Hp) (s1 : Shared), L2.Inv (X.blk s H scope cenv fp) pins σ H1 s1 ∧ L2N.CX X.prog X.w X.stack H1 s1 E u s' }
theorem passE {E : XK} {s : Shared} {H : Hp} {scope : Scope} {cenv : Env} {fp : List Addr} (σ : L2.St) : PassesAt (L2N.CX X.prog X.w) (blkE X E s H scope cenv fp) σ E := fun pins H1 s1 _ _ I c => ⟨pins, σ, H1, s1, Inv.unwish (X := X.blk s H scope cenv fp) (E := _) I, c⟩
theorem fly_of_call {pins : List (Addr × Obj)} {σ : L2.St} {H : Hp} {s s' : Shared} {E : XK} {u : Value} (I : L2.Inv X pins σ H s) (c : L2N.CX X.prog X.w X.stack H s E u s') :
    ∃ (a : Addr) (B : Heap) (sI : Shared) (H' : Hp) (cls : Value) (d : Option Addr), u = .ref a ∧ L2.Inv X pins σ H' sI ∧ (∀ b o, sI.heap.get? b = some o → b ∉ frs X.stack → B.get? b = some o) ∧ sI.heap.UpToSlots s'.heap ∧
      HandSPX.FlyingZ B X.stack a (L2N.Zn cls d) s'.heap ∧ H' a = none ∧ s'.os = sI.os ∧ AllBare s'.gens ∧ E cls d H' := by
  obtain ⟨a, B, H', cls, d, rfl, fl, hok, ub, na, os, ag, hE⟩ := c
  obtain ⟨G, g1, g2⟩ := restrict s'.heap fun b => (B.get? b).isSome || decide (b ∈ frs X.stack)
  have st : B.StaysIn s'.heap := fl.1
  have gB : ∀ b o, B.get? b = some o → G.get? b = some o := fun b o e => by
    rw [g1 b (by simp [e])]
    exact st b o e
  have gF : ∀ b, b ∈ frs X.stack → G.get? b = s'.heap.get? b := fun b hb => g1 b (by simp [hb])
  have og : ∀ b o, G.get? b = some o → s'.heap.get? b = some o ∧ ((B.get? b).isSome = true ∨ b ∈ frs X.stack) := fun b o e => by
    cases q : ((B.get? b).isSome || decide (b ∈ frs X.stack)) with
    | false => rw [g2 b q] at e; cases e
    | true =>
      rw [g1 b q] at e
      exact ⟨e, by simpa [Bool.or_eq_true] using q⟩
  refine ⟨a, B, { s with heap := G, gens := s'.gens, drawn := s'.drawn, toks := s'.toks }, H', cls, d, rfl, ?_, fun b o e hb => ?_, Heap.UpToSlots.of_keeps fun b o e => (og b o e).1, fl, na, os, ag, hE⟩
  · refine I.call (ch := []) ⟨fun b o e n hb _ => gB b o (ub.keep b o e n hb), fun b o e n hb _ => ?_, fun b o e n _ => ub.free b o e n, fun b o e _ => ?_, ub.tups, ub.frzs, ub.tbls⟩ (hok.kept gB) ag (fun _ z => nomatch z)
    · obtain ⟨sl, q⟩ := ub.slot b o e hb
      exact ⟨sl, by rw [gF b hb]; exact q⟩
    · by_cases hb : b ∈ frs X.stack
      · obtain ⟨sl, q⟩ := ub.slot b o e hb
        exact ⟨_, by rw [gF b hb]; exact q⟩
      · obtain ⟨o', q⟩ := ub.there b o e hb
        exact ⟨o', gB b o' q⟩
  · obtain ⟨e', h⟩ := og b o e
    rcases h with h | h
    · obtain ⟨o', q⟩ := Option.isSome_iff_exists.mp h
      have z := st b o' q
      rw [e'] at z; cases z
      exact q
    · exact absurd h hb
theorem block_err {E : XK} {pins0 pins : List (Addr × Obj)} {σ0 σ9 : L2.St} {H3 H9 : Hp} {s3 s9 s' : Shared} {u : Value} {scope : Scope} {ce : Env} {fp : List Addr} (hs : X.stack = X.env :: X.outer) (hf : X.env.frame = some X.env.locals) (tk : L2N.Takes X fun cls d _ H => E cls d H)
    (I3 : L2.Inv X pins0 σ0 H3 s3) (cL : ce.locals = s3.heap.objs.size) (cf : ce.frame = X.env.frame) (f3 : ∀ b ∈ fp, FpOk X pins0 H3 b) (I9 : L2.Inv (X.blk s3 H3 scope ce fp) pins σ9 H9 s9) (c : L2N.CX X.prog X.w X.stack H9 s9 E u s') :
    notedBy (model X.prog X.w) X.A ce (CompFails (model X.prog X.w) X.A X.xe ce) u s' := by
  obtain ⟨a, B, sI, H', cls, d, rfl, Ib, nb, up, fl, na, os, ag, hE⟩ := fly_of_call (X := X.blk s3 H3 scope ce fp) I9 c
  have hfr : X.A.frames = some (X.env :: X.outer) := by rw [I3.ok.frames, hs]
  have fl : HandSPX.FlyingZ B (X.env :: X.outer) a (L2N.Zn cls d) s'.heap := by rw [← hs]; exact fl
  have IX : L2.Inv X pins0 σ0 H' sI := Inv.call' I3 Ib.os Ib.base Ib.hok Ib.bare fun b hb => ⟨(f3 b hb).2.2.2.1, (f3 b hb).2.1, (f3 b hb).2.2.2.2.1, (f3 b hb).2.2.2.2.2⟩
  have nC : H' s3.heap.objs.size = none := by
    have z : H' ce.locals = none := Ib.free
    rw [cL] at z
    exact z
  have fC := Inv.fpOk (H' := H') I3 (Nat.le_refl s3.heap.objs.size) nC
  have Cfr : s3.heap.objs.size ∉ frs X.stack := fun hm => by
    obtain ⟨_, o, e, _⟩ := (I3.stack).mem hm
    exact absurd (Heap.lt_size e) (Nat.lt_irrefl _)
  obtain ⟨m, ⟨oC, es, ep, hC, dC, kC, lC⟩, _⟩ := Ib.loc
  have hC : sI.heap.get? s3.heap.objs.size = some oC := by
    have z : sI.heap.get? ce.locals = some oC := hC
    rw [cL] at z
    exact z
  show wpAny (model X.prog X.w) X.A (noteFrame (.ref a) ce) _ _ _
  rw [noteFrame_frame cf]
  refine PXN.looks_onZ L2N.Zn.steady hfr hf fl fun h1 hh1 up1 => ?_
  obtain ⟨st1, ae1, ff1, oe, vs, T, oT, ts, ha, hz, hd, hv1, nT, nTa, hT, dT, tT⟩ := hh1
  have hC1 : h1.get? s3.heap.objs.size = some oC := st1 _ _ (nb _ _ hC Cfr)
  have aC : a ≠ s3.heap.objs.size := fun z => by
    rw [z, hC1] at ha
    cases ha
    rw [dC] at hd
    cases hd
  have TC : T ≠ s3.heap.objs.size := fun z => by
    rw [z, hC1] at hT
    cases hT
    rw [dC] at dT
    cases dT
  refine ⟨m, ⟨oC, es, ep, by rw [cL]; exact hC1, dC, kC, lC⟩, fun h2 m2 _ sb => ?_⟩
  rw [cL] at sb
  have e2 : ∀ b, b ≠ s3.heap.objs.size → h2.get? b = h1.get? b := fun b hb => sb.2 b hb
  unfold PySem.passOn
  refine wpAny_bind (wpAny_field (s := { s' with heap := h2 }) ((e2 a aC).trans ha) hd hv1 ?_)
  rw [if_neg (show ¬ ((Value.ref T == Value.none) = true) from by simp)]
  -- the ground and the state without C
  have hidB : ∀ b o, (PySem.W.hideAll B [s3.heap.objs.size]).get? b = some o → b ≠ s3.heap.objs.size ∧ B.get? b = some o := fun b o e => by
    refine ⟨fun z => ?_, PySem.W.of_hideAll _ e⟩
    rw [PySem.W.hideAll_none [s3.heap.objs.size] (by rw [z]; exact List.mem_singleton.mpr rfl)] at e
    cases e
  have hidI : ∀ b o, (PySem.W.hideAll sI.heap [s3.heap.objs.size]).get? b = some o → b ≠ s3.heap.objs.size ∧ sI.heap.get? b = some o := fun b o e => by
    refine ⟨fun z => ?_, PySem.W.of_hideAll _ e⟩
    rw [PySem.W.hideAll_none [s3.heap.objs.size] (by rw [z]; exact List.mem_singleton.mpr rfl)] at e
    cases e
  have J : L2.Inv X pins0 σ0 H' { sI with heap := PySem.W.hideAll sI.heap [s3.heap.objs.size], toks := sI.toks } := Inv.turned (t' := sI.toks) (it := s3.heap.objs.size) IX (fun b o hb e => PySem.W.hideAll_get _ e (by simpa using hb)) fC.1 fC.2.1 fC.2.2.2.1 fC.2.2.2.2.1 fC.2.2.2.2.2
  have upI : (PySem.W.hideAll sI.heap [s3.heap.objs.size]).UpToSlots h2 := fun b o e hnf => by
    obtain ⟨hb, e'⟩ := hidI b o e
    obtain ⟨sl, q⟩ := (up.trans up1) b o e' hnf
    exact ⟨sl, (e2 b hb).trans q⟩
  have st2 : (PySem.W.hideAll B [s3.heap.objs.size]).StaysIn h2 := fun b o e => by
    obtain ⟨hb, e'⟩ := hidB b o e
    exact (e2 b hb).trans (st1 _ _ e')
  have none2 : ∀ b, B.get? b = none → (PySem.W.hideAll B [s3.heap.objs.size]).get? b = none := fun b e => by
    cases z : (PySem.W.hideAll B [s3.heap.objs.size]).get? b with
    | none => rfl
    | some o =>
      rw [(hidB b o z).2] at e
      cases e
  have ff2 : h2.FunFrames (PySem.W.hideAll B [s3.heap.objs.size]) (X.env :: X.outer) := by
    have z := funFrames_none ff1 (fun L hL => none2 L ((ff1.mem hL).1))
    refine Heap.FunFrames.of_keeps (h := PySem.W.hideAll h1 [s3.heap.objs.size]) (fun b o e _ => ?_) ?_
    · have hb : b ≠ s3.heap.objs.size := fun z => by
        rw [PySem.W.hideAll_none [s3.heap.objs.size] (by rw [z]; exact List.mem_singleton.mpr rfl)] at e
        cases e
      exact ⟨o, (e2 b hb).trans (PySem.W.of_hideAll _ e), rfl⟩
    · exact funFrames_hide z (by rw [← hs]; exact Cfr)
  have tr2 : HandSPX.TracedZ h2 (PySem.W.hideAll B [s3.heap.objs.size]) a (L2N.Zn cls d) (rawInt X.env.locals) := ⟨oe, vs, T, oT, ts, (e2 a aC).trans ha, hz, hd, hv1, none2 T nT, nTa, (e2 T TC).trans hT, dT, tT⟩
  have fin : wpAny (model X.prog X.w) X.A (setFlight (.ref a) ce.frame) (fun _ s4 => wpAny (model X.prog X.w) X.A (throw (.ref a) : Sem Value) (fun _ _ => False) X.xe s4) X.xe { s' with heap := h2 } := by
    rw [cf, hf]
    refine HandSPX.setFlight_anyZ (fl := rawInt X.env.locals) (fr := some X.env.locals) st2 ff2 tr2 fun h4 k1 k2 k3 up4 => wpAny_throw (tk _ _ ?_)
    exact ⟨a, _, _, pins0, σ0, H', cls, d, rfl, J, fun b o e hb => PySem.W.hideAll_get _ (nb b o (hidI b o e).2 hb) (by simpa using (hidI b o e).1), upI.trans up4, .inr (.inr ⟨k1, none2 a ae1, by rw [hs]; exact k2, k3⟩), na, os, ag, hE⟩
  first
    | exact wpAny_bind (wpAny_pure (wpAny_bind fin))
    | exact wpAny_bind fin
end

section
variable {X : Cx}
open PySem.Spec PyProof.Rows in
set_option maxHeartbeats 4000000 in
theorem pe_lcX {E : XK} {elt tg iter : Expr} {ifs : List Expr} {scope : Scope} {own : List (Str × Nat)} {pos : Pos} {wi : TI} {g : TG} {tt : TT} {te : TE}
    (hst : X.stack = X.env :: X.outer) (hfr : X.env.frame = some X.env.locals) (tk : L2N.Takes X fun cls d _ H => E cls d H)
    (hc : X.calm = true) (hN : X.N.Nodup) (hi : PI X tg iter wi) (ok : BlkOk X.N X.env.scope scope own)
    (hg : ∀ (s : Shared) (H : Hp) (C : Addr) (cl : List (Str × Addr)) (fp : List Addr), PG (X.blk s H scope (compEnvC scope cl C X.env) fp) tg g)
    (ht : ∀ (s : Shared) (H : Hp) (C : Addr) (cl : List (Str × Addr)) (fp : List Addr), PTs (X.blk s H scope (compEnvC scope cl C X.env) fp) ifs tt)
    (he : ∀ (s : Shared) (H : Hp) (C : Addr) (cl : List (Str × Addr)) (fp : List Addr), PE (blkE X E s H scope (compEnvC scope cl C X.env) fp) elt te)
    (hs : ∀ x : Value, foldedSetIterable iter X.env x = pure x := by intro _; rfl) :
    PE X (.ListComp elt [⟨tg, iter, ifs, 0⟩] scope pos) (tLc wi g tt te (own.map (·.2))) := by
  refine ⟨fun pins s σ H Q I h => ?_⟩
  rw [eval_ListComp]
  have hfree : ∀ y ∈ scope.names, y.2 = .free → ∃ c, X.env.cells.lookup y.1 = some c := fun y hy e => by
    rcases ok.free y hy e with k | k
    · exact I.ok.has _ (.inl k)
    · exact I.ok.has _ (.inr k)
  refine comprehension_at (use := none) rfl hs (closure_ok hfree) ok.kind (fun y hy e => by rw [ok.uniq y hy, e])
    (thn (hi.run pins s σ H _ I h) fun xv s1 hx => thn hx fun itv s2 h2 => ?_)
  obtain ⟨it, fp, tn, J, H2, e, I2, T, st2, f2, q⟩ := h2
  subst e
  refine wpAny_newObj_type (newEnv_comp ?_) (by show 0 ≤ sizeLine; decide)
  generalize hD : s2.heap.objs.size = D
  have hDn : H2 D = none := I2.hok.fresh (Nat.le_of_eq hD)
  obtain ⟨W, ⟨m0, w0⟩, turn⟩ := q D hDn
  -- the new list
  generalize hs3 : ({ s2 with heap := s2.heap.push { cls := .type "list", data := .seq ([] : List Value).toArray } } : Shared) = s3
  have I3 : L2.Inv X pins σ (upd H2 D (.lst [])) s3 := by
    rw [← hs3]
    refine I2.laid (t' := s2.toks) (fun b o e => Heap.get?_push_of_some _ e) (Nat.le_of_eq hD) ⟨Nat.zero_le _, [], 0, .nil, ?_⟩
    rw [← hD]
    exact Heap.get?_push_size _ rfl
  have h3 : s3.heap = s2.heap.push { cls := .type "list", data := .seq ([] : List Value).toArray } := by rw [← hs3]
  have sz : ∀ b ∈ fp, b < s2.heap.objs.size := fun b hb => by
    obtain ⟨o, e, _⟩ := T.obj _ _ st2 b hb
    exact Heap.lt_size e
  have f3 : ∀ b ∈ fp, FpOk X pins (upd H2 D (.lst [])) b ∧ b < s3.heap.objs.size := fun b hb => by
    have hlt := sz b hb
    refine ⟨⟨?_, (f2 b hb).2⟩, by rw [h3, Heap.size_push]; exact Nat.lt_succ_of_lt hlt⟩
    rw [upd_ne (by rw [← hD]; exact Nat.ne_of_lt hlt)]
    exact (f2 b hb).1
  have st3 : tn 0 s3.heap := T.keep _ _ _ st2 fun b _ o e => by rw [h3]; exact Heap.get?_push_of_some _ e
  have I4 := block_start I3 ok hN f3
  have pg := hg s3 (upd H2 D (.lst [])) s3.heap.objs.size (cellsFrom (s3.heap.objs.size + 1) scope.names (cloFrom X.env.cells scope.names [])) fp
  have pt := ht s3 (upd H2 D (.lst [])) s3.heap.objs.size (cellsFrom (s3.heap.objs.size + 1) scope.names (cloFrom X.env.cells scope.names [])) fp
  have pe := he s3 (upd H2 D (.lst [])) s3.heap.objs.size (cellsFrom (s3.heap.objs.size + 1) scope.names (cloFrom X.env.cells scope.names [])) fp
  show codeAny _ _ (.compStart (.ListComp elt [⟨tg, iter, ifs, 0⟩] scope pos) 0 (.ref it) (.ref D) (compEnvC scope (cellsFrom (s3.heap.objs.size + 1) scope.names (cloFrom X.env.cells scope.names [])) s3.heap.objs.size X.env)) (compEnds (model X.prog X.w) X.A X.xe none (EP X pins σ Q) (.ref D) (compEnvC scope (cellsFrom (s3.heap.objs.size + 1) scope.names (cloFrom X.env.cells scope.names [])) s3.heap.objs.size X.env)) { s3 with heap := pushCells (s3.heap.push { cls := .type "dict", data := .dict #[] }) scope.names }
  have nfp : ∀ b ∈ fp, (upd H2 D (.lst [])) b = none := fun b hb => (f3 b hb).1.1
  generalize hce : compEnvC scope (cellsFrom (s3.heap.objs.size + 1) scope.names (cloFrom X.env.cells scope.names [])) s3.heap.objs.size X.env = ce at I4 pg pt pe ⊢
  have cL : ce.locals = s3.heap.objs.size := by subst hce; rfl
  have cF : ce.frame = X.env.frame := by subst hce; rfl
  generalize hH3 : upd H2 D (.lst []) = H3 at I3 I4 pg pt pe w0 nfp f3
  generalize hs4 : ({ s3 with heap := pushCells (s3.heap.push { cls := .type "dict", data := .dict #[] }) scope.names } : Shared) = s4 at I4 ⊢
  have st4 : tn 0 s4.heap := T.keep _ _ _ st3 fun b _ o e => by rw [← hs4]; exact pushCells_keeps _ _ _ _ (Heap.get?_push_of_some _ e)
  have stat : ∀ {σ' : L2.St} {H' : Hp} {s' : Shared}, L2.Inv (X.blk s3 H3 scope ce fp) [] σ' H' s' → (∀ b ∈ fp, H' b = none) → ∀ b ∈ fp, FpOk (X.blk s3 H3 scope ce fp) [] H' b := fun {σ' H' s'} I' hn b hb =>
    ⟨hn b hb, (I'.ok.exf b hb).1, I'.ok.exfs b hb, .inl hb, fun x c e => (I'.ok.exf b hb).2 x c e, fun p hp => absurd (show p ∈ ([] : List (Addr × Obj)) ++ [] from hp) (by simp)⟩
  have loop : codeAny (model X.prog X.w) X.A (.compLoop (.ListComp elt [⟨tg, iter, ifs, 0⟩] scope pos) 0 (.ref it) (.ref D) ce) (compEnds (model X.prog X.w) X.A X.xe none (EP X pins σ Q) (.ref D) ce) s4 := by
    refine compLoop_any (fun n s' => ∃ i H', L2.Inv (X.blk s3 H3 scope ce fp) [] (wipe σ (own.map (·.2))) H' s' ∧ tn i s'.heap ∧ (∀ b ∈ fp, H' b = none) ∧ W i n H') ?_ m0 ⟨0, H3, I4, st4, nfp, w0⟩
    rintro n s5 ⟨i, H5, I5, st5, n5, w5⟩
    rcases turn i n H5 w5 with ⟨stop, qq⟩ | ⟨go, Nx, hNx, step⟩
    · have td := T.done (X.blk s3 H3 scope ce fp) rfl rfl rfl hc i [] s5 _ H5 (fun _ _ => False) I5 (stat I5 n5) st5 stop
      refine thnF td fun r s6 ⟨hr, I6⟩ => ?_
      subst hr
      -- back in the def's context
      have I7 : L2.Inv X pins σ H5 s6 := I3.call' (ch := fp) I6.os I6.base I6.hok I6.bare fun b hb => ⟨(f3 b hb).1.2.2.2.1, (f3 b hb).1.2.1, (f3 b hb).1.2.2.2.2.1, (f3 b hb).1.2.2.2.2.2⟩
      have nC : H5 s3.heap.objs.size = none := by
        have z : H5 ce.locals = none := I6.free
        rw [cL] at z
        exact z
      obtain ⟨m, hn, _⟩ := I6.loc
      have hn : s6.heap.Ns ce.locals m := hn
      rw [cL] at hn
      obtain ⟨f0, f1, f2, f3', f4, f5⟩ := Inv.fpOk (H' := H5) I3 (Nat.le_refl _) nC
      refine ⟨m, by rw [cL]; exact hn, fun h'' sb => ?_⟩
      rw [cL] at sb
      exact ⟨.ref D, H5, I7.turned (t' := s6.toks) (fun b o hb e => (sb.2 b hb).trans e) f0 f1 f3' f4 f5, rfl, qq⟩
    · have ti := T.item (X.blk s3 H3 scope ce fp) rfl rfl rfl hc i [] s5 _ H5 (fun _ _ => False) I5 (stat I5 n5) st5 go
      refine thnF ti fun r s6 ⟨u, hr, h6⟩ => ?_
      subst hr
      refine thnF h6 fun _ s7 ⟨x, H7, I7, r7, y7, st7, n7⟩ => ?_
      have I7' := I7.pinned (stat I7 n7) (T.obj _ _ st7)
      refine thnF (pg.run _ s7 _ H7 x u _ I7' r7 (step x H7 y7)) fun _ s8 ⟨σ8, H8, I8, hw8, q8⟩ => ?_
      refine thnF (pt.run _ s8 σ8 H8 _ I8 q8) fun b s9 ⟨H9, I9, q9⟩ => ?_
      -- the turn's end
      have fin : ∀ {s' : Shared} {H' : Hp}, L2.Inv (X.blk s3 H3 scope ce fp) ([] ++ pinsAt fp s7.heap) σ8 H' s' → Nx H' → ∃ m, m < n ∧ ∃ i H', L2.Inv (X.blk s3 H3 scope ce fp) [] (wipe σ (own.map (·.2))) H' s' ∧ tn i s'.heap ∧ (∀ b ∈ fp, H' b = none) ∧ W i m H' := fun {s' H'} I' nx => by
        obtain ⟨m', hm, w'⟩ := hNx H' nx
        have pin' : ∀ b ∈ fp, ∀ o, s7.heap.get? b = some o → s'.heap.get? b = some o ∧ H' b = none := fun b hb o e =>
          let z := I'.pin (b, o) (List.mem_append_right _ (List.mem_append_right _ (mem_pinsAt hb e)))
          ⟨z.1, z.2.1⟩
        have hl : (wipe σ (own.map (·.2))).length = σ8.length := by rw [← hw8, wipe_length]
        refine ⟨m', hm, i + 1, H', (I'.unpinned (pins := [])).weak hl (fun j v e => ?_), T.keep _ _ _ st7 fun b hb o e => (pin' b hb o e).1, fun b hb => ?_, w'⟩
        · rw [← hw8] at e
          exact (wipe_some e).1
        · obtain ⟨o, e, _⟩ := T.obj _ _ st7 b hb
          exact (pin' b hb o e).2
      cases b with
      | false =>
        simp only [Bool.false_eq_true, if_false] at q9 ⊢
        exact fin I9 q9
      | true =>
        simp only [if_true] at q9 ⊢
        refine wpAny_mono (pe.run _ s9 σ8 H9 _ (I9.wish _) q9) (fun z s10 hz => ?_) fun u s' ⟨pn2, σ2, H2', s2', J2, c2⟩ => block_err hst hfr tk I3 cL cF (fun b hb => (f3 b hb).1) J2 c2
        obtain ⟨yv, H10, I10, r10, acc, hD10, hz10, nx⟩ := hz
        exact app_ok (X := X.blk s3 H3 scope ce fp) (Inv.unwish I10) hD10 hz10 r10 fun s11 I11 => fin I11 nx
  exact codeAny_compStart_list loop (T.self X.A 0 _ _ _ st4 loop)
end

end
section
/-! ### any text of signs below 128: taken apart -/
section
open SX
def Asc (a : List Nat) : Prop := ∀ c ∈ a, c < 128
theorem spl_sub (b : List Nat) : ∀ (a : List Nat) (k : Nat) (acc p : List Nat), p ∈ TL.spl b k acc a → ∀ c ∈ p, c ∈ acc ∨ c ∈ a
  | [], k, acc, p, hp, c, hc => by
    rw [TL.spl_nil] at hp
    rw [List.mem_singleton.mp hp] at hc
    exact .inl hc
  | x :: r, 0, acc, p, hp, c, hc => by
    unfold TL.spl at hp
    split at hp
    · rcases List.mem_cons.mp hp with e | e
      · rw [e] at hc
        exact .inl hc
      · rcases spl_sub b r _ _ p e c hc with z | z
        · exact absurd z List.not_mem_nil
        · exact .inr (List.mem_cons_of_mem _ z)
    · rcases spl_sub b r _ _ p hp c hc with z | z
      · rcases List.mem_append.mp z with y | y
        · exact .inl y
        · exact .inr (by rw [List.mem_singleton.mp y]; exact List.mem_cons_self)
      · exact .inr (List.mem_cons_of_mem _ z)
  | x :: r, k + 1, acc, p, hp, c, hc => by
    unfold TL.spl at hp
    rcases spl_sub b r _ _ p hp c hc with z | z
    · exact .inl z
    · exact .inr (List.mem_cons_of_mem _ z)
theorem spl_len (b : List Nat) : ∀ (a : List Nat) (k : Nat) (acc p : List Nat), p ∈ TL.spl b k acc a → p.length ≤ acc.length + a.length
  | [], k, acc, p, hp => by
    rw [TL.spl_nil] at hp
    rw [List.mem_singleton.mp hp]
    exact Nat.le_add_right _ _
  | x :: r, 0, acc, p, hp => by
    unfold TL.spl at hp
    rw [List.length_cons]
    split at hp
    · rcases List.mem_cons.mp hp with e | e
      · rw [e]
        exact Nat.le_add_right _ _
      · have := spl_len b r _ _ p e
        rw [List.length_nil] at this
        omega
    · have := spl_len b r _ _ p hp
      rw [List.length_append, List.length_singleton] at this
      omega
  | x :: r, k + 1, acc, p, hp => by
    unfold TL.spl at hp
    have := spl_len b r _ _ p hp
    rw [List.length_cons]
    omega
theorem spl_cnt (b : List Nat) : ∀ (a : List Nat) (k : Nat) (acc : List Nat), 0 < (TL.spl b k acc a).length ∧ (TL.spl b k acc a).length ≤ a.length + 1
  | [], k, acc => by
    rw [TL.spl_nil]
    exact ⟨Nat.lt_succ_self 0, Nat.le_refl _⟩
  | x :: r, 0, acc => by
    unfold TL.spl
    rw [List.length_cons]
    split
    · have := spl_cnt b r (b.length - 1) []
      rw [List.length_cons]
      omega
    · have := spl_cnt b r 0 (acc ++ [x])
      omega
  | x :: r, k + 1, acc => by
    unfold TL.spl
    have := spl_cnt b r k acc
    rw [List.length_cons]
    omega
theorem par_sub (b : List Nat) : ∀ (a acc x y : List Nat), TL.par b acc a = some (x, y) → (∀ c ∈ x, c ∈ acc ∨ c ∈ a) ∧ (∀ c ∈ y, c ∈ a) ∧ x.length ≤ acc.length + a.length ∧ y.length ≤ a.length
  | [], acc, x, y, h => by
    unfold TL.par at h
    cases h
  | c0 :: r, acc, x, y, h => by
    unfold TL.par at h
    split at h
    · obtain ⟨rfl, rfl⟩ := Prod.mk.inj (Option.some.inj h)
      refine ⟨fun c hc => .inl hc, fun c hc => List.mem_of_mem_drop hc, Nat.le_add_right _ _, ?_⟩
      rw [List.length_drop]
      omega
    · obtain ⟨h1, h2, h3, h4⟩ := par_sub b r _ x y h
      refine ⟨fun c hc => ?_, fun c hc => List.mem_cons_of_mem _ (h2 c hc), ?_, ?_⟩
      · rcases h1 c hc with z | z
        · rcases List.mem_append.mp z with w | w
          · exact .inl w
          · exact .inr (by rw [List.mem_singleton.mp w]; exact List.mem_cons_self)
        · exact .inr (List.mem_cons_of_mem _ z)
      · rw [List.length_append, List.length_singleton] at h3
        rw [List.length_cons]
        omega
      · rw [List.length_cons]
        omega
theorem part_asc {a : List Nat} (h : Asc a) : ∃ (x y : List Nat) (m : Str), Txt.partition (S a) (S [61]) = (S x, m, S y) ∧ Asc x ∧ Asc y ∧ x.length ≤ a.length ∧ y.length ≤ a.length := by
  have e := TL.partition_par (S a) (S [61]) (by show ([61] : List Nat) ≠ []; decide)
  have e1 : TL.tl (S a) = a := rfl
  have e2 : TL.tl (S [61]) = [61] := rfl
  rw [e1, e2] at e
  rcases hp : TL.par [61] [] a with _ | ⟨x, y⟩
  · rw [hp] at e
    exact ⟨a, [], Str.empty, e, h, fun c hc => absurd hc List.not_mem_nil, Nat.le_refl _, Nat.zero_le _⟩
  · rw [hp] at e
    obtain ⟨h1, h2, h3, h4⟩ := par_sub [61] a [] x y hp
    exact ⟨x, y, S [61], e, fun c hc => (h1 c hc).elim (fun z => absurd z List.not_mem_nil) (h c), fun c hc => h c (h2 c hc), by rw [List.length_nil] at h3; omega, h4⟩
theorem isdec_inv {a : List Nat} (h : Asc a) (e : Txt.isdecimal (S a) = true) : a ≠ [] ∧ PySem.NumText.AllDigits a := by
  unfold Txt.isdecimal at e
  rw [Bool.and_eq_true, decide_eq_true_eq, ← Array.all_toList] at e
  obtain ⟨e1, e2⟩ := e
  refine ⟨fun z => ?_, fun c hc => ?_⟩
  · rw [z] at e1
    exact absurd e1 (by decide)
  · have z := List.all_eq_true.mp e2 c hc
    rw [PyProof.Rows.cls_isdecimal c (h c hc)] at z
    have key : ∀ d, d < 128 → PyProof.Rows.inR 48 57 ⟨#[d]⟩ = true → 48 ≤ d ∧ d ≤ 57 := by decide +kernel
    exact key c (h c hc) z
theorem digitsVal_lt : ∀ (n : Nat) (cs : List Nat), cs.length = n → PySem.NumText.AllDigits cs → PySem.NumText.digitsVal cs < 10 ^ n := by
  intro n
  induction n with
  | zero =>
    intro cs h _
    rw [List.length_eq_zero_iff.mp h]
    decide
  | succ n ih =>
    intro cs h hd
    have hne : cs ≠ [] := fun z => by rw [z] at h; cases h
    have e := List.dropLast_concat_getLast hne
    have hl : cs.dropLast.length = n := by rw [List.length_dropLast, h]; rfl
    have h1 := ih _ hl fun c hc => hd c ((List.dropLast_sublist cs).subset hc)
    have h2 := hd _ (List.getLast_mem hne)
    rw [← e, PySem.NumText.digitsVal_snoc, Nat.pow_succ]
    omega
theorem rmp_asc (a p : List Nat) : ∃ f, Txt.removeprefix (S a) (S p) = S f ∧ f.length ≤ a.length ∧ (a = p ++ f ∨ (f = a ∧ a.take p.length ≠ p)) := by
  by_cases h : a.take p.length = p
  · have e : p ++ a.drop p.length = a := by
      have := List.take_append_drop p.length a
      rw [h] at this
      exact this
    have hr := rmp_hit p (a.drop p.length)
    rw [e] at hr
    exact ⟨a.drop p.length, hr, by rw [List.length_drop]; omega, .inl e.symm⟩
  · exact ⟨a, rmp_miss h, Nat.le_refl _, .inr ⟨rfl, h⟩⟩
theorem num_text {a f : List Nat} (h : Asc a) (hf : a = [45] ++ f ∨ (f = a ∧ a.take 1 ≠ [45])) (hd : Txt.isdecimal (S f) = true) (hl : f.length ≤ 60) : a.length ≤ 61 ∧ ∃ i : Int, PySem.intText? (S a) = some i ∧ i.natAbs < 10 ^ 60 := by
  have hasc : Asc f := by
    rcases hf with e | ⟨e, _⟩
    · exact fun c hc => h c (by rw [e]; exact List.mem_append_right _ hc)
    · rw [e]
      exact h
  obtain ⟨h1, h2⟩ := isdec_inv hasc hd
  have hv := digitsVal_lt f.length f rfl h2
  have hv2 : PySem.NumText.digitsVal f < 10 ^ 60 := Nat.lt_of_lt_of_le hv (Nat.pow_le_pow_right (by decide) hl)
  rcases hf with e | ⟨e, _⟩
  · have hal : a.length = f.length + 1 := by rw [e, List.length_append]; exact Nat.add_comm _ _
    refine ⟨by omega, _, PySem.intText_neg (x := S a) (cs := f) (by rw [e]; rfl) h2 h1 (by rw [S_len]; omega), ?_⟩
    omega
  · subst e
    exact ⟨by omega, _, PySem.intText_digits (x := S f) h2 h1 (by rw [S_len]; omega), by
      have e : (S f).cps.toList = f := rfl
      rw [e]
      omega⟩
end

end
section
local macro_rules | `(tactic| walk_at "cond") => `(tactic| first | (with_reducible assumption) | decide | (show (0 : Int) < _; decide) | (exact ⟨by decide, by decide⟩) | (exact ⟨by decide, by decide, by decide⟩) | (exact ⟨by omega, by omega⟩) | (exact Or.inl ⟨by decide, by decide⟩) | (exact Or.inr ⟨by decide, by decide⟩) | (exact Or.inl ⟨by omega, by omega⟩) | (exact Or.inr ⟨by omega, by omega⟩) | omega)

local macro_rules | `(tactic| walk_at "seq") => `(tactic| first | (with_reducible assumption) | (exact sq_of (by with_reducible assumption)) | (exact st_of (by with_reducible assumption)) | (exact ex_l (by with_reducible assumption) (by with_reducible assumption)) | (exact ex_t (by with_reducible assumption) (by with_reducible assumption)))

local macro_rules | `(tactic| walk_at "rv") => `(tactic| first | (with_reducible exact rv_I0) | ((with_reducible apply rv_I); walk_at "cond") | ((with_reducible apply rv_eq); rfl) | ((with_reducible apply rv_ne); rfl) | (with_reducible exact rv_NT) | (with_reducible exact rv_isN) | ((with_reducible apply rv_add_str); walk_at "cond") | ((with_reducible apply rv_ixT); walk_at "seq"; rfl))

local macro_rules | `(tactic| walk_at "rc") => `(tactic| first | ((with_reducible apply rc_len); walk_at "seq") | ((with_reducible apply rc_lenT); walk_at "seq") | ((with_reducible apply rc_lenS); walk_at "cond") | (with_reducible exact rc_intB) | (with_reducible exact rc_typI) | ((with_reducible apply rc_strI); walk_at "cond") | (exact rc_isi tx_str kb_ss) | (exact rc_isi tx_int kb_ii) | (exact rc_isi tx_int kb_ib) | (exact rc_isi (tx_lst (by with_reducible assumption)) kb_ll) | (exact rc_isi (tx_tup (by with_reducible assumption)) kb_tt))

local macro_rules | `(tactic| walk_at "spv") => `(tactic| fail "no promise")

local macro_rules | `(tactic| walk_at "ea") => `(tactic| first | (with_reducible exact ea_nil) | ((with_reducible apply ea_cons); walk_at "ev"; walk_at "ea"))

local macro_rules | `(tactic| walk_at "eo") => `(tactic| first | (with_reducible exact eo_none) | ((with_reducible apply eo_some); walk_at "ev"))

local macro_rules | `(tactic| walk_at "ev") => `(tactic| first
  | (with_reducible exact ev_c)
  | ((with_reducible apply ev_var); rfl)
  | ((with_reducible apply ev_op); walk_at "ev"; walk_at "ev"; walk_at "rv")
  | ((with_reducible apply ev_cb); walk_at "ea"; walk_at "rc")
  | ((with_reducible apply ev_call); walk_at "ea"; walk_at "spv")
  | ((with_reducible apply ev_neg); walk_at "ev")
  | ((with_reducible apply ev_notV); walk_at "ev")
  | ((with_reducible apply ev_andV); walk_at "ev"; (intro _; walk_at "ev"))
  | ((with_reducible apply ev_orV); walk_at "ev"; (intro _; walk_at "ev")))

local macro_rules | `(tactic| walk_at "et") => `(tactic| first
  | ((with_reducible apply et_chain); walk_at "ev"; walk_at "ev"; walk_at "rv"; (intro _; walk_at "ev"); (intro _; walk_at "rv"))
  | ((with_reducible apply et_test); walk_at "ev")
  | ((with_reducible apply et_B); walk_at "ev")
  | ((with_reducible apply et_not); walk_at "et")
  | ((with_reducible apply et_or); walk_at "et"; (intro _; walk_at "et"))
  | ((with_reducible apply et_and); walk_at "et"; (intro _; walk_at "et")))

local macro_rules | `(tactic| walk_at "asg") => `(tactic| ((first | with_reducible apply q_asg | with_reducible apply s_asg); walk_at "ev"))

local macro_rules | `(tactic| walk_at "drop") => `(tactic| ((first | with_reducible apply q_drop | with_reducible apply s_drop); walk_at "ev"))

local macro_rules | `(tactic| walk_at "ret") => `(tactic| ((with_reducible apply s_retk); walk_at "ev"))

local macro_rules | `(tactic| walk_at "when") => `(tactic| ((first | with_reducible apply q_when | with_reducible apply s_when | with_reducible apply q_if | with_reducible apply s_if); walk_at "et"))

section
variable [TabCx]
/-- a def whose exceptions may have a context -/
theorem ok2x {P : Program} {w : World} {K : PySem.W.Frag} {mg : Str → Option Value} {base : Heap} {x qual : Str} {st : Stmt} {f : Addr} {fd : FuncData} {N ps : List Str} {k : Nat} {sp : Sp} (F : Fun K x qual st f fd) (S : FnScope N ps (defScope st)) (len : ∀ (vs : List V) (H : Hp) (Q : VK) (E : XK), sp vs H Q E → vs.length = ps.length)
    (body : ∀ (cdv : Value) (A : Around) (outer : List Env) (s : Shared) (H : Hp) (vs : List V) (Q : VK) (E : XK), Room k (A.deeper (PyProof.Rows.envOfC qual (defScope st) s.heap.objs.size f cdv)) → sp vs H Q E →
      ∃ t, PSs (cxOf (CX2 P w) P w K mg base N qual (defScope st) f cdv A outer s H E) (defBody st) t ∧ t { nx := fun _ H' => Q V.non H', rt := Q } (L2.start N vs) H) : FnOk P w K mg base (CX2 P w) (k + 1) f fd ps sp := by
  obtain ⟨oc, od, kV, doc, pm, an, cdv, ct, osl, rfl, lk, hcd⟩ := F.ex
  exact fn_of lk hcd S len (body cdv)
open PySem.Spec PyProof.Rows in
/-- X('m'), its record told -/
theorem pmk_own5 {X : Cx} {C : Addr} {bmB : List Value} {B newId initId : String} {x m : Str} {j : Nat} {p p2 pos : Pos} (F : ExcBaseFacts B newId initId bmB) (q : PySem.W.excIn X.K C bmB newId = true) (gC : X.mg x = some (.ref C)) (kC : PySem.W.keepIn X.K (.ref C) = true) (r : Raises X (.ref C)) (hg : Gl X x)
    (hdb : (x == ("__debug__" : Str)) = false := by decide) : L2H.PMk5 X (.Call (.Name x p) [.Constant (.str m) j p2] [] pos) (fun _ H Q => Q (.ref C) none H) := by
  intro pins s σ H Q I h
  refine wpAny_Call_Name_kw (ld_glob I hg gC ?_ hdb)
  have ha : PA X [.Constant (.str m) j p2] (tCons (tC (.str m)) tNil) := pa_cons pe_str pa_nil
  refine PySem.W.callWith_K (h₀ := X.base) I.ok.mod.kin kC (thn (ha.run pos pins s σ H (fun vs H1 => vs = [V.str m] ∧ H = H1) I ⟨rfl, rfl⟩) fun us s1 hh => ?_)
  obtain ⟨vs, H1, I1, r1, ev, eH⟩ := hh
  subst ev
  rw [← eH] at I1
  refine ⟨I1.kIn, ?_⟩
  cases r1 with
  | cons ru rn =>
    rename_i u us'
    cases rn
    show wpAny _ _ (call (.ref C) [u]) _ _ _
    obtain ⟨bm, N, nm, qn, bs, hdct, sn, sub, ab, col, dd, k0, k1, k2, k3, k5, mN, hC, hN, hni, T⟩ := exc_obj I1.kIn q
    refine wpAny_call_exc_subT F T hC hN hni (fun h' e hm => ?_) (by show 1 ≤ sizeLine; rw [sizeLine_eq]; omega)
    exact L2H.mk_of5 I1 hm r h (I1.hok.gone hm.new)
/-- a list of pairs made one by one, of whatever comes -/
theorem lcX {K : PySem.W.Frag} {σ : L2.St} {H : Hp} {tl te : TE} {j : TG} {a : Addr} {xs : List V} {vs : List Nat} {P : Int × Int → Prop} (h : Ev tl σ H (.ref a)) (hx : SqL K H a xs) (hz : xs.length ≤ 90000)
    (hj : ∀ x H1 Q, Ex H H1 → x ∈ xs → (∀ σ2, wipe σ2 vs = wipe σ vs → EvG te σ2 H1 (fun _ v B => ∃ p, rpT.R F0 B v p ∧ P p) → Q σ2 H1) → j x (wipe σ vs) H1 Q) :
    EvG (tLc (iList K tl) j tYes te vs) σ H (fun A v B => ∃ D as, v = .ref D ∧ A D = none ∧ LR rpT B D as ∧ as.length ≤ xs.length ∧ ∀ b ∈ as, P b) := fun H0 e Q qq => h H0 e _ fun H1 e1 => ⟨a, rfl, ⟨xs, ex_l (e.trans e1) hx⟩, fun Dl hD => by
  refine lc_list (xs := xs) (fun i H' => Ex H1 H' ∧ ∃ ys as, H' Dl = some (.lst ys) ∧ ys.length ≤ i ∧ PRF rpT F0 H' ys as ∧ ∀ b ∈ as, P b) ⟨Ex.new hD, [], [], upd_same, Nat.le_refl _, .nil, by simp⟩ (fun i H' _ p => ex_l ((e.trans e1).trans p.1) hx) (fun i x H' hi p => ?_) fun H' p => ?_
  · obtain ⟨p1, ys, as, p2, p3, p4, p5⟩ := p
    have hil : i < xs.length := (List.getElem?_eq_some_iff.mp hi).1
    refine hj x H' _ ((e.trans e1).trans p1) (List.mem_of_getElem? hi) fun σ2 hw hte => ⟨hw, ?_⟩
    show te σ2 H' _
    refine hte H' (.refl H') _ fun y H4 e4 ⟨b, ry, hb⟩ => ⟨ys, e4.k p2, sz_lt (by omega), Ex.mut (p1.trans e4) hD (e4.k p2), ys ++ [y], as ++ [b], upd_same, by rw [List.length_append]; exact Nat.succ_le_succ p3, ?_, fun c hc => ?_⟩
    · have hD4 : H4 Dl = some (.lst ys) := e4.k p2
      have q0 : PRF rpT F0 H4 ys as := pr_mono e4 p4
      have q1 : PRF rpT (F1 Dl) H4 ys as := q0
      have ry1 : rpT.R (F1 Dl) H4 y b := ry
      have q4 : PRF rpT (F1 Dl) H4 (ys ++ [y]) (as ++ [b]) := pr_app q1 (.cons ry1 .nil)
      have q5 : PRF rpT (F1 Dl) (upd H4 Dl (.lst (ys ++ [y]))) (ys ++ [y]) (as ++ [b]) := pr_lst (show F1 Dl Dl from rfl) hD4 q4
      exact q5
    · rcases List.mem_append.mp hc with z | z
      · exact p5 c z
      · rw [List.mem_singleton.mp z]
        exact hb
  · obtain ⟨p1, ys, as, p2, p3, p4, p5⟩ := p
    exact qq _ H' (e1.trans p1) ⟨Dl, as, rfl, fresh_back e1 hD, ⟨ys, p2, p4⟩, by rw [← p4.length]; exact p3, p5⟩⟩
end

end
local macro_rules | `(tactic| walk_at "cond") => `(tactic| first | (with_reducible assumption) | decide | (show (0 : Int) < _; decide) | (exact ⟨by decide, by decide⟩) | (exact ⟨by decide, by decide, by decide⟩) | (exact ⟨by omega, by omega⟩) | (exact Or.inl ⟨by decide, by decide⟩) | (exact Or.inr ⟨by decide, by decide⟩) | (exact Or.inl ⟨by omega, by omega⟩) | (exact Or.inr ⟨by omega, by omega⟩) | omega)

local macro_rules | `(tactic| walk_at "seq") => `(tactic| first | (with_reducible assumption) | (exact sq_of (by with_reducible assumption)) | (exact st_of (by with_reducible assumption)) | (exact ex_l (by with_reducible assumption) (by with_reducible assumption)) | (exact ex_t (by with_reducible assumption) (by with_reducible assumption)))

local macro_rules | `(tactic| walk_at "rv") => `(tactic| first | (with_reducible exact rv_I0) | ((with_reducible apply rv_I); walk_at "cond") | ((with_reducible apply rv_eq); rfl) | ((with_reducible apply rv_ne); rfl) | (with_reducible exact rv_NT) | (with_reducible exact rv_isN) | ((with_reducible apply rv_add_str); walk_at "cond") | ((with_reducible apply rv_ixT); walk_at "seq"; rfl))

local macro_rules | `(tactic| walk_at "rc") => `(tactic| first | ((with_reducible apply rc_len); walk_at "seq") | ((with_reducible apply rc_lenT); walk_at "seq") | ((with_reducible apply rc_lenS); walk_at "cond") | (with_reducible exact rc_intB) | (with_reducible exact rc_typI) | ((with_reducible apply rc_strI); walk_at "cond") | (exact rc_isi tx_str kb_ss) | (exact rc_isi tx_int kb_ii) | (exact rc_isi tx_int kb_ib) | (exact rc_isi (tx_lst (by with_reducible assumption)) kb_ll) | (exact rc_isi (tx_tup (by with_reducible assumption)) kb_tt))

local macro_rules | `(tactic| walk_at "spv") => `(tactic| fail "no promise")

local macro_rules | `(tactic| walk_at "ea") => `(tactic| first | (with_reducible exact ea_nil) | ((with_reducible apply ea_cons); walk_at "ev"; walk_at "ea"))

local macro_rules | `(tactic| walk_at "eo") => `(tactic| first | (with_reducible exact eo_none) | ((with_reducible apply eo_some); walk_at "ev"))

local macro_rules | `(tactic| walk_at "ev") => `(tactic| first
  | (with_reducible exact ev_c)
  | ((with_reducible apply ev_var); rfl)
  | ((with_reducible apply ev_op); walk_at "ev"; walk_at "ev"; walk_at "rv")
  | ((with_reducible apply ev_cb); walk_at "ea"; walk_at "rc")
  | ((with_reducible apply ev_call); walk_at "ea"; walk_at "spv")
  | ((with_reducible apply ev_neg); walk_at "ev")
  | ((with_reducible apply ev_notV); walk_at "ev")
  | ((with_reducible apply ev_andV); walk_at "ev"; (intro _; walk_at "ev"))
  | ((with_reducible apply ev_orV); walk_at "ev"; (intro _; walk_at "ev")))

local macro_rules | `(tactic| walk_at "et") => `(tactic| first
  | ((with_reducible apply et_chain); walk_at "ev"; walk_at "ev"; walk_at "rv"; (intro _; walk_at "ev"); (intro _; walk_at "rv"))
  | ((with_reducible apply et_test); walk_at "ev")
  | ((with_reducible apply et_B); walk_at "ev")
  | ((with_reducible apply et_not); walk_at "et")
  | ((with_reducible apply et_or); walk_at "et"; (intro _; walk_at "et"))
  | ((with_reducible apply et_and); walk_at "et"; (intro _; walk_at "et")))

local macro_rules | `(tactic| walk_at "asg") => `(tactic| ((first | with_reducible apply q_asg | with_reducible apply s_asg); walk_at "ev"))

local macro_rules | `(tactic| walk_at "drop") => `(tactic| ((first | with_reducible apply q_drop | with_reducible apply s_drop); walk_at "ev"))

local macro_rules | `(tactic| walk_at "ret") => `(tactic| ((with_reducible apply s_retk); walk_at "ev"))

local macro_rules | `(tactic| walk_at "when") => `(tactic| ((first | with_reducible apply q_when | with_reducible apply s_when | with_reducible apply q_if | with_reducible apply s_if); walk_at "et"))


local macro_rules | `(tactic| walk_at "ev") => `(tactic| ((with_reducible apply ev_slS); walk_at "ev"; walk_at "eo"; walk_at "eo"; walk_at "cond"))

def top (i : Nat) : Stmt := PySem.Challenge.pw_splitrooms_k12_read.main.body.getD i (.Pass ⟨0, 0, 0, 0⟩)
abbrev s_doubled : Stmt := top 8
abbrev n_doubled : List Str := ["board", "bits", "_"]
theorem sc_doubled : FnScope n_doubled ["board"] (defScope s_doubled) := ⟨rfl, rfl, rfl, by decide +kernel, rfl, by decide +kernel, by decide +kernel⟩
abbrev s_parted_at : Stmt := top 9
abbrev n_parted_at : List Str := ["board", "bits", "zeros_left", "told", "text"]
theorem sc_parted_at : FnScope n_parted_at ["board", "bits"] (defScope s_parted_at) := ⟨rfl, rfl, rfl, by decide +kernel, rfl, by decide +kernel, by decide +kernel⟩
abbrev s_check_name : Stmt := top 15
abbrev n_check_name : List Str := ["name"]
theorem sc_check_name : FnScope n_check_name ["name"] (defScope s_check_name) := ⟨rfl, rfl, rfl, by decide +kernel, rfl, by decide +kernel, by decide +kernel⟩
abbrev s_mixed : Stmt := top 16
abbrev n_mixed : List Str := ["name"]
theorem sc_mixed : FnScope n_mixed ["name"] (defScope s_mixed) := ⟨rfl, rfl, rfl, by decide +kernel, rfl, by decide +kernel, by decide +kernel⟩
abbrev s_signs : Stmt := top 17
abbrev n_signs : List Str := ["name", "by_twos"]
theorem sc_signs : FnScope n_signs ["name"] (defScope s_signs) := ⟨rfl, rfl, rfl, by decide +kernel, rfl, by decide +kernel, by decide +kernel⟩
abbrev s_with_thing : Stmt := top 19
abbrev n_with_thing : List Str := ["things", "name", "value", "ahead", "behind", "thing"]
theorem sc_with_thing : FnScope n_with_thing ["things", "name", "value"] (defScope s_with_thing) := ⟨rfl, rfl, rfl, by decide +kernel, rfl, by decide +kernel, by decide +kernel⟩
abbrev s_value_in : Stmt := top 20
abbrev n_value_in : List Str := ["things", "name", "held", "value"]
theorem sc_value_in : FnScope n_value_in ["things", "name"] (defScope s_value_in) := ⟨rfl, rfl, rfl, by decide +kernel, rfl, by decide +kernel, by decide +kernel⟩
abbrev s_next_sign : Stmt := top 21
abbrev n_next_sign : List Str := ["bits", "name", "at"]
theorem sc_next_sign : FnScope n_next_sign ["bits", "name"] (defScope s_next_sign) := ⟨rfl, rfl, rfl, by decide +kernel, rfl, by decide +kernel, by decide +kernel⟩
abbrev s_parted : Stmt := top 22
abbrev n_parted : List Str := ["room", "bits", "things", "zeros", "ones", "thing"]
theorem sc_parted : FnScope n_parted ["room"] (defScope s_parted) := ⟨rfl, rfl, rfl, by decide +kernel, rfl, by decide +kernel, by decide +kernel⟩
abbrev s_check_bound : Stmt := top 26
abbrev n_check_bound : List Str := ["bound"]
theorem sc_check_bound : FnScope n_check_bound ["bound"] (defScope s_check_bound) := ⟨rfl, rfl, rfl, by decide +kernel, rfl, by decide +kernel, by decide +kernel⟩
abbrev s_m___init__ : Stmt := inClass (top 27) 0
abbrev n_m___init__ : List Str := ["self", "bound"]
theorem sc_m___init__ : FnScope n_m___init__ ["self", "bound"] (defScope s_m___init__) := ⟨rfl, rfl, rfl, by decide +kernel, rfl, by decide +kernel, by decide +kernel⟩
abbrev s_m_put : Stmt := inClass (top 27) 1
abbrev n_m_put : List Str := ["self", "name", "value", "bits", "things", "before"]
theorem sc_m_put : FnScope n_m_put ["self", "name", "value"] (defScope s_m_put) := ⟨rfl, rfl, rfl, by decide +kernel, rfl, by decide +kernel, by decide +kernel⟩
abbrev s_m_board : Stmt := inClass (top 27) 7
abbrev n_m_board : List Str := ["self"]
theorem sc_m_board : FnScope n_m_board ["self"] (defScope s_m_board) := ⟨rfl, rfl, rfl, by decide +kernel, rfl, by decide +kernel, by decide +kernel⟩
abbrev s_m_rooms : Stmt := inClass (top 27) 8
abbrev n_m_rooms : List Str := ["self", "bits"]
theorem sc_m_rooms : FnScope n_m_rooms ["self"] (defScope s_m_rooms) := ⟨rfl, rfl, rfl, by decide +kernel, rfl, by decide +kernel, by decide +kernel⟩
abbrev s_m_things : Stmt := inClass (top 27) 9
abbrev n_m_things : List Str := ["self", "held", "things", "thing"]
theorem sc_m_things : FnScope n_m_things ["self"] (defScope s_m_things) := ⟨rfl, rfl, rfl, by decide +kernel, rfl, by decide +kernel, by decide +kernel⟩
abbrev s_m__place_of : Stmt := inClass (top 27) 10
abbrev n_m__place_of : List Str := ["self", "name"]
theorem sc_m__place_of : FnScope n_m__place_of ["self", "name"] (defScope s_m__place_of) := ⟨rfl, rfl, rfl, by decide +kernel, rfl, by decide +kernel, by decide +kernel⟩
abbrev s_m__bits_of : Stmt := inClass (top 27) 11
abbrev n_m__bits_of : List Str := ["self", "name"]
theorem sc_m__bits_of : FnScope n_m__bits_of ["self", "name"] (defScope s_m__bits_of) := ⟨rfl, rfl, rfl, by decide +kernel, rfl, by decide +kernel, by decide +kernel⟩
abbrev s_m__part_for : Stmt := inClass (top 27) 12
abbrev n_m__part_for : List Str := ["self", "name", "bits"]
theorem sc_m__part_for : FnScope n_m__part_for ["self", "name"] (defScope s_m__part_for) := ⟨rfl, rfl, rfl, by decide +kernel, rfl, by decide +kernel, by decide +kernel⟩
abbrev s_m__part : Stmt := inClass (top 27) 13
abbrev n_m__part : List Str := ["self", "bits", "halves", "half", "things"]
theorem sc_m__part : FnScope n_m__part ["self", "bits"] (defScope s_m__part) := ⟨rfl, rfl, rfl, by decide +kernel, rfl, by decide +kernel, by decide +kernel⟩
abbrev s_written : Stmt := top 31
abbrev n_written : List Str := ["store", "rows", "bits", "things"]
theorem sc_written : FnScope n_written ["store"] (defScope s_written) := ⟨rfl, rfl, rfl, by decide +kernel, rfl, by decide +kernel, by decide +kernel⟩
abbrev s_row_of : Stmt := top 32
abbrev n_row_of : List Str := ["bits", "things", "words", "name", "value"]
theorem sc_row_of : FnScope n_row_of ["bits", "things"] (defScope s_row_of) := ⟨rfl, rfl, rfl, by decide +kernel, rfl, by decide +kernel, by decide +kernel⟩
abbrev s_read : Stmt := top 33
abbrev n_read : List Str := ["text", "head", "rows", "store", "row", "name", "value"]
theorem sc_read : FnScope n_read ["text"] (defScope s_read) := ⟨rfl, rfl, rfl, by decide +kernel, rfl, by decide +kernel, by decide +kernel⟩
abbrev s_things_in : Stmt := top 34
abbrev n_things_in : List Str := ["row", "words", "parts", "word", "name", "_", "value"]
theorem sc_things_in : FnScope n_things_in ["row"] (defScope s_things_in) := ⟨rfl, rfl, rfl, by decide +kernel, rfl, by decide +kernel, by decide +kernel⟩
abbrev s_number_in : Stmt := top 35
abbrev n_number_in : List Str := ["word", "figures"]
theorem sc_number_in : FnScope n_number_in ["word"] (defScope s_number_in) := ⟨rfl, rfl, rfl, by decide +kernel, rfl, by decide +kernel, by decide +kernel⟩
abbrev s_l_whole : Stmt := top 37
abbrev n_l_whole : List Str := ["_law_found"]
theorem sc_l_whole : FnScope n_l_whole ["_law_found"] (defScope s_l_whole) := ⟨rfl, rfl, rfl, by decide +kernel, rfl, by decide +kernel, by decide +kernel⟩
abbrev s_l_cell_at : Stmt := top 38
abbrev n_l_cell_at : List Str := ["_law_script", "_law_k"]
theorem sc_l_cell_at : FnScope n_l_cell_at ["_law_script", "_law_k"] (defScope s_l_cell_at) := ⟨rfl, rfl, rfl, by decide +kernel, rfl, by decide +kernel, by decide +kernel⟩
abbrev s_l_signs : Stmt := top 39
abbrev n_l_signs : List Str := ["_law_name", "_law_left", "_law_found", "_law_worth"]
theorem sc_l_signs : FnScope n_l_signs ["_law_name"] (defScope s_l_signs) := ⟨rfl, rfl, rfl, by decide +kernel, rfl, by decide +kernel, by decide +kernel⟩
abbrev s_l_text : Stmt := top 40
abbrev n_l_text : List Str := ["_law_plain", "_law_bound", "_law_rows", "_law_waiting", "_law_bits", "_law_inside", "_law_low", "_law_high", "_law_one"]
theorem sc_l_text : FnScope n_l_text ["_law_plain", "_law_bound"] (defScope s_l_text) := ⟨rfl, rfl, rfl, by decide +kernel, rfl, by decide +kernel, by decide +kernel⟩
abbrev s_l_number : Stmt := top 41
abbrev n_l_number : List Str := ["_law_word", "_law_figures", "_law_sign"]
theorem sc_l_number : FnScope n_l_number ["_law_word"] (defScope s_l_number) := ⟨rfl, rfl, rfl, by decide +kernel, rfl, by decide +kernel, by decide +kernel⟩
abbrev s_l_read : Stmt := top 42
abbrev n_l_read : List Str := ["_law_text_here", "_law_rows", "_law_bound", "_law_plain", "_law_row", "_law_word", "_law_pair", "_law_one"]
theorem sc_l_read : FnScope n_l_read ["_law_text_here"] (defScope s_l_read) := ⟨rfl, rfl, rfl, by decide +kernel, rfl, by decide +kernel, by decide +kernel⟩
abbrev s_l_odd : Stmt := top 43
abbrev n_l_odd : List Str := ["_law_cell", "_law_some"]
theorem sc_l_odd : FnScope n_l_odd ["_law_cell"] (defScope s_l_odd) := ⟨rfl, rfl, rfl, by decide +kernel, rfl, by decide +kernel, by decide +kernel⟩
abbrev s_l_changed : Stmt := top 44
abbrev n_l_changed : List Str := ["_law_text_here", "_law_cell", "_law_other", "_law_at", "_law_some", "_law_sign", "_law_rows", "_law_first", "_law_second", "_law_kept", "_law_figures"]
theorem sc_l_changed : FnScope n_l_changed ["_law_text_here", "_law_cell", "_law_other"] (defScope s_l_changed) := ⟨rfl, rfl, rfl, by decide +kernel, rfl, by decide +kernel, by decide +kernel⟩
abbrev s_l_alone : Stmt := top 45
abbrev n_l_alone : List Str := ["_law_e", "_law_which", "_law_kinds", "_law_k"]
theorem sc_l_alone : FnScope n_l_alone ["_law_e", "_law_which"] (defScope s_l_alone) := ⟨rfl, rfl, rfl, by decide +kernel, rfl, by decide +kernel, by decide +kernel⟩
abbrev s_l_refused : Stmt := top 46
abbrev n_l_refused : List Str := ["_law_text_here", "_law_told", "_law_e"]
theorem sc_l_refused : FnScope n_l_refused ["_law_text_here"] (defScope s_l_refused) := ⟨rfl, rfl, rfl, by decide +kernel, rfl, by decide +kernel, by decide +kernel⟩
abbrev s_law : Stmt := top 47
abbrev n_law : List Str := ["_law_script", "_law_bound", "_law_frame", "_law_many", "_law_plain", "_law_k", "_law_more", "_law_name", "_law_text_here", "_law_due", "_law_found"]
theorem sc_law : FnScope n_law ["_law_script"] (defScope s_law) := ⟨rfl, rfl, rfl, by decide +kernel, rfl, by decide +kernel, by decide +kernel⟩
def lq_things : Str := Str.ofString "Store.things" ++ Str.ofString ".<locals>." ++ Str.ofString "<lambda>"
/-- the table in which a lambda's code goes -/
def tabC (K : PySem.W.Frag) (c : Addr) : Option Addr := match K.lookup c with
  | some ⟨_, _, .fields vs, _⟩ => (match (vs[11]? : Option Value) with
    | some (.ref P) => some P
    | _ => none)
  | _ => none
structure DefAt (K : PySem.W.Frag) (mg : Str → Option Value) (x : Str) (st : Stmt) (ps : List Str) where
  a : Addr
  fd : FuncData
  F : Fun K x x st a fd
  g : mg x = some (.ref a)
  b : Binds K fd ps []
structure MethAt (K : PySem.W.Frag) (C : Addr) (x q : Str) (st : Stmt) (ps : List Str) where
  a : Addr
  fd : FuncData
  F : Fun K x q st a fd
  M : Meth K C x a
  b : Binds K fd ps []
structure ClsAt (K : PySem.W.Frag) (mg : Str → Option Value) where
  a : Addr
  g : mg "Store" = some (.ref a)
  cl : Cls K a
  bound : NoAttr K a "bound"
  rooms : NoAttr K a "_rooms"
  board : NoAttr K a "_board"
  depth : NoAttr K a "_depth"
  mkI : PySem.W.makesIn K a = true
  kpI : PySem.W.keepIn K (.ref a) = true
structure LamAt (K : PySem.W.Frag) (x q : Str) (st : Stmt) (a : Addr) (fd : FuncData) where
  c : Addr
  P : Addr
  L : ∃ (oc : Value) (od : Option Addr) (kV doc pm : Value) (an : Option Addr) (ct : Value) (osl : Array (Option Value)), fd = PySem.W.fnOf x q (defArgs st) (defBody st) (defScope st) .none kV doc pm an (.ref c) ct ∧ K.lookup a = some ⟨oc, od, .func fd, osl⟩ ∧ PySem.W.codeIn K (.ref c) q = true
structure ExcAt (K : PySem.W.Frag) (mg : Str → Option Value) (n : Str) (ch : List Value) where
  a : Addr
  g : mg n = some (.ref a)
  x : PySem.W.excIn K a ch "ValueError.__new__" = true
  kc : PySem.W.keepIn K (.ref a) = true
  bc : PySem.W.subIn K (.ref a) (.type "BaseException") = some true
  tc : PySem.W.typeIn K (.ref a) = some (.type "type")
set_option maxHeartbeats 4000000 in
structure Top (K : PySem.W.Frag) (mg : Str → Option Value) where
  a_RoomError : Addr
  g_RoomError : mg "RoomError" = some (.ref a_RoomError)
  d_BadName : ExcAt K mg "BadName" [.type "ValueError", .type "Exception", .type "BaseException", .type "object"]
  d_BadBound : ExcAt K mg "BadBound" [.type "ValueError", .type "Exception", .type "BaseException", .type "object"]
  a_NoThing : Addr
  g_NoThing : mg "NoThing" = some (.ref a_NoThing)
  d_NoStore : ExcAt K mg "NoStore" [.type "ValueError", .type "Exception", .type "BaseException", .type "object"]
  d_doubled : DefAt K mg "doubled" s_doubled ["board"]
  d_parted_at : DefAt K mg "parted_at" s_parted_at ["board", "bits"]
  c_SIGNS : {t : Tok // mg "SIGNS" = some (.int 8 t)}
  c_NAMES : {t : Tok // mg "NAMES" = some (.int 256 t)}
  c_FACTOR : {t : Tok // mg "FACTOR" = some (.int 171 t)}
  c_SHIFT : {t : Tok // mg "SHIFT" = some (.int 37 t)}
  d_check_name : DefAt K mg "check_name" s_check_name ["name"]
  d_mixed : DefAt K mg "mixed" s_mixed ["name"]
  d_signs : DefAt K mg "signs" s_signs ["name"]
  d_with_thing : DefAt K mg "with_thing" s_with_thing ["things", "name", "value"]
  d_value_in : DefAt K mg "value_in" s_value_in ["things", "name"]
  d_next_sign : DefAt K mg "next_sign" s_next_sign ["bits", "name"]
  d_parted : DefAt K mg "parted" s_parted ["room"]
  c_LEAST_BOUND : {t : Tok // mg "LEAST_BOUND" = some (.int 1 t)}
  c_GREATEST_BOUND : {t : Tok // mg "GREATEST_BOUND" = some (.int 64 t)}
  d_check_bound : DefAt K mg "check_bound" s_check_bound ["bound"]
  d_Store : ClsAt K mg
  d_m___init__ : MethAt K d_Store.a "__init__" "Store.__init__" s_m___init__ ["self", "bound"]
  d_m_put : MethAt K d_Store.a "put" "Store.put" s_m_put ["self", "name", "value"]
  d_m_board : MethAt K d_Store.a "board" "Store.board" s_m_board ["self"]
  d_m_rooms : MethAt K d_Store.a "rooms" "Store.rooms" s_m_rooms ["self"]
  d_m_things : MethAt K d_Store.a "things" "Store.things" s_m_things ["self"]
  d_m__place_of : MethAt K d_Store.a "_place_of" "Store._place_of" s_m__place_of ["self", "name"]
  d_m__bits_of : MethAt K d_Store.a "_bits_of" "Store._bits_of" s_m__bits_of ["self", "name"]
  d_m__part_for : MethAt K d_Store.a "_part_for" "Store._part_for" s_m__part_for ["self", "name"]
  d_m__part : MethAt K d_Store.a "_part" "Store._part" s_m__part ["self", "bits"]
  c_BOUND_WORD : {t : Tok // mg "BOUND_WORD" = some (.str "bound " t)}
  c_FIGURES : {t : Tok // mg "FIGURES" = some (.int 60 t)}
  d_written : DefAt K mg "written" s_written ["store"]
  d_row_of : DefAt K mg "row_of" s_row_of ["bits", "things"]
  d_read : DefAt K mg "read" s_read ["text"]
  d_things_in : DefAt K mg "things_in" s_things_in ["row"]
  d_number_in : DefAt K mg "number_in" s_number_in ["word"]
  d_l_whole : DefAt K mg "_law_whole" s_l_whole ["_law_found"]
  d_l_cell_at : DefAt K mg "_law_cell_at" s_l_cell_at ["_law_script", "_law_k"]
  d_l_signs : DefAt K mg "_law_signs" s_l_signs ["_law_name"]
  d_l_text : DefAt K mg "_law_text" s_l_text ["_law_plain", "_law_bound"]
  d_l_number : DefAt K mg "_law_number" s_l_number ["_law_word"]
  d_l_read : DefAt K mg "_law_read" s_l_read ["_law_text_here"]
  d_l_odd : DefAt K mg "_law_odd" s_l_odd ["_law_cell"]
  d_l_changed : DefAt K mg "_law_changed" s_l_changed ["_law_text_here", "_law_cell", "_law_other"]
  d_l_alone : DefAt K mg "_law_alone" s_l_alone ["_law_e", "_law_which"]
  d_l_refused : DefAt K mg "_law_refused" s_l_refused ["_law_text_here"]
  d_law : DefAt K mg "law" s_law ["_law_script"]
  z_ValueError : mg "ValueError" = none
  z_bool : mg "bool" = none
  z_int : mg "int" = none
  z_isinstance : mg "isinstance" = none
  z_len : mg "len" = none
  z_list : mg "list" = none
  z_range : mg "range" = none
  z_sorted : mg "sorted" = none
  z_str : mg "str" = none
  z_type : mg "type" = none
  t_m_things : LamAt K "things" "Store.things" s_m_things d_m_things.a d_m_things.fd
  X_NoStore : L2.ExcC K d_NoStore.a
  k_NoStore_BadName : PySem.W.kitOne K (.ref d_NoStore.a) (.ref d_BadName.a) = some false
  k_NoStore_BadBound : PySem.W.kitOne K (.ref d_NoStore.a) (.ref d_BadBound.a) = some false
  k_NoStore_NoStore : PySem.W.kitOne K (.ref d_NoStore.a) (.ref d_NoStore.a) = some true
  k_NoStore_NoThing : PySem.W.kitOne K (.ref d_NoStore.a) (.ref a_NoThing) = some false
  k_NoStore_ValueError : PySem.W.kitOne K (.ref d_NoStore.a) (.type "ValueError") = some true
  e_NoStore_NoStore : PySem.W.exmOne K (.ref d_NoStore.a) (.ref d_NoStore.a) = some true
  e_NoStore_RoomError : PySem.W.exmOne K (.ref d_NoStore.a) (.ref a_RoomError) = some true
  m_BadName : PySem.W.exmAny K (.ref d_BadName.a) [.ref d_BadBound.a, .ref d_BadName.a] = some true
  m_BadBound : PySem.W.exmAny K (.ref d_BadBound.a) [.ref d_BadBound.a, .ref d_BadName.a] = some true
  m_NoStore : PySem.W.exmAny K (.ref d_NoStore.a) [.ref d_BadBound.a, .ref d_BadName.a] = some false
  k_Store_Store : PySem.W.kitOne K (.ref d_Store.a) (.ref d_Store.a) = some true
  y_a : PySem.W.findIn K (.ref d_Store.a) "__class__" = some (some (.builtin "object.__class__"))
  y_b : PySem.W.specialIn K (.builtin "object.__class__") "__get__" = some (some (.builtin "getset_descriptor.__get__"))
  y_c : PySem.W.takesIn K (.builtin "object.__class__") = some true
  y_d : PySem.W.mroIn K d_Store.a (.type "object") = some true
section
variable {K : PySem.W.Frag} {mg : Str → Option Value}
abbrev Top.a_BadName (T : Top K mg) := T.d_BadName.a
abbrev Top.g_BadName (T : Top K mg) := T.d_BadName.g
abbrev Top.x_BadName (T : Top K mg) := T.d_BadName.x
abbrev Top.kc_BadName (T : Top K mg) := T.d_BadName.kc
abbrev Top.bc_BadName (T : Top K mg) := T.d_BadName.bc
abbrev Top.tc_BadName (T : Top K mg) := T.d_BadName.tc
abbrev Top.a_BadBound (T : Top K mg) := T.d_BadBound.a
abbrev Top.g_BadBound (T : Top K mg) := T.d_BadBound.g
abbrev Top.x_BadBound (T : Top K mg) := T.d_BadBound.x
abbrev Top.kc_BadBound (T : Top K mg) := T.d_BadBound.kc
abbrev Top.bc_BadBound (T : Top K mg) := T.d_BadBound.bc
abbrev Top.tc_BadBound (T : Top K mg) := T.d_BadBound.tc
abbrev Top.a_NoStore (T : Top K mg) := T.d_NoStore.a
abbrev Top.g_NoStore (T : Top K mg) := T.d_NoStore.g
abbrev Top.x_NoStore (T : Top K mg) := T.d_NoStore.x
abbrev Top.kc_NoStore (T : Top K mg) := T.d_NoStore.kc
abbrev Top.bc_NoStore (T : Top K mg) := T.d_NoStore.bc
abbrev Top.tc_NoStore (T : Top K mg) := T.d_NoStore.tc
abbrev Top.a_doubled (T : Top K mg) := T.d_doubled.a
abbrev Top.fd_doubled (T : Top K mg) := T.d_doubled.fd
abbrev Top.F_doubled (T : Top K mg) := T.d_doubled.F
abbrev Top.g_doubled (T : Top K mg) := T.d_doubled.g
abbrev Top.b_doubled (T : Top K mg) := T.d_doubled.b
abbrev Top.a_parted_at (T : Top K mg) := T.d_parted_at.a
abbrev Top.fd_parted_at (T : Top K mg) := T.d_parted_at.fd
abbrev Top.F_parted_at (T : Top K mg) := T.d_parted_at.F
abbrev Top.g_parted_at (T : Top K mg) := T.d_parted_at.g
abbrev Top.b_parted_at (T : Top K mg) := T.d_parted_at.b
abbrev Top.a_check_name (T : Top K mg) := T.d_check_name.a
abbrev Top.fd_check_name (T : Top K mg) := T.d_check_name.fd
abbrev Top.F_check_name (T : Top K mg) := T.d_check_name.F
abbrev Top.g_check_name (T : Top K mg) := T.d_check_name.g
abbrev Top.b_check_name (T : Top K mg) := T.d_check_name.b
abbrev Top.a_mixed (T : Top K mg) := T.d_mixed.a
abbrev Top.fd_mixed (T : Top K mg) := T.d_mixed.fd
abbrev Top.F_mixed (T : Top K mg) := T.d_mixed.F
abbrev Top.g_mixed (T : Top K mg) := T.d_mixed.g
abbrev Top.b_mixed (T : Top K mg) := T.d_mixed.b
abbrev Top.a_signs (T : Top K mg) := T.d_signs.a
abbrev Top.fd_signs (T : Top K mg) := T.d_signs.fd
abbrev Top.F_signs (T : Top K mg) := T.d_signs.F
abbrev Top.g_signs (T : Top K mg) := T.d_signs.g
abbrev Top.b_signs (T : Top K mg) := T.d_signs.b
abbrev Top.a_with_thing (T : Top K mg) := T.d_with_thing.a
abbrev Top.fd_with_thing (T : Top K mg) := T.d_with_thing.fd
abbrev Top.F_with_thing (T : Top K mg) := T.d_with_thing.F
abbrev Top.g_with_thing (T : Top K mg) := T.d_with_thing.g
abbrev Top.b_with_thing (T : Top K mg) := T.d_with_thing.b
abbrev Top.a_value_in (T : Top K mg) := T.d_value_in.a
abbrev Top.fd_value_in (T : Top K mg) := T.d_value_in.fd
abbrev Top.F_value_in (T : Top K mg) := T.d_value_in.F
abbrev Top.g_value_in (T : Top K mg) := T.d_value_in.g
abbrev Top.b_value_in (T : Top K mg) := T.d_value_in.b
abbrev Top.a_next_sign (T : Top K mg) := T.d_next_sign.a
abbrev Top.fd_next_sign (T : Top K mg) := T.d_next_sign.fd
abbrev Top.F_next_sign (T : Top K mg) := T.d_next_sign.F
abbrev Top.g_next_sign (T : Top K mg) := T.d_next_sign.g
abbrev Top.b_next_sign (T : Top K mg) := T.d_next_sign.b
abbrev Top.a_parted (T : Top K mg) := T.d_parted.a
abbrev Top.fd_parted (T : Top K mg) := T.d_parted.fd
abbrev Top.F_parted (T : Top K mg) := T.d_parted.F
abbrev Top.g_parted (T : Top K mg) := T.d_parted.g
abbrev Top.b_parted (T : Top K mg) := T.d_parted.b
abbrev Top.a_check_bound (T : Top K mg) := T.d_check_bound.a
abbrev Top.fd_check_bound (T : Top K mg) := T.d_check_bound.fd
abbrev Top.F_check_bound (T : Top K mg) := T.d_check_bound.F
abbrev Top.g_check_bound (T : Top K mg) := T.d_check_bound.g
abbrev Top.b_check_bound (T : Top K mg) := T.d_check_bound.b
abbrev Top.a_Store (T : Top K mg) := T.d_Store.a
abbrev Top.g_Store (T : Top K mg) := T.d_Store.g
abbrev Top.cl_Store (T : Top K mg) := T.d_Store.cl
abbrev Top.a_m___init__ (T : Top K mg) := T.d_m___init__.a
abbrev Top.fd_m___init__ (T : Top K mg) := T.d_m___init__.fd
abbrev Top.F_m___init__ (T : Top K mg) := T.d_m___init__.F
abbrev Top.M_m___init__ (T : Top K mg) := T.d_m___init__.M
abbrev Top.b_m___init__ (T : Top K mg) := T.d_m___init__.b
theorem Top.mk_Store (T : Top K mg) : Mk K T.d_Store.a T.d_m___init__.a := ⟨T.d_Store.mkI, T.d_m___init__.M.at_, T.d_m___init__.M.fn, T.d_Store.kpI⟩
abbrev Top.a_m_put (T : Top K mg) := T.d_m_put.a
abbrev Top.fd_m_put (T : Top K mg) := T.d_m_put.fd
abbrev Top.F_m_put (T : Top K mg) := T.d_m_put.F
abbrev Top.M_m_put (T : Top K mg) := T.d_m_put.M
abbrev Top.b_m_put (T : Top K mg) := T.d_m_put.b
abbrev Top.a_m_board (T : Top K mg) := T.d_m_board.a
abbrev Top.fd_m_board (T : Top K mg) := T.d_m_board.fd
abbrev Top.F_m_board (T : Top K mg) := T.d_m_board.F
abbrev Top.M_m_board (T : Top K mg) := T.d_m_board.M
abbrev Top.b_m_board (T : Top K mg) := T.d_m_board.b
abbrev Top.a_m_rooms (T : Top K mg) := T.d_m_rooms.a
abbrev Top.fd_m_rooms (T : Top K mg) := T.d_m_rooms.fd
abbrev Top.F_m_rooms (T : Top K mg) := T.d_m_rooms.F
abbrev Top.M_m_rooms (T : Top K mg) := T.d_m_rooms.M
abbrev Top.b_m_rooms (T : Top K mg) := T.d_m_rooms.b
abbrev Top.a_m_things (T : Top K mg) := T.d_m_things.a
abbrev Top.fd_m_things (T : Top K mg) := T.d_m_things.fd
abbrev Top.F_m_things (T : Top K mg) := T.d_m_things.F
abbrev Top.M_m_things (T : Top K mg) := T.d_m_things.M
abbrev Top.b_m_things (T : Top K mg) := T.d_m_things.b
abbrev Top.a_m__place_of (T : Top K mg) := T.d_m__place_of.a
abbrev Top.fd_m__place_of (T : Top K mg) := T.d_m__place_of.fd
abbrev Top.F_m__place_of (T : Top K mg) := T.d_m__place_of.F
abbrev Top.M_m__place_of (T : Top K mg) := T.d_m__place_of.M
abbrev Top.b_m__place_of (T : Top K mg) := T.d_m__place_of.b
abbrev Top.a_m__bits_of (T : Top K mg) := T.d_m__bits_of.a
abbrev Top.fd_m__bits_of (T : Top K mg) := T.d_m__bits_of.fd
abbrev Top.F_m__bits_of (T : Top K mg) := T.d_m__bits_of.F
abbrev Top.M_m__bits_of (T : Top K mg) := T.d_m__bits_of.M
abbrev Top.b_m__bits_of (T : Top K mg) := T.d_m__bits_of.b
abbrev Top.a_m__part_for (T : Top K mg) := T.d_m__part_for.a
abbrev Top.fd_m__part_for (T : Top K mg) := T.d_m__part_for.fd
abbrev Top.F_m__part_for (T : Top K mg) := T.d_m__part_for.F
abbrev Top.M_m__part_for (T : Top K mg) := T.d_m__part_for.M
abbrev Top.b_m__part_for (T : Top K mg) := T.d_m__part_for.b
abbrev Top.a_m__part (T : Top K mg) := T.d_m__part.a
abbrev Top.fd_m__part (T : Top K mg) := T.d_m__part.fd
abbrev Top.F_m__part (T : Top K mg) := T.d_m__part.F
abbrev Top.M_m__part (T : Top K mg) := T.d_m__part.M
abbrev Top.b_m__part (T : Top K mg) := T.d_m__part.b
abbrev Top.a_written (T : Top K mg) := T.d_written.a
abbrev Top.fd_written (T : Top K mg) := T.d_written.fd
abbrev Top.F_written (T : Top K mg) := T.d_written.F
abbrev Top.g_written (T : Top K mg) := T.d_written.g
abbrev Top.b_written (T : Top K mg) := T.d_written.b
abbrev Top.a_row_of (T : Top K mg) := T.d_row_of.a
abbrev Top.fd_row_of (T : Top K mg) := T.d_row_of.fd
abbrev Top.F_row_of (T : Top K mg) := T.d_row_of.F
abbrev Top.g_row_of (T : Top K mg) := T.d_row_of.g
abbrev Top.b_row_of (T : Top K mg) := T.d_row_of.b
abbrev Top.a_read (T : Top K mg) := T.d_read.a
abbrev Top.fd_read (T : Top K mg) := T.d_read.fd
abbrev Top.F_read (T : Top K mg) := T.d_read.F
abbrev Top.g_read (T : Top K mg) := T.d_read.g
abbrev Top.b_read (T : Top K mg) := T.d_read.b
abbrev Top.a_things_in (T : Top K mg) := T.d_things_in.a
abbrev Top.fd_things_in (T : Top K mg) := T.d_things_in.fd
abbrev Top.F_things_in (T : Top K mg) := T.d_things_in.F
abbrev Top.g_things_in (T : Top K mg) := T.d_things_in.g
abbrev Top.b_things_in (T : Top K mg) := T.d_things_in.b
abbrev Top.a_number_in (T : Top K mg) := T.d_number_in.a
abbrev Top.fd_number_in (T : Top K mg) := T.d_number_in.fd
abbrev Top.F_number_in (T : Top K mg) := T.d_number_in.F
abbrev Top.g_number_in (T : Top K mg) := T.d_number_in.g
abbrev Top.b_number_in (T : Top K mg) := T.d_number_in.b
abbrev Top.a_l_whole (T : Top K mg) := T.d_l_whole.a
abbrev Top.fd_l_whole (T : Top K mg) := T.d_l_whole.fd
abbrev Top.F_l_whole (T : Top K mg) := T.d_l_whole.F
abbrev Top.g_l_whole (T : Top K mg) := T.d_l_whole.g
abbrev Top.b_l_whole (T : Top K mg) := T.d_l_whole.b
abbrev Top.a_l_cell_at (T : Top K mg) := T.d_l_cell_at.a
abbrev Top.fd_l_cell_at (T : Top K mg) := T.d_l_cell_at.fd
abbrev Top.F_l_cell_at (T : Top K mg) := T.d_l_cell_at.F
abbrev Top.g_l_cell_at (T : Top K mg) := T.d_l_cell_at.g
abbrev Top.b_l_cell_at (T : Top K mg) := T.d_l_cell_at.b
abbrev Top.a_l_signs (T : Top K mg) := T.d_l_signs.a
abbrev Top.fd_l_signs (T : Top K mg) := T.d_l_signs.fd
abbrev Top.F_l_signs (T : Top K mg) := T.d_l_signs.F
abbrev Top.g_l_signs (T : Top K mg) := T.d_l_signs.g
abbrev Top.b_l_signs (T : Top K mg) := T.d_l_signs.b
abbrev Top.a_l_text (T : Top K mg) := T.d_l_text.a
abbrev Top.fd_l_text (T : Top K mg) := T.d_l_text.fd
abbrev Top.F_l_text (T : Top K mg) := T.d_l_text.F
abbrev Top.g_l_text (T : Top K mg) := T.d_l_text.g
abbrev Top.b_l_text (T : Top K mg) := T.d_l_text.b
abbrev Top.a_l_number (T : Top K mg) := T.d_l_number.a
abbrev Top.fd_l_number (T : Top K mg) := T.d_l_number.fd
abbrev Top.F_l_number (T : Top K mg) := T.d_l_number.F
abbrev Top.g_l_number (T : Top K mg) := T.d_l_number.g
abbrev Top.b_l_number (T : Top K mg) := T.d_l_number.b
abbrev Top.a_l_read (T : Top K mg) := T.d_l_read.a
abbrev Top.fd_l_read (T : Top K mg) := T.d_l_read.fd
abbrev Top.F_l_read (T : Top K mg) := T.d_l_read.F
abbrev Top.g_l_read (T : Top K mg) := T.d_l_read.g
abbrev Top.b_l_read (T : Top K mg) := T.d_l_read.b
abbrev Top.a_l_odd (T : Top K mg) := T.d_l_odd.a
abbrev Top.fd_l_odd (T : Top K mg) := T.d_l_odd.fd
abbrev Top.F_l_odd (T : Top K mg) := T.d_l_odd.F
abbrev Top.g_l_odd (T : Top K mg) := T.d_l_odd.g
abbrev Top.b_l_odd (T : Top K mg) := T.d_l_odd.b
abbrev Top.a_l_changed (T : Top K mg) := T.d_l_changed.a
abbrev Top.fd_l_changed (T : Top K mg) := T.d_l_changed.fd
abbrev Top.F_l_changed (T : Top K mg) := T.d_l_changed.F
abbrev Top.g_l_changed (T : Top K mg) := T.d_l_changed.g
abbrev Top.b_l_changed (T : Top K mg) := T.d_l_changed.b
abbrev Top.a_l_alone (T : Top K mg) := T.d_l_alone.a
abbrev Top.fd_l_alone (T : Top K mg) := T.d_l_alone.fd
abbrev Top.F_l_alone (T : Top K mg) := T.d_l_alone.F
abbrev Top.g_l_alone (T : Top K mg) := T.d_l_alone.g
abbrev Top.b_l_alone (T : Top K mg) := T.d_l_alone.b
abbrev Top.a_l_refused (T : Top K mg) := T.d_l_refused.a
abbrev Top.fd_l_refused (T : Top K mg) := T.d_l_refused.fd
abbrev Top.F_l_refused (T : Top K mg) := T.d_l_refused.F
abbrev Top.g_l_refused (T : Top K mg) := T.d_l_refused.g
abbrev Top.b_l_refused (T : Top K mg) := T.d_l_refused.b
abbrev Top.a_law (T : Top K mg) := T.d_law.a
abbrev Top.fd_law (T : Top K mg) := T.d_law.fd
abbrev Top.F_law (T : Top K mg) := T.d_law.F
abbrev Top.g_law (T : Top K mg) := T.d_law.g
abbrev Top.b_law (T : Top K mg) := T.d_law.b
abbrev Top.c_m_things (T : Top K mg) := T.t_m_things.c
abbrev Top.P_m_things (T : Top K mg) := T.t_m_things.P
abbrev Top.L_m_things (T : Top K mg) := T.t_m_things.L
end
/-- what is known of the tables -/
structure Tabs {K : PySem.W.Frag} {mg : Str → Option Value} (base : Heap) (T : Top K mg) [TabCx] : Prop where
  things : LamX.TabB base mg T.c_m_things T.P_m_things ∧ (T.P_m_things, lq_things) ∈ TabCx.T
/-! ### mixed names and signs, of names -/
section
variable {P : Program} {w : World} {K : PySem.W.Frag} {mg : Str → Option Value} {base : Heap} [TabCx]
def spCheck : Sp := fun vs H Q _ => ∃ n : Int, vs = [.int n] ∧ (0 ≤ n ∧ n < 256) ∧ RetV .non H Q
theorem ok_check_name (T : Top K mg) : FnOk P w K mg base CX0 1 T.a_check_name T.fd_check_name ["name"] spCheck := by
  refine T.F_check_name.ok sc_check_name (fun vs H Q E h => ?_) (fun cdv A outer s H vs Q E hr h => ?_)
  · obtain ⟨n, rfl, _⟩ := h
    rfl
  · obtain ⟨n, rfl, hn, k⟩ := h
    refine ⟨_, (pss_one (ps_if (PW.pt (pw_or (pt_cmpR op_notTyB (pe_callTy (r := rTyp K) call_type1 (by rfl) T.z_type (by decide +kernel) (pa_cons (pv 0) pa_nil)) (pe_bltn (v := .ty "int") (by rfl) T.z_int (by decide +kernel) rfl) (nomark _)) (pw_or1 (pt_not (pt_chain op_le op_lt pe_int (pv 0) (pe_glob (v := .int 256) rfl T.c_NAMES.2 ⟨_, rfl⟩)))))) (pss_one ps_never) pss_nil)), ?_⟩
    walk_at "when"
    · intro hb
      simp at hb
      omega
    · exact fun _ => k
def spMixed : Sp := fun vs H Q _ => ∃ n : Int, vs = [.int n] ∧ (0 ≤ n ∧ n < 256) ∧ RetV (.int (mx n : Nat)) H Q
theorem spv_check {n : Int} {H : Hp} (hn : 0 ≤ n ∧ n < 256) : SpV spCheck [.int n] H .non := fun A _ Q q E => ⟨n, rfl, hn, q⟩
local macro_rules | `(tactic| walk_at "spv") => `(tactic| exact spv_check (by assumption))
theorem mx_int {n : Int} (hn : 0 ≤ n ∧ n < 256) : (171 * n + 37) % 256 = ((mx n : Nat) : Int) := by
  unfold mx mixN
  omega
theorem ok_mixed (T : Top K mg) : FnOk P w K mg base CX0 2 T.a_mixed T.fd_mixed ["name"] spMixed := by
  refine T.F_mixed.ok sc_mixed (fun vs H Q E h => ?_) (fun cdv A outer s H vs Q E hr h => ?_)
  · obtain ⟨n, rfl, _⟩ := h
    rfl
  · obtain ⟨n, rfl, hn, k⟩ := h
    refine ⟨_, (pss_cons (ps_expr (pe_call (ok_check_name T) (hr.mono (by decide)) rfl T.g_check_name T.F_check_name.kp T.b_check_name .nil pass0 (pa_cons (pv 0) pa_nil)))
      (pss_one (ps_ret (pe_op op_mod (pe_op op_add (pe_op op_mul (pe_glob (v := .int 171) rfl T.c_FACTOR.2 ⟨_, rfl⟩) (pv 0)) (pe_glob (v := .int 37) rfl T.c_SHIFT.2 ⟨_, rfl⟩)) (pe_glob (v := .int 256) rfl T.c_NAMES.2 ⟨_, rfl⟩))))), ?_⟩
    walk_at "drop"
    intro H1 e1
    walk_at "ret"
    have k1 := RetV.mono e1 k
    rw [← mx_int hn] at k1
    exact k1
theorem spv_mixed {n : Int} {H : Hp} (hn : 0 ≤ n ∧ n < 256) : SpV spMixed [.int n] H (.int (mx n : Nat)) := fun A _ Q q E => ⟨n, rfl, hn, q⟩
local macro_rules | `(tactic| walk_at "spv") => `(tactic| exact spv_mixed (by assumption))
local macro_rules | `(tactic| walk_at "ev") => `(tactic| ((with_reducible apply ev_fmtB); walk_at "ev"; exact mx_lt _))
local macro_rules | `(tactic| walk_at "ev") => `(tactic| ((with_reducible apply ev_zfill); walk_at "ev"; walk_at "ea"; decide +kernel))
/-- the signs of a name -/
def sig (n : Int) : Str := bt (8, mx n)
def spSigns : Sp := fun vs H Q _ => ∃ n : Int, vs = [.int n] ∧ (0 ≤ n ∧ n < 256) ∧ RetV (.str (sig n)) H Q
theorem ok_signs (T : Top K mg) : FnOk P w K mg base CX0 3 T.a_signs T.fd_signs ["name"] spSigns := by
  refine T.F_signs.ok sc_signs (fun vs H Q E h => ?_) (fun cdv A outer s H vs Q E hr h => ?_)
  · obtain ⟨n, rfl, _⟩ := h
    rfl
  · obtain ⟨n, rfl, hn, k⟩ := h
    refine ⟨_, (pss_cons (ps_set (i := 1) sc_signs.nd rfl (Or.inl rfl) (pe_joined1 (pe_fmtB (pe_call (ok_mixed T) (hr.mono (by decide)) rfl T.g_mixed T.F_mixed.kp T.b_mixed .nil pass0 (pa_cons (pv 0) pa_nil)))))
      (pss_one (ps_ret (pe_bm PySem.F.plainAttrs_str PySem.F.slot_str_zfill PySem.F.type_str_zfill mt_zfill (pv 1) (pa_cons (pe_glob (v := .int 8) rfl T.c_SIGNS.2 ⟨_, rfl⟩) pa_nil))))), ?_⟩
    walk_at "asg"
    intro H1 e1
    walk_at "ret"
    rw [zf8 _ (mx_lt n)]
    exact RetV.mono e1 k
theorem spv_signs {n : Int} {H : Hp} (hn : 0 ≤ n ∧ n < 256) : SpV spSigns [.int n] H (.str (sig n)) := fun A _ Q q E => ⟨n, rfl, hn, q⟩
local macro_rules | `(tactic| walk_at "spv") => `(tactic| exact spv_signs (by assumption))
/-! ### rooms -/
/-- the sign behind the first d ones -/
def nxs (d : Nat) (n : Int) : Str := ⟨#[48 + mx n / 2 ^ (8 - 1 - d) % 2]⟩
def spNext : Sp := fun vs H Q _ => ∃ (c : Code) (n : Int), vs = [.str (bt c), .int n] ∧ c.1 < 8 ∧ (0 ≤ n ∧ n < 256) ∧ RetV (.str (nxs c.1 n)) H Q
theorem cut_sign (m d : Nat) (h : d < 8) : cutS (bt (8, m)) (some (d : Int)) (some ((d : Int) + 1)) = ⟨#[48 + m / 2 ^ (8 - 1 - d) % 2]⟩ := by
  unfold cutS
  rw [show ((d : Int) + 1) = ((d + 1 : Nat) : Int) by omega, HT.sIx_nat, HT.sIx_nat, bt_len]
  show (⟨(((bl 8 m).toArray.toList.drop (min d 8)).take (min (d + 1) 8 - min d 8)).toArray⟩ : Str) = _
  rw [List.toList_toArray, show min d 8 = d by omega, show min (d + 1) 8 - d = 1 by omega]
  have hl : d < (bl 8 m).length := by rw [bl_len]; exact h
  rw [List.drop_eq_getElem_cons hl]
  have := bl_get m h
  rw [List.getElem?_eq_getElem hl] at this
  rw [Option.some.inj this]
  rfl
theorem ok_next_sign (T : Top K mg) : FnOk P w K mg base CX0 4 T.a_next_sign T.fd_next_sign ["bits", "name"] spNext := by
  refine T.F_next_sign.ok sc_next_sign (fun vs H Q E h => ?_) (fun cdv A outer s H vs Q E hr h => ?_)
  · obtain ⟨s, n, rfl, _⟩ := h
    rfl
  · obtain ⟨c, n, rfl, hb, hn, k⟩ := h
    refine ⟨_, (pss_cons (ps_set (i := 2) sc_next_sign.nd rfl (Or.inl rfl) (pe_callB call_len_str (by rfl) T.z_len (by decide +kernel) (pa_cons (pv 0) pa_nil)))
      (pss_one (ps_ret (pe_slice sl_str (pe_call (ok_signs T) (hr.mono (by decide)) rfl T.g_signs T.F_signs.kp T.b_signs .nil pass0 (pa_cons (pv 1) pa_nil)) (po_some (pv 2)) (po_some (pe_op op_add (pv 2) pe_int)))))), ?_⟩
    have hz : (bt c).length ≤ 100000 := by rw [bt_len]; omega
    refine q_asg (v := .int (c.1 : Int)) (ev_is (ev_cb (by walk_at "ea") (rc_lenS hz)) (by rw [bt_len])) ?_
    intro H1 e1
    show tRet _ _ [some (.str (bt c)), some (.int n), some (.int (c.1 : Int))] H1
    refine s_retk (v := .str (nxs c.1 n)) (ev_is (ev_slS (s := sig n) (by walk_at "ev") (eo_some (i := (c.1 : Int)) (by walk_at "ev")) (eo_some (i := (c.1 : Int) + 1) (by walk_at "ev")) (by unfold sig; rw [bt_len]; show 8 ≤ 100000; decide)) ?_) (RetV.mono e1 k)
    unfold sig
    rw [cut_sign _ _ hb]
    rfl
theorem spv_next {c : Code} {n : Int} {H : Hp} (hb : c.1 < 8) (hn : 0 ≤ n ∧ n < 256) : SpV spNext [.str (bt c), .int n] H (.str (nxs c.1 n)) := fun A _ Q q E => ⟨c, n, rfl, hb, hn, q⟩
theorem nxs_dec {c : Code} {p : Int × Int} (hb : c.1 < 8) (h : inn c p = true) : decide (V.str (nxs c.1 p.1) = V.str "1") = inn (c1 c) p := by
  have h1 := (inB_iff.mp h).2
  have e : inn (c1 c) p = decide (mx p.1 / 2 ^ (8 - 1 - c.1) % 2 = 1) := by
    unfold inn inB
    show (decide (c.1 + 1 ≤ 8) && decide (mx p.1 / 2 ^ (8 - (c.1 + 1)) = 2 * c.2 + 1)) = _
    rw [decide_eq_true (by omega), Bool.true_and]
    refine decide_eq_decide.mpr ?_
    rw [div_half _ _ _ hb] at h1
    rw [show 8 - 1 - c.1 = 8 - (c.1 + 1) by omega]
    omega
  rw [e, decide_str, s1_eq]
  unfold nxs
  refine decide_eq_decide.mpr ⟨fun z => ?_, fun z => by rw [z]⟩
  have := List.head_eq_of_cons_eq (toL_inj (a := [48 + mx p.1 / 2 ^ (8 - 1 - c.1) % 2]) (b := [49]) z)
  omega
theorem thg_half0 (ps : List (Int × Int)) {c : Code} (hb : c.1 < 8) : (thg ps c).filter (fun p => !inn (c1 c) p) = thg ps (c0 c) := by
  unfold thg
  rw [List.filter_filter]
  refine List.filter_congr fun p _ => ?_
  rw [inn_half hb]
  cases h0 : inn (c0 c) p with
  | true => rw [inn_not p h0]; rfl
  | false => cases h1 : inn (c1 c) p <;> rfl
theorem thg_half1 (ps : List (Int × Int)) {c : Code} (hb : c.1 < 8) : (thg ps c).filter (fun p => inn (c1 c) p) = thg ps (c1 c) := by
  unfold thg
  rw [List.filter_filter]
  refine List.filter_congr fun p _ => ?_
  rw [inn_half hb]
  cases h0 : inn (c0 c) p with
  | true => rw [inn_not p h0]; rfl
  | false => cases h1 : inn (c1 c) p <;> rfl
/-- a room: its bits and its things -/
abbrev rpRm : Rp (Code × List (Int × Int)) := rpP rpC (rpL rpT)
def spParted : Sp := fun vs H Q _ => ∃ (t l : Addr) (c : Code) (ps : List (Int × Int)), vs = [.ref t] ∧ H t = some (.tup [.str (bt c), .ref l]) ∧ LR rpT H l (thg ps c) ∧ c.1 < 8 ∧ Names ps ∧
  ∀ (t' t0 l0 t1 l1 : Addr) (B : Hp), Ex H B → B t' = some (.tup [.ref t0, .ref t1]) → B t0 = some (.tup [.str (bt (c0 c)), .ref l0]) → B t1 = some (.tup [.str (bt (c1 c)), .ref l1]) →
    LR rpT B l0 (thg ps (c0 c)) → LR rpT B l1 (thg ps (c1 c)) → Q (.ref t') B
theorem eg_pair {σ : L2.St} {H : Hp} {ta tb : TE} {P P' : Hp → V → Hp → Prop} (ha : EvG ta σ H P) (hb : EvG tb σ H P') : EvG (tTup (tCons ta (tCons tb tNil))) σ H (fun A v B => ∃ p x y A0 C0 A1 C1, v = .ref p ∧ A p = none ∧ B p = some (.tup [x, y]) ∧ P A0 x C0 ∧ P' A1 y C1 ∧ Ex A A0 ∧ Ex C0 B ∧ Ex C1 B) := fun A a Q q =>
  ha A a _ fun x B b hx => hb B (a.trans b) _ fun y C c hy => ⟨by show 2 ≤ sizeLine; decide, fun p hp => q _ _ ((b.trans c).trans (.new hp)) ⟨p, x, y, A, B, B, C, rfl, fresh_back (b.trans c) hp, upd_same, hx, hy, .refl A, c.trans (.new hp), .new hp⟩⟩
set_option maxHeartbeats 1000000 in
theorem ok_parted (T : Top K mg) : FnOk P w K mg base CX0 5 T.a_parted T.fd_parted ["room"] spParted := by
  refine T.F_parted.ok sc_parted (fun vs H Q E h => ?_) (fun cdv A outer s H vs Q E hr h => ?_)
  · obtain ⟨t, l, c, ps, rfl, _⟩ := h
    rfl
  · obtain ⟨t, l, c, ps, rfl, ht, ⟨xs, hx, hp⟩, hb, hn, k⟩ := h
    refine ⟨_, (pss_cons (ps_asg (pv 0) (pg_tup (by rfl) (pgs_cons (pg_name (i := 1) sc_parted.nd rfl (Or.inr rfl)) (pgs_cons (pg_name (i := 2) sc_parted.nd rfl (Or.inl rfl)) pgs_nil))))
      (pss_cons (ps_setLc (i := 3) (own := [("thing", 5)]) (g := gName 5) rfl sc_parted.nd rfl rfl (sw_true rfl rfl rfl (by decide +kernel)) (pi_list (pv 2)) (blkOk_by (N := n_parted) (sc := defScope s_parted) (by decide +kernel)) (fun _ _ _ _ _ => pg_name (i := 5) sc_parted.nd rfl (Or.inl rfl)) (fun _ _ _ _ _ => by exact (pts_one (pt_cmpR op_ne (pe_call (ok_next_sign T) (hr.mono (by decide)) rfl T.g_next_sign T.F_next_sign.kp T.b_next_sign .nil pass0 (pa_cons (pv 1) (pa_cons (pe_ix (r := rIxT K) ix_tup (pv 5) pe_int (fun _ _ => rfl)) pa_nil))) pe_str (nomark _)))) (fun _ _ _ _ _ => by exact (pv 5)))
      (pss_cons (ps_setLc (i := 4) (own := [("thing", 5)]) (g := gName 5) rfl sc_parted.nd rfl rfl (sw_true rfl rfl rfl (by decide +kernel)) (pi_list (pv 2)) (blkOk_by (N := n_parted) (sc := defScope s_parted) (by decide +kernel)) (fun _ _ _ _ _ => pg_name (i := 5) sc_parted.nd rfl (Or.inl rfl)) (fun _ _ _ _ _ => by exact (pts_one (pt_cmpR op_eq (pe_call (ok_next_sign T) (hr.mono (by decide)) rfl T.g_next_sign T.F_next_sign.kp T.b_next_sign .nil pass0 (pa_cons (pv 1) (pa_cons (pe_ix (r := rIxT K) ix_tup (pv 5) pe_int (fun _ _ => rfl)) pa_nil))) pe_str (nomark _)))) (fun _ _ _ _ _ => by exact (pv 5)))
      (pss_one (ps_ret (pe_tup (pa_cons (pe_tup (pa_cons (pe_op op_add_str (pv 1) pe_str) (pa_cons (pv 3) pa_nil))) (pa_cons (pe_tup (pa_cons (pe_op op_add_str (pv 1) pe_str) (pa_cons (pv 4) pa_nil))) pa_nil)))))))), ?_⟩
    refine ⟨_, rfl, t, _, rfl, st_of ht, rfl, _, _, rfl, _, _, rfl, rfl, ?_⟩
    dsimp only
    refine st_nf (t := tSeq _ _) (σ' := [some (.ref t), some (.str (bt c)), some (.ref l), none, none, none]) rfl ?_
    have hl : (thg ps c).length ≤ 256 := (hn.fil (inn c)).len
    have hsig : ∀ (v : V) (p : Int × Int) (F : Addr → Prop) (H1 : Hp) (sl : L2.St) (i j : Nat) (E : XK), p ∈ thg ps c → rpT.R F H1 v p → sl[i]? = some (some (.str (bt c))) → sl[j]? = some (some v) → Ev (tCall spNext [] E (tCons (tVar i) (tCons (tOp (rIxT K) (tVar j) (tC (.int 0))) tNil))) sl H1 (.str (nxs c.1 p.1)) := by
      rintro v p F H1 sl i j E hm ⟨u, rfl, hu⟩ hi hj
      have h0 := (hn.fil (inn c)).all p hm
      exact ev_call (vs := [.str (bt c), .int p.1]) (ea_cons (ev_var hi) (ea_cons (ev_op (ev_var hj) ev_c (rv_ixT (st_of hu) rfl)) ea_nil)) (spv_next hb h0)
    refine q_asgLR (lcLR (r := rpT) (r' := rpT) (fun p => !inn (c1 c) p) (fun p => p) (by walk_at "ev") (sq_of hx) hp (by omega) (fun _ => rfl) ?_ ?_) ?_
    · intro v p H1 F e1 hm hR
      refine et_is (et_test (ev_op (hsig v p F H1 _ 1 5 _ hm hR rfl rfl) ev_c (rv_ne rfl))) ?_
      rw [nxs_dec hb (List.mem_filter.mp hm).2]
    · intro v p H1 F e1 _ hm hR _
      exact ee_var (by walk_at "ev") hR
    intro l0 H1 hl0 e1 L0
    show tSeq (tAsg _ _) _ _ [some (.ref t), some (.str (bt c)), some (.ref l), some (.ref l0), none, none] H1
    refine q_asgLR (lcLR (r := rpT) (r' := rpT) (fun p => inn (c1 c) p) (fun p => p) (by walk_at "ev") (sq_of (e1.k hx)) (pr_mono e1 hp) (by omega) (fun _ => rfl) ?_ ?_) ?_
    · intro v p H2 F e2 hm hR
      refine et_is (et_test (ev_op (hsig v p F H2 _ 1 5 _ hm hR rfl rfl) ev_c (rv_eq rfl))) ?_
      rw [nxs_dec hb (List.mem_filter.mp hm).2]
    · intro v p H2 F e2 _ hm hR _
      exact ee_var (by walk_at "ev") hR
    intro l1 H2 hl1 e2 L1
    rw [List.map_id'] at L0 L1
    rw [thg_half0 ps hb] at L0
    rw [thg_half1 ps hb] at L1
    show tRet _ _ [some (.ref t), some (.str (bt c)), some (.ref l), some (.ref l0), some (.ref l1), none] H2
    refine s_retG (eg_pair (eg_tup (vs := [.str (bt (c0 c)), .ref l0]) (ea_cons (ev_b0 (by walk_at "ev") (by omega)) (by walk_at "ea")) (by show 2 ≤ 100000; decide)) (eg_tup (vs := [.str (bt (c1 c)), .ref l1]) (ea_cons (ev_b1 (by walk_at "ev") (by omega)) (by walk_at "ea")) (by show 2 ≤ 100000; decide))) ?_
    rintro v B e3 ⟨u, _, _, A0, C0, A1, C1, rfl, _, g, ⟨t0, rfl, _, g0⟩, ⟨t1, rfl, _, g1⟩, x0, x1, x2⟩
    exact k u t0 l0 t1 l1 B ((e1.trans e2).trans e3) g (x1.k g0) (x2.k g1) ((L0.mono e2).mono e3) (L1.mono e3)
end

section
variable {P : Program} {w : World} {K : PySem.W.Frag} {mg : Str → Option Value} {base : Heap} [TabCx]
def twice {α : Type} (l : List α) : List α := l.flatMap fun a => [a, a]
theorem twice_snoc {α : Type} (l : List α) (i : Nat) (a : α) (h : l[i]? = some a) : twice (l.take (i + 1)) = twice (l.take i) ++ [a, a] := by
  rw [take_snoc h]
  simp [twice]
theorem twice_len {α : Type} : ∀ l : List α, (twice l).length = 2 * l.length
  | [] => rfl
  | a :: t => by
    show (a :: a :: twice t).length = _
    simp only [List.length_cons, twice_len t]
    omega
theorem evens_twice {α : Type} : ∀ l : List α, evens (twice l) = l
  | [] => by simp [twice, evens]
  | a :: t => by
    show evens (a :: a :: twice t) = a :: t
    simp only [evens, evens_twice t]
theorem evens_cons {α : Type} (a : α) : ∀ l : List α, evens (a :: l) = a :: evens l.tail
  | [] => by simp [evens]
  | _ :: _ => by simp [evens]
theorem odds_twice {α : Type} : ∀ l : List α, evens (twice l).tail = l
  | [] => by simp [twice, evens]
  | a :: t => by
    show evens (a :: twice t) = a :: t
    rw [evens_cons, odds_twice t]
theorem twice_get {α : Type} : ∀ (l : List α) (k : Nat), (twice l)[k]? = l[k / 2]?
  | [], k => by simp [twice]
  | a :: t, 0 => rfl
  | a :: t, 1 => rfl
  | a :: t, k + 2 => by
    show (a :: a :: twice t)[k + 2]? = (a :: t)[(k + 2) / 2]?
    rw [show (k + 2) / 2 = k / 2 + 1 by omega, List.getElem?_cons_succ, List.getElem?_cons_succ, List.getElem?_cons_succ]
    exact twice_get t k
/-- the same twice over what is told -/
theorem pr_twice {α : Type} {r : Rp α} {F : Addr → Prop} {H : Hp} : ∀ {xs : List V} {as : List α}, PRF r F H xs as → PRF r F H (twice xs) (twice as)
  | _, _, .nil => .nil
  | _, _, .cons a t => .cons a (.cons a (pr_twice t))
def spDoubled : Sp := fun vs H Q _ => ∃ (a : Addr) (ss : List Str), vs = [.ref a] ∧ LR rpStr H a ss ∧ ss.length ≤ 1000 ∧ RetLR rpStr (twice ss) H Q
theorem ok_doubled (T : Top K mg) : FnOk P w K mg base CX0 1 T.a_doubled T.fd_doubled ["board"] spDoubled := by
  refine T.F_doubled.ok sc_doubled (fun vs H Q E h => ?_) (fun cdv A outer s H vs Q E hr h => ?_)
  · obtain ⟨a, ss, rfl, _⟩ := h
    rfl
  · obtain ⟨a, ss, rfl, ⟨xs, hx, px⟩, hz, k⟩ := h
    refine ⟨_, (pss_one (ps_ret (pe_lc2 (own := [("bits", 1), ("_", 2)]) (vs1 := [2]) (tt := tYes) (tt1 := tYes) rfl sc_doubled.nd (pi_list (pv 0)) (blkOk_by (N := n_doubled) (sc := defScope s_doubled) (by decide +kernel)) (by decide) (fun _ _ _ _ _ => by exact (pg_name (i := 1) sc_doubled.nd rfl (Or.inl rfl))) (fun _ _ _ _ _ => by exact pts_nil) (fun _ _ _ _ _ => by exact (pi_range1 (by rfl) T.z_range (pa_cons pe_int pa_nil))) (fun _ _ _ _ _ => by exact (pg_name (i := 2) sc_doubled.nd rfl (Or.inl rfl))) (fun _ _ _ _ _ => by exact pts_nil) (fun _ _ _ _ _ => by exact (pv 1))))), ?_⟩
    have hxl := px.length
    refine s_retLR (r' := rpStr) (bs := twice ss) ?_ k
    intro A a' Q' q'
    refine ⟨_, rfl, a, rfl, ⟨xs, sq_of (a'.k hx)⟩, fun D hD => ⟨fun i m B => m = xs.length - i ∧ i ≤ xs.length ∧ Ex A B ∧ B D = some (.lst (twice (xs.take i))), ⟨xs.length, by simp, Nat.zero_le _, .new hD, by rw [upd_same]; rfl⟩, ?_⟩⟩
    rintro i m B ⟨rfl, hi, eB, hB⟩
    have hxB := eB.k (a'.k hx)
    by_cases hlt : i < xs.length
    · refine .inr ⟨⟨xs, xs[i], sq_of hxB, by simp [hlt]⟩, fun B => Ex A B ∧ B D = some (.lst (twice (xs.take (i + 1)))), fun B' p' => ⟨xs.length - (i + 1), by omega, rfl, hlt, p'⟩, fun x B' y => ?_⟩
      obtain ⟨e, y⟩ := y
      subst e
      have hxi := y xs (sq_of hxB)
      refine ⟨rfl, 2, rfl, by decide, by decide, fun j k B2 => k = 2 - j ∧ j ≤ 2 ∧ Ex A B2 ∧ B2 D = some (.lst (twice (xs.take i) ++ List.replicate j x)), ⟨2, rfl, by decide, eB, by rw [List.replicate_zero, List.append_nil]; exact hB⟩, ?_⟩
      rintro j k B2 ⟨rfl, hj, e2, hB2⟩
      by_cases hj2 : j < 2
      · refine .inr ⟨hj2, fun B3 => Ex A B3 ∧ B3 D = some (.lst (twice (xs.take i) ++ List.replicate (j + 1) x)), fun B' p' => ⟨2 - (j + 1), by omega, rfl, hj2, p'⟩, fun x' B3 y' => ?_⟩
        obtain ⟨e3, y3⟩ := y'
        subst e3 y3
        refine ⟨rfl, ?_⟩
        refine ⟨x, rfl, _, hB2, ?_, e2.mut hD hB2, ?_⟩
        · refine sz_lt ?_
          rw [List.length_append, List.length_replicate, twice_len, List.length_take]
          omega
        · rw [upd_same, List.append_assoc, List.replicate_succ']
      · have e : j = 2 := by omega
        subst e
        refine .inl ⟨Nat.le_refl _, e2, ?_⟩
        rw [twice_snoc xs i x hxi]
        exact hB2
    · have e : i = xs.length := by omega
      subst e
      rw [List.take_length] at hB
      exact .inl ⟨⟨xs, sq_of hxB, Nat.le_refl _⟩, q' _ B eB ⟨D, rfl, hD, _, hB, pr_twice (pr_mono (a'.trans eB) px)⟩⟩
def canHalve (ss : List Str) : Bool := decide (1 < ss.length) && decide (evens ss = evens ss.tail)
def OkL (ss : List Str) : Prop := ∀ s ∈ ss, PyData.strOk s = true
def spHalve : Sp := fun vs H Q _ => ∃ (a : Addr) (ss : List Str), vs = [.ref a] ∧ LR rpStr H a ss ∧ OkL ss ∧ RetV (.bl (canHalve ss)) H Q
theorem evens_sub {α : Type} : ∀ {l : List α} {a : α}, a ∈ evens l → a ∈ l
  | [], _, h => by simp [evens] at h
  | [_], _, h => by simpa [evens] using h
  | x :: y :: t, a, h => by
    simp only [evens, List.mem_cons] at h ⊢
    rcases h with h | h
    · exact .inl h
    · exact .inr (.inr (evens_sub h))
theorem tail_sub {α : Type} {l : List α} {a : α} (h : a ∈ l.tail) : a ∈ l := List.mem_of_mem_tail h
theorem eqv_strs : ∀ as bs : List Str, PyData.eqvAll (as.map PyData.str) (bs.map PyData.str) = decide (as = bs)
  | [], [] => by simp [PyData.eqvAll]
  | [], _ :: _ => by simp [PyData.eqvAll]
  | _ :: _, [] => by simp [PyData.eqvAll]
  | a :: as, b :: bs => by
    have := eqv_strs as bs
    simp only [List.map_cons, PyData.eqvAll, this, PyData.eqv]
    by_cases h : a = b
    · subst h
      simp
    · simp [h]
theorem ev_eqSS {σ : L2.St} {H : Hp} {ta tb : TE} {as bs : List Str} (ha : EvLR rpStr ta σ H as) (hb : EvLR rpStr tb σ H bs) (oa : OkL as) (ob : OkL bs) : Ev (tOp (rEqD K) ta tb) σ H (.bl (decide (as = bs))) := fun A a Q q =>
  ha A a _ fun _ B b ⟨p, ev, _, xs, h1, h2⟩ => hb B (a.trans b) _ fun _ C c ⟨p', ev', _, ys, h3, h4⟩ => by
    subst ev ev'
    refine ⟨.list (as.map PyData.str), .list (bs.map PyData.str), .lst (sq_of (c.k h1)) (dp_all encStr (pr_mono c h2)), .lst (sq_of h3) (dp_all encStr h4), shaped_l encStr (Nat.le_of_ble_eq_true rfl) oa, shaped_l encStr (Nat.le_of_ble_eq_true rfl) ob, ?_⟩
    have e : PyData.eqv (.list (as.map PyData.str)) (.list (bs.map PyData.str)) = decide (as = bs) := by simp only [PyData.eqv, eqv_strs]
    rw [e]
    exact q C (b.trans c)
def spHalved : Sp := fun vs H Q _ => ∃ (a : Addr) (ss : List Str), vs = [.ref a] ∧ LR rpStr H a ss ∧ RetLR rpStr (evens ss) H Q
theorem spv_halve {a : Addr} {ss : List Str} {H : Hp} (h : LR rpStr H a ss) (ho : OkL ss) : SpV spHalve [.ref a] H (.bl (canHalve ss)) := fun A e Q q E => ⟨a, ss, rfl, h.mono e, ho, q⟩
theorem spl_doubled {a : Addr} {ss : List Str} {H : Hp} (h : LR rpStr H a ss) (hz : ss.length ≤ 1000) : SpLR rpStr spDoubled [.ref a] H (twice ss) := fun A e Q q E => ⟨a, ss, rfl, h.mono e, hz, q⟩
theorem spl_halved {a : Addr} {ss : List Str} {H : Hp} (h : LR rpStr H a ss) : SpLR rpStr spHalved [.ref a] H (evens ss) := fun A e Q q E => ⟨a, ss, rfl, h.mono e, q⟩
end
section
variable {P : Program} {w : World} {K : PySem.W.Frag} {mg : Str → Option Value} {base : Heap} [TabCx]
theorem ev_count {σ : L2.St} {H : Hp} {te : TE} {p : Addr} {ss : List Str} {z : Str} {t : TA} (h : Ev te σ H (.ref p)) (hl : LR rpStr H p ss) (ha : EvA t σ H [.str z]) : Ev (tBM K "list" (rCntS K) te t) σ H (.int (ss.count z : Nat)) := fun A a Q q => by
  obtain ⟨ys, h1, h2⟩ := hl.mono a
  refine h A a _ fun B b => ⟨.inl ⟨rfl, ys, sq_of (b.k h1)⟩, ha B (a.trans b) _ fun C c => ⟨p, ss, z, rfl, rfl, sq_of (by rw [c.k (b.k h1), prs_eq h2]), q C (b.trans c)⟩⟩
def spPartedAt : Sp := fun vs H Q _ => ∃ (a : Addr) (ss : List Str) (b : Str), vs = [.ref a, .str b] ∧ LR rpStr H a ss ∧ ss.length ≤ 1000 ∧ b.length ≤ 100 ∧ RetLR rpStr (partGo b (b ++ ("0" : Str)) (b ++ ("1" : Str)) (ss.count b / 2) ss) H Q
theorem ok_parted_at (T : Top K mg) : FnOk P w K mg base CX0 1 T.a_parted_at T.fd_parted_at ["board", "bits"] spPartedAt := by
  refine T.F_parted_at.ok sc_parted_at (fun vs H Q E h => ?_) (fun cdv A outer s H vs Q E hr h => ?_)
  · obtain ⟨a, ss, b, rfl, _⟩ := h
    rfl
  · obtain ⟨a, ss, b, rfl, hL, hz, hbz, k⟩ := h
    refine ⟨_, (pss_cons (ps_set (i := 2) sc_parted_at.nd rfl (Or.inl rfl) (pe_op op_fdiv (pe_bm PySem.F.plainAttrs_list PySem.F.slot_list_count PySem.F.type_list_count mt_scount (pv 0) (pa_cons (pv 1) pa_nil)) pe_int))
      (pss_cons (ps_set (i := 3) sc_parted_at.nd rfl (Or.inl rfl) (pe_lst pa_nil))
      (pss_cons (ps_for PassesOwn.never rfl (pi_list (pv 0)) (pg_name (i := 4) sc_parted_at.nd rfl (Or.inl rfl)) (pss_one (ps_if (pt_cmpR op_ne (pv 4) (pv 1) (nomark _)) (pss_one (ps_expr (pe_bm PySem.F.plainAttrs_list PySem.F.slot_list_append PySem.F.type_list_append mt_append (pv 3) (pa_cons (pv 4) pa_nil)))) (pss_one (ps_if (pt_cmpR op_gt (pv 2) pe_int (nomark _)) (pss_cons (ps_expr (pe_bm PySem.F.plainAttrs_list PySem.F.slot_list_append PySem.F.type_list_append mt_append (pv 3) (pa_cons (pe_op op_add_str (pv 1) pe_str) pa_nil)))
      (pss_one (ps_aug (i := 2) sc_parted_at.nd rfl (Or.inl rfl) pe_int ip_sub))) (pss_one (ps_expr (pe_bm PySem.F.plainAttrs_list PySem.F.slot_list_append PySem.F.type_list_append mt_append (pv 3) (pa_cons (pe_op op_add_str (pv 1) pe_str) pa_nil)))))))))
      (pss_one (ps_ret (pv 3)))))), ?_⟩
    refine q_asg (v := .int ((ss.count b / 2 : Nat) : Int)) (ev_is (ev_op (ev_count (by walk_at "ev") hL (by walk_at "ea")) ev_c (rv_I ⟨by decide, by decide⟩)) (congrArg V.int (by omega))) ?_
    intro H1 e1
    show tSeq _ _ _ [some (.ref a), some (.str b), some (.int ((ss.count b / 2 : Nat) : Int)), none, none] H1
    generalize hz0 : ss.count b / 2 = z0 at k
    refine q_asgG (eg_lst ea_nil (by decide)) ?_
    rintro v H2 e2 ⟨pd, rfl, hpd, hd⟩
    have h0 := fresh_back e1 hpd
    show tSeq _ _ _ [some (.ref a), some (.str b), some (.int (z0 : Int)), some (.ref pd), none] H2
    obtain ⟨xs, hx, px⟩ := hL.mono (e1.trans e2)
    have hxl := px.length
    refine q_forL (a := a) (xs := xs) (by walk_at "ev") (sq_of hx) (fun i σ' B => Ex H B ∧ i ≤ ss.length ∧ ∃ (z : Nat) (acc : List Str) (u : Option V), B pd = some (.lst (acc.map V.str)) ∧ acc.length = i ∧ acc ++ partGo b (b ++ ("0" : Str)) (b ++ ("1" : Str)) z (ss.drop i) = partGo b (b ++ ("0" : Str)) (b ++ ("1" : Str)) z0 ss ∧ σ' = [some (.ref a), some (.str b), some (.int (z : Int)), some (.ref pd), u]) ?_ ?_ ?_ ?_
    · intro B e
      exact ⟨(e1.trans e2).trans e, Nat.zero_le _, z0, [], none, e.k hd, rfl, rfl, rfl⟩
    · rintro i σ' B hi ⟨e, _⟩
      obtain ⟨ys, hy, py⟩ := hL.mono e
      rw [prs_eq px, ← prs_eq py]
      exact sq_of hy
    · rintro i x σ' B hi ⟨e, _, z, acc, u, hB, hal, hpg, rfl⟩
      obtain ⟨s, hs, rfl⟩ := pr_get px hi
      obtain ⟨hil, hsi⟩ := List.getElem?_eq_some_iff.mp hs
      rw [List.drop_eq_getElem_cons hil, hsi, partGo] at hpg
      show tIfS _ _ _ _ [some (.ref a), some (.str b), some (.int (z : Int)), some (.ref pd), some (.str s)] B
      have app : ∀ (y : Str) (z' : Nat) (te : TE) (D : Ends) (σ2 : L2.St), acc ++ y :: partGo b (b ++ ("0" : Str)) (b ++ ("1" : Str)) z' (ss.drop (i + 1)) = partGo b (b ++ ("0" : Str)) (b ++ ("1" : Str)) z0 ss → ∀ B1, Ex B B1 → Ev (tVar 3) σ2 B1 (.ref pd) → Ev te σ2 B1 (.str y) →
          (∀ B2, Ex H B2 → B2 pd = some (.lst ((acc ++ [y]).map V.str)) → D.nx σ2 B2) → tDrop (tBM K "list" rAppend (tVar 3) (tCons te tNil)) D σ2 B1 := fun y z' te D σ2 _ B1 b1 hv hy kk =>
        s_app (P := fun _ v _ => v = .str y) (b1.k hB) hv (hy.g fun _ _ _ _ => rfl) (by rw [List.length_map]; omega) fun A v C a c ev => by
          subst ev
          have hC := c.k (a.k (b1.k hB))
          refine kk _ ?_ ?_
          · exact (((e.trans b1).trans a).trans c).mut h0 hC
          · rw [upd_same, List.map_append]
            rfl
      refine s_if (b := !decide (V.str s = V.str b)) (et_test (ev_op (by walk_at "ev") (by walk_at "ev") (rv_ne rfl))) ?_ ?_
      · intro hb B1 b1
        have hne : ¬ s = b := by simpa [decide_str] using hb
        rw [if_neg hne] at hpg
        refine app s z _ _ _ hpg B1 b1 (by walk_at "ev") (by walk_at "ev") fun B2 e2 h2 => ⟨e2, hil, z, acc ++ [s], some (.str s), h2, by rw [List.length_append, hal]; rfl, by rw [List.append_assoc]; exact hpg, rfl⟩
      · intro hb B1 b1
        have he : s = b := by simpa [decide_str] using hb
        rw [if_pos he] at hpg
        refine s_if (b := decide ((0 : Int) < (z : Int))) (et_test (ev_op (by walk_at "ev") ev_c rv_I0)) ?_ ?_
        · intro hb2 B2 b2
          have hz : 0 < z := by have : (0 : Int) < (z : Int) := of_decide_eq_true hb2; omega
          rw [if_pos hz] at hpg
          refine app (b ++ ("0" : Str)) (z - 1) _ _ _ hpg B2 (b1.trans b2) (by walk_at "ev") (ev_op (by walk_at "ev") ev_c (rv_add_str (by show b.length + 1 ≤ _; omega))) fun B3 e3 h3 => ?_
          refine s_aug (x := (z : Int)) (y := 1) rfl ev_c fun B4 e4 => ⟨e3.trans e4, hil, z - 1, acc ++ [b ++ ("0" : Str)], some (.str s), e4.k h3, by rw [List.length_append, hal]; rfl, by rw [List.append_assoc]; exact hpg, ?_⟩
          show [_, _, some (V.int ((z : Int) - 1)), _, _] = _
          rw [show ((z : Int) - 1) = ((z - 1 : Nat) : Int) by omega]
        · intro hb2 B2 b2
          have hz : ¬ 0 < z := by have : ¬ (0 : Int) < (z : Int) := of_decide_eq_false hb2; omega
          rw [if_neg hz] at hpg
          refine app (b ++ ("1" : Str)) z _ _ _ hpg B2 (b1.trans b2) (by walk_at "ev") (ev_op (by walk_at "ev") ev_c (rv_add_str (by show b.length + 1 ≤ _; omega))) fun B3 e3 h3 => ⟨e3, hil, z, acc ++ [b ++ ("1" : Str)], some (.str s), h3, by rw [List.length_append, hal]; rfl, by rw [List.append_assoc]; exact hpg, rfl⟩
    · rintro σ' B ⟨e, _, z, acc, u, hB, hal, hpg, rfl⟩
      rw [hxl, List.drop_length, partGo, List.append_nil] at hpg
      subst hpg
      walk_at "ret"
      exact fun C c => k pd C h0 (e.trans c) ⟨_, c.k hB, pr_strs⟩
def spJoinedAt : Sp := fun vs H Q _ => ∃ (a : Addr) (ss : List Str) (b : Str), vs = [.ref a, .str b] ∧ LR rpStr H a ss ∧ ss.length ≤ 1000 ∧ b.length ≤ 100 ∧ RetLR rpStr (joinGo b (b ++ ("0" : Str)) (b ++ ("1" : Str)) ss) H Q
end

/-! ### the things of a room -/
section
variable {P : Program} {w : World} {K : PySem.W.Frag} {mg : Str → Option Value} {base : Heap} [TabCx]
def spWith : Sp := fun vs H Q _ => ∃ (a : Addr) (ps : List (Int × Int)) (n v : Int), vs = [.ref a, .int n, .int v] ∧ LR rpT H a ps ∧ ps.length ≤ 1000 ∧ RetLR rpT (insT ps n v) H Q
set_option maxHeartbeats 1000000 in
theorem ok_with_thing (T : Top K mg) : FnOk P w K mg base CX0 1 T.a_with_thing T.fd_with_thing ["things", "name", "value"] spWith := by
  refine T.F_with_thing.ok sc_with_thing (fun vs H Q E h => ?_) (fun cdv A outer s H vs Q E hr h => ?_)
  · obtain ⟨a, ps, n, v, rfl, _⟩ := h
    rfl
  · obtain ⟨a, ps, n, v, rfl, ⟨xs, hx, hp⟩, hz, k⟩ := h
    refine ⟨_, (pss_cons (ps_setLc (i := 3) (own := [("thing", 5)]) (g := gName 5) rfl sc_with_thing.nd rfl rfl (sw_true rfl rfl rfl (by decide +kernel)) (pi_list (pv 0)) (blkOk_by (N := n_with_thing) (sc := defScope s_with_thing) (by decide +kernel)) (fun _ _ _ _ _ => pg_name (i := 5) sc_with_thing.nd rfl (Or.inl rfl)) (fun _ _ _ _ _ => by exact (pts_one (pt_cmpR op_lt (pe_ix (r := rIxT K) ix_tup (pv 5) pe_int (fun _ _ => rfl)) (pv 1) (nomark _)))) (fun _ _ _ _ _ => by exact (pv 5)))
      (pss_cons (ps_setLc (i := 4) (own := [("thing", 5)]) (g := gName 5) rfl sc_with_thing.nd rfl rfl (sw_true rfl rfl rfl (by decide +kernel)) (pi_list (pv 0)) (blkOk_by (N := n_with_thing) (sc := defScope s_with_thing) (by decide +kernel)) (fun _ _ _ _ _ => pg_name (i := 5) sc_with_thing.nd rfl (Or.inl rfl)) (fun _ _ _ _ _ => by exact (pts_one (pt_cmpR op_gt (pe_ix (r := rIxT K) ix_tup (pv 5) pe_int (fun _ _ => rfl)) (pv 1) (nomark _)))) (fun _ _ _ _ _ => by exact (pv 5)))
      (pss_one (ps_ret (pe_lst (StX.pa_star (pv 3) (pa_cons (pe_tup (pa_cons (pv 1) (pa_cons (pv 2) pa_nil))) (StX.pa_star (pv 4) pa_nil)))))))), ?_⟩
    refine q_asgLR (lcLR (r := rpT) (r' := rpT) (fun p => decide (p.1 < n)) (fun p => p) (by walk_at "ev") (sq_of hx) hp (by omega) (fun _ => rfl) ?_ ?_) ?_
    · rintro x b H1 F e1 _ ⟨t, rfl, ht⟩
      walk_at "et"
    · rintro x b H1 F e1 _ _ hb _
      exact ee_var (by walk_at "ev") hb
    intro pa H1 hpa e1 ⟨ya, ha1, ha2⟩
    refine q_asgLR (lcLR (r := rpT) (r' := rpT) (fun p => decide (n < p.1)) (fun p => p) (by walk_at "ev") (sq_of (e1.k hx)) (pr_mono e1 hp) (by omega) (fun _ => rfl) ?_ ?_) ?_
    · rintro x b H1 F e1 _ ⟨t, rfl, ht⟩
      walk_at "et"
    · rintro x b H1 F e1 _ _ hb _
      exact ee_var (by walk_at "ev") hb
    intro pb H2 hpb e2 ⟨yb, hb1, hb2⟩
    rw [List.map_id'] at ha2 hb2
    refine s_retLR (r' := rpT) (bs := insT ps n v) (fun H3 e3 Q' q' => ?_) (RetLR.mono (e1.trans e2) k)
    refine ⟨_, rfl, pa, ya, rfl, Or.inr (sq_of (e3.k (e2.k ha1))), ?_⟩
    refine ⟨_, rfl, _, rfl, by show 2 ≤ sizeLine; decide, fun t ht => ?_⟩
    refine ⟨_, rfl, pb, yb, rfl, Or.inr (sq_of ((Ex.new ht).k (e3.k hb1))), ?_⟩
    have hla := ha2.length
    have hlb := hb2.length
    have l1 := List.length_filter_le (fun p : Int × Int => decide (p.1 < n)) ps
    have l2 := List.length_filter_le (fun p : Int × Int => decide (n < p.1)) ps
    refine ⟨?_, fun p hp2 => ?_⟩
    · simp only [List.length_append, List.length_cons, List.length_nil]
      exact sz_of (by omega)
    · refine q' _ _ ((Ex.new ht).trans (Ex.new hp2)) ⟨p, rfl, fresh_back (Ex.new ht) hp2, _, upd_same, ?_⟩
      have e4 := (Ex.new (o := HO.tup [.int n, .int v]) ht).trans (Ex.new (o := HO.lst (ya ++ V.ref t :: (yb ++ []))) hp2)
      refine pr_app (pr_mono ((e2.trans e3).trans e4) ha2) (.cons ⟨t, rfl, (Ex.new hp2).k upd_same⟩ ?_)
      rw [List.append_nil]
      rw [List.append_nil] at e4
      exact pr_mono (e3.trans e4) hb2
theorem spl_with {a : Addr} {ps : List (Int × Int)} {n v : Int} {H : Hp} (h : LR rpT H a ps) (hz : ps.length ≤ 1000) : SpLR rpT spWith [.ref a, .int n, .int v] H (insT ps n v) := fun A e Q q E => ⟨a, ps, n, v, rfl, h.mono e, hz, q⟩
def spWithout : Sp := fun vs H Q _ => ∃ (a : Addr) (ps : List (Int × Int)) (n : Int), vs = [.ref a, .int n] ∧ LR rpT H a ps ∧ ps.length ≤ 1000 ∧ RetLR rpT (delT ps n) H Q
theorem spl_without {a : Addr} {ps : List (Int × Int)} {n : Int} {H : Hp} (h : LR rpT H a ps) (hz : ps.length ≤ 1000) : SpLR rpT spWithout [.ref a, .int n] H (delT ps n) := fun A e Q q E => ⟨a, ps, n, rfl, h.mono e, hz, q⟩
def vOpt : Option Int → V
  | some i => .int i
  | none => .non
theorem valT_skip (n : Int) : ∀ (ps : List (Int × Int)) (i : Nat), (∀ p ∈ ps.take i, p.1 ≠ n) → valT ps n = valT (ps.drop i) n
  | ps, 0, _ => rfl
  | [], _ + 1, _ => rfl
  | p :: t, i + 1, h => by
    have h1 := h p List.mem_cons_self
    rw [List.drop_succ_cons, ← valT_skip n t i fun q hq => h q (List.mem_cons_of_mem _ hq)]
    unfold valT
    rw [List.find?_cons, decide_eq_false h1]
def spValIn : Sp := fun vs H Q _ => ∃ (a : Addr) (ps : List (Int × Int)) (n : Int), vs = [.ref a, .int n] ∧ LR rpT H a ps ∧ RetV (vOpt (valT ps n)) H Q
theorem ok_value_in (T : Top K mg) : FnOk P w K mg base CX0 1 T.a_value_in T.fd_value_in ["things", "name"] spValIn := by
  refine T.F_value_in.ok sc_value_in (fun vs H Q E h => ?_) (fun cdv A outer s H vs Q E hr h => ?_)
  · obtain ⟨a, ps, n, rfl, _⟩ := h
    rfl
  · obtain ⟨a, ps, n, rfl, ⟨xs, hx, hp⟩, k⟩ := h
    refine ⟨_, (pss_cons (ps_for PassesOwn.never rfl (pi_list (pv 0)) (pg_tup rfl (pgs_cons (pg_name (i := 2) sc_value_in.nd rfl (Or.inl rfl)) (pgs_cons (pg_name (i := 3) sc_value_in.nd rfl (Or.inl rfl)) pgs_nil))) (pss_one (ps_if (pt_cmpR op_eq (pv 2) (pv 1) (nomark _)) (pss_one (ps_ret (pv 3))) pss_nil)))
      (pss_one (ps_ret pe_non))), ?_⟩
    refine q_forL (by walk_at "ev") (sq_of hx) (fun i σ H' => Ex H H' ∧ (∀ p ∈ ps.take i, p.1 ≠ n) ∧ ∃ u v, σ = [some (.ref a), some (.int n), u, v]) ?_ ?_ ?_ ?_
    · intro H1 e1
      exact ⟨e1, by simp, none, none, rfl⟩
    · rintro i σ' H' _ ⟨e1, _⟩
      exact sq_of (e1.k hx)
    · rintro i x σ' H' hi ⟨e1, hn, u, v, rfl⟩
      obtain ⟨b, hb, t, rfl, ht⟩ := pr_get hp hi
      refine ⟨t, _, rfl, st_of (e1.k ht), rfl, _, _, rfl, _, _, rfl, rfl, ?_⟩
      walk_at "when"
      · intro hq H1 e2
        walk_at "ret"
        have hbn : b.1 = n := by simpa [decide_int] using hq
        have e0 : valT ps n = some b.2 := by
          rw [valT_skip n ps i hn, List.drop_eq_getElem_cons (List.getElem?_eq_some_iff.mp hb).1, (List.getElem?_eq_some_iff.mp hb).2]
          unfold valT
          rw [List.find?_cons, decide_eq_true hbn]
          rfl
        rw [e0] at k
        exact RetV.mono (e1.trans e2) k
      · intro hq H1 e2
        have hbn : b.1 ≠ n := by simpa [decide_int] using hq
        refine ⟨e1.trans e2, ?_, _, _, rfl⟩
        rw [take_snoc hb]
        intro p hpm
        rcases List.mem_append.mp hpm with h | h
        · exact hn p h
        · rw [List.mem_singleton.mp h]
          exact hbn
    · rintro σ' H' ⟨e1, hn, u, v, rfl⟩
      walk_at "ret"
      have e0 : valT ps n = none := by
        rw [valT_skip n ps xs.length hn, hp.length, List.drop_length]
        rfl
      rw [e0] at k
      exact RetV.mono e1 k
theorem spv_valin {a : Addr} {ps : List (Int × Int)} {n : Int} {H : Hp} (h : LR rpT H a ps) : SpV spValIn [.ref a, .int n] H (vOpt (valT ps n)) := fun A e Q q E => ⟨a, ps, n, rfl, h.mono e, q⟩
/-! ### joined -/
theorem mem_perm_sorted {as bs : List (Int × Int)} (ha : as.Pairwise fun a b => a.1 < b.1) (hb : bs.Pairwise fun a b => a.1 ≤ b.1) (h : bs.Perm as) : bs = as := by
  have hnd : as.Pairwise fun a b => a.1 ≠ b.1 := ha.imp fun z => by omega
  have hb2 : bs.Pairwise fun a b => a.1 < b.1 := by
    have : bs.Pairwise fun a b => a.1 ≠ b.1 := (h.pairwise_iff fun z => Ne.symm z).mpr hnd
    exact (hb.and this).imp fun z => by omega
  exact h.eq_of_pairwise (le := fun a b => a.1 < b.1) (fun a b _ _ h1 h2 => by omega) hb2 ha
theorem thg_joined {ps : List (Int × Int)} (h : Names ps) {c : Code} (hl : c.1 < 8) {rs : List (Int × Int)} (perm : rs.Perm (thg ps (c0 c) ++ thg ps (c1 c))) (pw : rs.Pairwise fun a b => a.1 ≤ b.1) : rs = thg ps c := by
  refine mem_perm_sorted (h.fil (inn c)).up pw (perm.trans ?_)
  rw [← thg_half0 ps hl, ← thg_half1 ps hl]
  refine (List.perm_append_comm).trans ?_
  have := List.filter_append_perm (fun p => inn (c1 c) p) (thg ps c)
  exact this
def spJoined : Sp := fun vs H Q _ => ∃ (t1 l1 t2 l2 : Addr) (c : Code) (ps : List (Int × Int)), vs = [.ref t1, .ref t2] ∧ H t1 = some (.tup [.str (bt (c0 c)), .ref l1]) ∧ H t2 = some (.tup [.str (bt (c1 c)), .ref l2]) ∧ LR rpT H l1 (thg ps (c0 c)) ∧ LR rpT H l2 (thg ps (c1 c)) ∧ c.1 < 8 ∧ Names ps ∧ TabsOk H ∧
  ∀ (t l : Addr) (B : Hp), Ex H B → B t = some (.tup [.str (bt c), .ref l]) → LR rpT B l (thg ps c) → Q (.ref t) B
end


/-! ### stores: statements that change them -/
section
variable [TabCx]
variable {K : PySem.W.Frag} {σ : L2.St} {H H' : Hp} {ta tb te td ty tv : TE} {D : Ends} {tz : TS} {C p dx d : Addr} {fs : List (Str × V)} {f : Str} {v x : V} {kvs : List (Key × V)} {k : Key} {P : Hp → V → Hp → Prop}
theorem q_fld (c : Cls K C) (n : NoAttr K C f) (hv : EvG tv σ H P) (ho : Ev ta σ H (.ref p)) (hp : H p = some (.ins C dx fs)) (hl : fs.length < 1000) (kk : ∀ v B B2, Ex H B → P H v B → Ex B B2 → tz D σ (upd B2 p (.ins C dx (putF f v fs)))) : tSeq (sFld K ta tv f) tz D σ H :=
  hv H (.refl H) _ fun v B b hvB => ho B b _ fun B2 b2 => ⟨p, C, dx, fs, rfl, (b.trans b2).k hp, c, n, hl, kk v B B2 b hvB b2⟩
theorem s_fld (c : Cls K C) (n : NoAttr K C f) (hv : EvG tv σ H P) (ho : Ev ta σ H (.ref p)) (hp : H p = some (.ins C dx fs)) (hl : fs.length < 1000) (kk : ∀ v B B2, Ex H B → P H v B → Ex B B2 → D.nx σ (upd B2 p (.ins C dx (putF f v fs)))) : sFld K ta tv f D σ H :=
  hv H (.refl H) _ fun v B b hvB => ho B b _ fun B2 b2 => ⟨p, C, dx, fs, rfl, (b.trans b2).k hp, c, n, hl, kk v B B2 b hvB b2⟩
/-- o.f += a number -/
theorem s_fldaug {rd : V → V → Hp → VK → Prop} {y z : V} (c : Cls K C) (n : NoAttr K C f) (ho : Ev ta σ H (.ref p)) (hp : H p = some (.ins C dx fs)) (hf : fs.lookup f = some x) (hv : Ev tv σ H y) (hr : RV rd x y H z) (hl : fs.length < 1000) (kk : ∀ B, Ex H B → D.nx σ (upd B p (.ins C dx (putF f z fs)))) : sFldAug K ta tv rd f D σ H :=
  ho H (.refl H) _ fun B b => ⟨p, C, dx, fs, x, rfl, b.k hp, c, n, hf, hv B b _ fun B2 b2 => hr B2 (b.trans b2) _ fun B3 b3 => ⟨dx, fs, ((b.trans b2).trans b3).k hp, hl, kk B3 ((b.trans b2).trans b3)⟩⟩
theorem q_dput (hv : EvG tv σ H P) (hd : Ev td σ H (.ref d)) (hk : Ev ty σ H (kV k)) (hdc : H d = some (.dK kvs)) (hl : kvs.length < 1000) (kk : ∀ v B B2, Ex H B → P H v B → Ex B B2 → tz D σ (upd B2 d (.dK (putK kvs k v)))) : tSeq (sDPut td ty tv) tz D σ H :=
  hv H (.refl H) _ fun v B b hvB => hd B b _ fun B2 b2 => hk B2 (b.trans b2) _ fun B3 b3 => ⟨d, _, rfl, DPut.k (((b.trans b2).trans b3).k hdc) (small1000 (by omega)), kk v B B3 b hvB (b2.trans b3)⟩
theorem s_dput (hv : EvG tv σ H P) (hd : Ev td σ H (.ref d)) (hk : Ev ty σ H (kV k)) (hdc : H d = some (.dK kvs)) (hl : kvs.length < 1000) (kk : ∀ v B B2, Ex H B → P H v B → Ex B B2 → D.nx σ (upd B2 d (.dK (putK kvs k v)))) : sDPut td ty tv D σ H :=
  hv H (.refl H) _ fun v B b hvB => hd B b _ fun B2 b2 => hk B2 (b.trans b2) _ fun B3 b3 => ⟨d, _, rfl, DPut.k (((b.trans b2).trans b3).k hdc) (small1000 (by omega)), kk v B B3 b hvB (b2.trans b3)⟩
theorem q_ddel (hd : Ev td σ H (.ref d)) (hk : Ev ty σ H (kV k)) (hdc : H d = some (.dK kvs)) (hs : (valV kvs k).isSome = true) (kk : ∀ B, Ex H B → tz D σ (upd B d (.dK (dropK kvs k)))) : tSeq (sDDel td ty) tz D σ H :=
  hd H (.refl H) _ fun B b => hk B b _ fun B2 b2 => ⟨d, kvs, k, rfl, (b.trans b2).k hdc, rfl, hs, kk B2 (b.trans b2)⟩
theorem q_while {c : TT} {t : TS} (Pv : Nat → L2.St → Hp → Prop) {m : Nat} (h0 : Pv m σ H) (hs : ∀ m σ H, Pv m σ H → ∃ b, EvT c σ H b ∧ (b = true → ∀ B, Ex H B → t { D with nx := fun σ' H' => ∃ m', m' < m ∧ Pv m' σ' H', ct := fun σ' H' => ∃ m', m' < m ∧ Pv m' σ' H', bk := tz D } σ B) ∧ (b = false → ∀ B, Ex H B → tz D σ B)) :
    tSeq (tWhile c t) tz D σ H := ⟨Pv, ⟨m, h0⟩, fun m σ H w => by
  obtain ⟨b, he, h1, h2⟩ := hs m σ H w
  refine he H (.refl H) _ fun B e => ?_
  cases b with
  | true => exact ⟨_, fun _ _ z => z, h1 rfl B e⟩
  | false => exact h2 rfl B e⟩
theorem s_while {c : TT} {t : TS} (Pv : Nat → L2.St → Hp → Prop) {m : Nat} (h0 : Pv m σ H) (hs : ∀ m σ H, Pv m σ H → ∃ b, EvT c σ H b ∧ (b = true → ∀ B, Ex H B → t { D with nx := fun σ' H' => ∃ m', m' < m ∧ Pv m' σ' H', ct := fun σ' H' => ∃ m', m' < m ∧ Pv m' σ' H', bk := D.nx } σ B) ∧ (b = false → ∀ B, Ex H B → D.nx σ B)) :
    tWhile c t D σ H := ⟨Pv, ⟨m, h0⟩, fun m σ H w => by
  obtain ⟨b, he, h1, h2⟩ := hs m σ H w
  refine he H (.refl H) _ fun B e => ?_
  cases b with
  | true => exact ⟨_, fun _ _ z => z, h1 rfl B e⟩
  | false => exact h2 rfl B e⟩
/-- an expression whose promise changes the store: by itself, given to a name -/
theorem q_dropC (h : te σ H (fun _ B => tz D σ B)) : tSeq (tDrop te) tz D σ H := h
theorem s_dropC (h : te σ H (fun _ B => D.nx σ B)) : tDrop te D σ H := h
theorem q_asgC {i : Nat} (h : te σ H (fun v B => tz D (σ.set i (some v)) B)) : tSeq (tAsg te (gName i)) tz D σ H := h
end
/-! ### the store's own defs -/
section
variable {P : Program} {w : World} {K : PySem.W.Frag} {mg : Str → Option Value} {base : Heap} [TabCx]
variable {T : Top K mg} {σ : L2.St} {H : Hp} {p d bd : Addr} {kvs : List (Key × V)} {b : Nat} {R : List Code} {D : Nat} {ps : List (Int × Int)}
theorem SA.e_rooms (h : SA T.a_Store H p d bd kvs b R D ps) {te : TE} (ho : Ev te σ H (.ref p)) : Ev (tFld K te "_rooms") σ H (.ref d) := by
  obtain ⟨dx, h1⟩ := h.ob
  exact ev_fld T.cl_Store T.d_Store.rooms ho h1 fl_rooms
theorem SA.e_board (h : SA T.a_Store H p d bd kvs b R D ps) {te : TE} (ho : Ev te σ H (.ref p)) : Ev (tFld K te "_board") σ H (.ref bd) := by
  obtain ⟨dx, h1⟩ := h.ob
  exact ev_fld T.cl_Store T.d_Store.board ho h1 fl_board
theorem SA.e_depth (h : SA T.a_Store H p d bd kvs b R D ps) {te : TE} (ho : Ev te σ H (.ref p)) : Ev (tFld K te "_depth") σ H (.int (D : Int)) := by
  obtain ⟨dx, h1⟩ := h.ob
  exact ev_fld T.cl_Store T.d_Store.depth ho h1 fl_depth
theorem SA.e_bound (h : SA T.a_Store H p d bd kvs b R D ps) {te : TE} (ho : Ev te σ H (.ref p)) : Ev (tFld K te "bound") σ H (.int (b : Int)) := by
  obtain ⟨dx, h1⟩ := h.ob
  exact ev_fld T.cl_Store T.d_Store.bound ho h1 fl_bound
/-- self._rooms[bits] -/
theorem SA.e_room (h : SA T.a_Store H p d bd kvs b R D ps) (hv : Cov R 8) {c : Code} (hc : c ∈ R) : ∃ l, valV kvs (Sum.inr (bt c)) = some (.ref l) ∧ LR rpT H l (thg ps c) ∧ ∀ {σ : L2.St} {te ty : TE}, Ev te σ H (.ref p) → Ev ty σ H (.str (bt c)) → Ev (tDGet (tFld K te "_rooms") ty) σ H (.ref l) := by
  obtain ⟨l, h1, h2⟩ := kr_get h.rs (fun d hd => (hv.val d hd).1) (hv.val c hc).1 hc
  exact ⟨l, h1, h2, fun ho hk => ev_dget (k := Sum.inr (bt c)) (h.e_rooms ho) hk h.dc h1⟩
/-- a method of a store that leaves all as it is -/
theorem SA.e_meth (h : SA T.a_Store H p d bd kvs b R D ps) {te : TE} {m : Str} {sp : Sp} {vs : List V} {v : V} {E : XK} {t : TA} (ho : Ev te σ H (.ref p)) (ha : EvA t σ H vs) (hs : SpV sp (.ref p :: vs) H v) (h1 : ¬ ("bound" : Str) = m := by decide +kernel) (h2 : ¬ ("_rooms" : Str) = m := by decide +kernel) (h3 : ¬ ("_board" : Str) = m := by decide +kernel) (h4 : ¬ ("_depth" : Str) = m := by decide +kernel) : Ev (tMeth T.a_Store m sp [] E te t) σ H v := by
  obtain ⟨dx, g⟩ := h.ob
  exact ev_meth ho g (fl_none h1 h2 h3 h4) ha hs
theorem SA.e_methLR {β : Type} {r : Rp β} {bs : List β} (h : SA T.a_Store H p d bd kvs b R D ps) {te : TE} {m : Str} {sp : Sp} {vs : List V} {E : XK} {t : TA} (ho : Ev te σ H (.ref p)) (ha : EvA t σ H vs) (hs : SpLR r sp (.ref p :: vs) H bs) (h1 : ¬ ("bound" : Str) = m := by decide +kernel) (h2 : ¬ ("_rooms" : Str) = m := by decide +kernel) (h3 : ¬ ("_board" : Str) = m := by decide +kernel) (h4 : ¬ ("_depth" : Str) = m := by decide +kernel) : EvLR r (tMeth T.a_Store m sp [] E te t) σ H bs := by
  obtain ⟨dx, g⟩ := h.ob
  exact ev_methLR ho g (fl_none h1 h2 h3 h4) ha hs
theorem SA.g_meth (h : SA T.a_Store H p d bd kvs b R D ps) {te : TE} {m : Str} {sp : Sp} {vs : List V} {Q : VK} {E : XK} {t : TA} (ho : Ev te σ H (.ref p)) (ha : EvA t σ H vs) (hs : ∀ B, Ex H B → sp (.ref p :: vs) B Q E) (h1 : ¬ ("bound" : Str) = m := by decide +kernel) (h2 : ¬ ("_rooms" : Str) = m := by decide +kernel) (h3 : ¬ ("_board" : Str) = m := by decide +kernel) (h4 : ¬ ("_depth" : Str) = m := by decide +kernel) : tMeth T.a_Store m sp [] E te t σ H Q := by
  obtain ⟨dx, g⟩ := h.ob
  exact Vf.g_meth ho g (fl_none h1 h2 h3 h4) ha hs
end
section
variable {P : Program} {w : World} {K : PySem.W.Frag} {mg : Str → Option Value} {base : Heap} [TabCx]
def spBoundIs : Sp := fun vs H Q _ => ∃ b : Nat, vs = [.int (b : Int)] ∧ (1 ≤ b ∧ b ≤ 64) ∧ RetV .non H Q
theorem ok_check_bound (T : Top K mg) : FnOk P w K mg base CX0 1 T.a_check_bound T.fd_check_bound ["bound"] spBoundIs := by
  refine T.F_check_bound.ok sc_check_bound (fun vs H Q E h => ?_) (fun cdv A outer s H vs Q E hr h => ?_)
  · obtain ⟨n, rfl, _⟩ := h
    rfl
  · obtain ⟨n, rfl, hn, k⟩ := h
    refine ⟨_, (pss_one (ps_if (PW.pt (pw_or (pt_cmpR op_notTyB (pe_callTy (r := rTyp K) call_type1 (by rfl) T.z_type (by decide +kernel) (pa_cons (pv 0) pa_nil)) (pe_bltn (v := .ty "int") (by rfl) T.z_int (by decide +kernel) rfl) (nomark _)) (pw_or1 (pt_not (pt_chain op_le op_le (pe_glob (v := .int 1) rfl T.c_LEAST_BOUND.2 ⟨_, rfl⟩) (pv 0) (pe_glob (v := .int 64) rfl T.c_GREATEST_BOUND.2 ⟨_, rfl⟩)))))) (pss_one ps_never) pss_nil)), ?_⟩
    refine s_when (b := !decide ("int" = "int") || !(decide ((1 : Int) ≤ (n : Int)) && decide ((n : Int) ≤ 64))) (by walk_at "et") ?_ ?_
    · intro hb
      simp at hb
      omega
    · exact fun _ => k
theorem good_nil {b : Nat} : Good b [(0, 0)] 0 [] := by
  refine ⟨cov_one 8, by simp, fun c hc => by rw [List.mem_singleton.mp hc]; exact Nat.le_refl _, ⟨(0, 0), List.mem_singleton.mpr rfl, rfl⟩, ⟨.nil, by simp⟩, fun c hc => Nat.zero_le _, fun c hc h => ?_⟩
  rw [List.mem_singleton.mp hc] at h
  exact absurd h (Nat.lt_irrefl 0)
theorem board_one : boardC [(0, 0)] 0 = [(0, 0)] := by decide +kernel
/-- a new store is made: from an instance without fields -/
def spInit (C : Addr) : Sp := fun vs H Q _ => ∃ (p dx : Addr) (b : Nat), vs = [.ref p, .int (b : Int)] ∧ H p = some (.ins C dx []) ∧ (1 ≤ b ∧ b ≤ 64) ∧
  ∀ (d bd : Addr) (kvs : List (Key × V)) (B : Hp), H d = none → ExS p d H B → SA C B p d bd kvs b [(0, 0)] 0 [] → Q .non B
theorem ok_m___init__ (T : Top K mg) : FnOk P w K mg base CX0 2 T.a_m___init__ T.fd_m___init__ ["self", "bound"] (spInit T.a_Store) := by
  refine T.F_m___init__.ok sc_m___init__ (fun vs H Q E h => ?_) (fun cdv A outer s H vs Q E hr h => ?_)
  · obtain ⟨p, dx, b, rfl, _⟩ := h
    rfl
  · obtain ⟨p, dx, b, rfl, hp, hb, k⟩ := h
    refine ⟨_, (pss_cons (ps_expr (pe_call (ok_check_bound T) (hr.mono (by decide)) rfl T.g_check_bound T.F_check_bound.kp T.b_check_bound .nil pass0 (pa_cons (pv 1) pa_nil)))
      (pss_cons (ps_fld (pv 0) (pv 1) rfl)
      (pss_cons (ps_fld (pv 0) (pe_disp (pps_cons pe_str (pe_lst pa_nil) pps_nil) (by rfl) (by rfl) (fun z => by cases z) (by decide)) rfl)
      (pss_cons (ps_fld (pv 0) (pe_lst (pa_cons pe_str pa_nil)) rfl)
      (pss_one (ps_fld (pv 0) pe_int rfl)))))), ?_⟩
    refine q_drop (v := .non) (ev_call (by walk_at "ea") fun A e Q' q' E' => ⟨b, rfl, hb, q'⟩) ?_
    intro H1 e1
    refine q_fld (P := fun _ v _ => v = .int (b : Int)) T.cl_Store T.d_Store.bound (Ev.g (v := .int (b : Int)) (by walk_at "ev") fun _ _ _ _ => rfl) (by walk_at "ev") (e1.k hp) (by show 0 < 1000; decide) ?_
    rintro v B B2 b1 rfl b2
    have x1 : Ex H B2 := (e1.trans b1).trans b2
    have hp2 : (upd B2 p (.ins T.a_Store dx (putF "bound" (.int (b : Int)) []))) p = some (.ins T.a_Store dx (putF "bound" (.int (b : Int)) [])) := upd_same
    have dom2 : ∀ a, (upd B2 p (.ins T.a_Store dx (putF "bound" (.int (b : Int)) []))) a = none → H a = none := fun a ha => x1.dom a (upd_dom (x1.k hp) a ha)
    have keep2 : ∀ d, ExS p d H (upd B2 p (.ins T.a_Store dx (putF "bound" (.int (b : Int)) []))) := fun d => x1.s.trans (ExS.updP (x1.k hp))
    generalize upd B2 p (.ins T.a_Store dx (putF "bound" (.int (b : Int)) [])) = H2 at hp2 dom2 keep2
    -- the rooms' dict
    refine q_fld (P := fun A v B => ∃ d l, v = .ref d ∧ A d = none ∧ B d = some (.dK [(Sum.inr (bt (0, 0)), .ref l)]) ∧ LR rpT B l []) T.cl_Store T.d_Store.rooms ?_ (by walk_at "ev") hp2 (by show 1 < 1000; decide) ?_
    · intro A a Q' q' d hd
      have nd := fresh_back a hd
      refine ⟨by decide, fun l hl => ?_⟩
      have hld : d ≠ l := fun z => by rw [z, upd_same] at hl; cases hl
      refine ⟨by rw [upd_ne hld, upd_same], [(Sum.inr (bt (0, 0)), .ref l)], by rw [bt_nil]; rfl, by show 1 ≤ 15; decide, ?_⟩
      have hm : mergeK [] [((Sum.inr (bt (0, 0)) : Key), V.ref l)] = [(Sum.inr (bt (0, 0)), .ref l)] := rfl
      have hd' : A d = none := hd
      refine q' (.ref d) _ ?_ ⟨d, l, rfl, hd', by rw [upd_same, hm], ?_⟩
      · refine .of fun x o hx => ?_
        have hxl : A l = none := by
          have := hl
          rw [upd_ne (fun z => hld z.symm)] at this
          exact this
        rw [upd_ne (ne_of_none hx hd'), upd_ne (ne_of_none hx hxl), upd_ne (ne_of_none hx hd')]
        exact hx
      · exact ⟨[], by rw [upd_ne (fun z => hld z.symm), upd_same], .nil⟩
    rintro v B3 B4 b3 ⟨d, l, rfl, hd, hdd, hll⟩ b4
    have npd : p ≠ d := ne_of_none hp2 hd
    have hd4 := b4.k hdd
    have hl4 := hll.mono b4
    have x2 := b3.trans b4
    have hp4 := x2.k hp2
    have hpl : ∀ {ys}, B4 l = some (.lst ys) → l ≠ p := fun h => ne_of h hp4 (by intro z; cases z)
    have w4 : ExW B4 (upd B4 p (.ins T.a_Store dx (putF "_rooms" (.ref d) (putF "bound" (.int (b : Int)) [])))) := (ExS.updP (d := d) hp4).w hp4 hd4
    have keep4 : ExS p d H (upd B4 p (.ins T.a_Store dx (putF "_rooms" (.ref d) (putF "bound" (.int (b : Int)) [])))) := (keep2 d).trans (x2.s.trans (ExS.updP hp4))
    have hp5 : (upd B4 p (.ins T.a_Store dx (putF "_rooms" (.ref d) (putF "bound" (.int (b : Int)) [])))) p = some (.ins T.a_Store dx (putF "_rooms" (.ref d) (putF "bound" (.int (b : Int)) []))) := upd_same
    have hd5 : (upd B4 p (.ins T.a_Store dx (putF "_rooms" (.ref d) (putF "bound" (.int (b : Int)) [])))) d = some (.dK [(Sum.inr (bt (0, 0)), .ref l)]) := by
      rw [upd_ne npd.symm]
      exact hd4
    have hl5 := hl4.monoW w4
    generalize upd B4 p (.ins T.a_Store dx (putF "_rooms" (.ref d) (putF "bound" (.int (b : Int)) []))) = H5 at keep4 hp5 hd5 hl5
    -- the board
    refine q_fld (P := fun A v B => ∃ bd, v = .ref bd ∧ LR rpC B bd [(0, 0)]) T.cl_Store T.d_Store.board ((el_one (r := rpC) (b := (0, 0)) (ee_var (v := .str "") (by walk_at "ev") (by show V.str "" = V.str (bt (0, 0)); rw [bt_nil]))).imp fun A v B _ _ ⟨p, e, _, h⟩ => ⟨p, e, h⟩) (by walk_at "ev") hp5 (by show 2 < 1000; decide) ?_
    rintro v B6 B7 b6 ⟨bd, rfl, hbd⟩ b7
    have x3 := b6.trans b7
    have hp7 := x3.k hp5
    have hd7 := x3.k hd5
    have hl7 := hl5.mono x3
    have hb7 := hbd.mono b7
    have w7 : ExW B7 (upd B7 p (.ins T.a_Store dx (putF "_board" (.ref bd) (putF "_rooms" (.ref d) (putF "bound" (.int (b : Int)) []))))) := (ExS.updP (d := d) hp7).w hp7 hd7
    have keep7 : ExS p d H (upd B7 p (.ins T.a_Store dx (putF "_board" (.ref bd) (putF "_rooms" (.ref d) (putF "bound" (.int (b : Int)) []))))) := keep4.trans (x3.s.trans (ExS.updP hp7))
    have hp8 : (upd B7 p (.ins T.a_Store dx (putF "_board" (.ref bd) (putF "_rooms" (.ref d) (putF "bound" (.int (b : Int)) []))))) p = some (.ins T.a_Store dx (putF "_board" (.ref bd) (putF "_rooms" (.ref d) (putF "bound" (.int (b : Int)) [])))) := upd_same
    have hd8 : (upd B7 p (.ins T.a_Store dx (putF "_board" (.ref bd) (putF "_rooms" (.ref d) (putF "bound" (.int (b : Int)) []))))) d = some (.dK [(Sum.inr (bt (0, 0)), .ref l)]) := by
      rw [upd_ne npd.symm]
      exact hd7
    have hl8 := hl7.monoW w7
    have hb8 := hb7.monoW w7
    generalize upd B7 p (.ins T.a_Store dx (putF "_board" (.ref bd) (putF "_rooms" (.ref d) (putF "bound" (.int (b : Int)) [])))) = H8 at keep7 hp8 hd8 hl8 hb8
    refine s_fld (P := fun _ v _ => v = .int ((0 : Nat) : Int)) T.cl_Store T.d_Store.depth (Ev.g (v := .int ((0 : Nat) : Int)) (ev_is ev_c rfl) fun _ _ _ _ => rfl) (by walk_at "ev") hp8 (by show 3 < 1000; decide) ?_
    rintro v B9 B10 b9 rfl b10
    have x4 := b9.trans b10
    have hp10 := x4.k hp8
    have hd10 := x4.k hd8
    have w10 : ExW B10 (upd B10 p (.ins T.a_Store dx (putF "_depth" (.int ((0 : Nat) : Int)) (putF "_board" (.ref bd) (putF "_rooms" (.ref d) (putF "bound" (.int (b : Int)) [])))))) := (ExS.updP (d := d) hp10).w hp10 hd10
    refine k d bd [(Sum.inr (bt (0, 0)), .ref l)] _ (dom2 d hd) (keep7.trans (x4.s.trans (ExS.updP hp10))) ⟨⟨dx, by rw [upd_same, fp_init]⟩, by rw [upd_ne npd.symm]; exact hd10, .cons ⟨l, rfl, (hl8.mono x4).monoW w10⟩ .nil, ?_⟩
    rw [board_one]
    exact (hb8.mono x4).monoW w10
end

section
variable {P : Program} {w : World} {K : PySem.W.Frag} {mg : Str → Option Value} {base : Heap} [TabCx]
/-- a store at p -/
structure St (C : Addr) (H : Hp) (p d bd : Addr) (kvs : List (Key × V)) (b : Nat) (R : List Code) (D : Nat) (ps : List (Int × Int)) : Prop where
  sa : SA C H p d bd kvs b R D ps
  cov : Cov R 8
  dep : ∀ c ∈ R, c.1 ≤ D
  d8 : D ≤ 8
  nm : Names ps
theorem St.mono {C : Addr} {H H' : Hp} {p d bd : Addr} {kvs : List (Key × V)} {b : Nat} {R : List Code} {D : Nat} {ps : List (Int × Int)} (e : Ex H H') (h : St C H p d bd kvs b R D ps) : St C H' p d bd kvs b R D ps := ⟨h.sa.mono e, h.cov, h.dep, h.d8, h.nm⟩
theorem St.covD {C : Addr} {H : Hp} {p d bd : Addr} {kvs : List (Key × V)} {b : Nat} {R : List Code} {D : Nat} {ps : List (Int × Int)} (h : St C H p d bd kvs b R D ps) : Cov R D := h.cov.down h.d8 h.dep
theorem St.len {C : Addr} {H : Hp} {p d bd : Addr} {kvs : List (Key × V)} {b : Nat} {R : List Code} {D : Nat} {ps : List (Int × Int)} (h : St C H p d bd kvs b R D ps) (c : Code) : (thg ps c).length ≤ 256 := (h.nm.fil (inn c)).len
/-- place of a name -/
def plc (D : Nat) (n : Int) : Nat := mx n / 2 ^ (8 - D)
theorem plc_lt {D : Nat} (hD : D ≤ 8) (n : Int) : plc D n < 2 ^ D := by
  unfold plc
  rw [Nat.div_lt_iff_lt_mul (Nat.two_pow_pos _), ← Nat.pow_add, show D + (8 - D) = 8 by omega]
  exact mx_lt n
def spAsk (C : Addr) (z : Nat → List Code → Nat → List (Int × Int) → Int → V) : Sp := fun vs H Q _ => ∃ (p d bd : Addr) (kvs : List (Key × V)) (b : Nat) (R : List Code) (D : Nat) (ps : List (Int × Int)) (n : Int), vs = [.ref p, .int n] ∧ St C H p d bd kvs b R D ps ∧ (0 ≤ n ∧ n < 256) ∧ RetV (z b R D ps n) H Q
theorem spv_ask {C : Addr} {z : Nat → List Code → Nat → List (Int × Int) → Int → V} {H : Hp} {p d bd : Addr} {kvs : List (Key × V)} {b : Nat} {R : List Code} {D : Nat} {ps : List (Int × Int)} {n : Int} (h : St C H p d bd kvs b R D ps) (hn : 0 ≤ n ∧ n < 256) : SpV (spAsk C z) [.ref p, .int n] H (z b R D ps n) :=
  fun A e Q q E => ⟨p, d, bd, kvs, b, R, D, ps, n, rfl, h.mono e, hn, q⟩
abbrev zPlace : Nat → List Code → Nat → List (Int × Int) → Int → V := fun _ _ D _ n => .int (plc D n : Nat)
abbrev zBits : Nat → List Code → Nat → List (Int × Int) → Int → V := fun _ R _ _ n => .str (bt (roomC R n))
abbrev zFind : Nat → List Code → Nat → List (Int × Int) → Int → V := fun _ _ _ ps n => vOpt (valT ps n)
theorem ok_m__place_of (T : Top K mg) : FnOk P w K mg base CX0 3 T.a_m__place_of T.fd_m__place_of ["self", "name"] (spAsk T.a_Store zPlace) := by
  refine T.F_m__place_of.ok sc_m__place_of (fun vs H Q E h => ?_) (fun cdv A outer s H vs Q E hr h => ?_)
  · obtain ⟨p, d, bd, kvs, b, R, D, ps, n, rfl, _⟩ := h
    rfl
  · obtain ⟨p, d, bd, kvs, b, R, D, ps, n, rfl, S, hn, k⟩ := h
    refine ⟨_, (pss_one (ps_ret (pe_op op_shr (pe_call (ok_mixed T) (hr.mono (by decide)) rfl T.g_mixed T.F_mixed.kp T.b_mixed .nil pass0 (pa_cons (pv 1) pa_nil)) (pe_op op_sub (pe_glob (v := .int 8) rfl T.c_SIGNS.2 ⟨_, rfl⟩) (pe_fld (pv 0) rfl))))), ?_⟩
    have hD := S.d8
    refine s_retk (v := .int (plc D n : Nat)) (ev_is (ev_op (ev_call (vs := [.int n]) (by walk_at "ea") (spv_mixed hn)) (ev_op ev_c (S.sa.e_depth (by walk_at "ev")) rv_I0) (rv_I (by show (0 : Int) ≤ 8 - (D : Int); omega))) (congrArg V.int ?_)) k
    unfold plc
    rw [show (8 - (D : Int)).toNat = 8 - D by omega]
    exact (Int.natCast_ediv (mx n) (2 ^ (8 - D))).symm ▸ (by rw [Int.natCast_pow] <;> rfl)
theorem ok_m__bits_of (T : Top K mg) : FnOk P w K mg base CX0 4 T.a_m__bits_of T.fd_m__bits_of ["self", "name"] (spAsk T.a_Store zBits) := by
  refine T.F_m__bits_of.ok sc_m__bits_of (fun vs H Q E h => ?_) (fun cdv A outer s H vs Q E hr h => ?_)
  · obtain ⟨p, d, bd, kvs, b, R, D, ps, n, rfl, _⟩ := h
    rfl
  · obtain ⟨p, d, bd, kvs, b, R, D, ps, n, rfl, S, hn, k⟩ := h
    refine ⟨_, (pss_one (ps_ret (pe_ix (r := rIxL K) ix_list (pe_fld (pv 0) rfl) (pe_meth (pv 0) T.cl_Store T.M_m__place_of (ok_m__place_of T) (hr.mono (by decide)) T.b_m__place_of .nil pass0 (pa_cons (pv 1) pa_nil)) (fun _ _ => rfl)))), ?_⟩
    have hlt := plc_lt S.d8 n
    refine s_retk (v := .str (bt (roomC R n))) (ev_ixV (S.sa.e_board (by walk_at "ev")) S.sa.br (S.sa.e_meth (by walk_at "ev") (by walk_at "ea") (spv_ask (z := zPlace) S hn)) fun ys hy => ?_) k
    rw [prC_at hy (by rw [board_len]; exact hlt)]
    refine congrArg (fun c => some (V.str (bt c))) ?_
    unfold boardC
    rw [List.getElem_map, List.getElem_range]
    exact atC_down S.cov S.d8 S.dep (mx_lt n)
theorem valT_fil {ps : List (Int × Int)} {n : Int} {q : Int × Int → Bool} (h : ∀ p ∈ ps, p.1 = n → q p = true) : valT (ps.filter q) n = valT ps n := by
  unfold valT
  refine congrArg (Option.map fun r : Int × Int => r.2) ?_
  induction ps with
  | nil => rfl
  | cons p t ih =>
    have ih := ih fun r hr => h r (List.mem_cons_of_mem _ hr)
    rw [List.filter_cons]
    by_cases e : p.1 = n
    · rw [h p List.mem_cons_self e, if_pos rfl, List.find?_cons, List.find?_cons, decide_eq_true e]
    · by_cases e2 : q p = true
      · rw [if_pos e2, List.find?_cons, List.find?_cons, decide_eq_false e]
        exact ih
      · rw [if_neg e2, List.find?_cons, decide_eq_false e]
        exact ih
theorem valT_thg {R : List Code} (h : Cov R 8) (ps : List (Int × Int)) (n : Int) : valT (thg ps (roomC R n)) n = valT ps n :=
  valT_fil fun p _ e => by
    show inB 8 (mx p.1) _ = true
    rw [e]
    exact (room_mem h n).2
/-- find, and the like: things of the room of a name -/
theorem St.room {T : Top K mg} {H : Hp} {p d bd : Addr} {kvs : List (Key × V)} {b : Nat} {R : List Code} {D : Nat} {ps : List (Int × Int)} (S : St T.a_Store H p d bd kvs b R D ps) (n : Int) : ∃ l, LR rpT H l (thg ps (roomC R n)) ∧ ∀ {σ : L2.St} {te ty : TE}, Ev te σ H (.ref p) → Ev ty σ H (.str (bt (roomC R n))) → Ev (tDGet (tFld K te "_rooms") ty) σ H (.ref l) := by
  obtain ⟨l, _, h2, h3⟩ := S.sa.e_room S.cov (room_mem S.cov n).1
  exact ⟨l, h2, h3⟩
end




section
variable {P : Program} {w : World} {K : PySem.W.Frag} {mg : Str → Option Value} {base : Heap} [TabCx]
def spBoardIs (C : Addr) : Sp := fun vs H Q _ => ∃ (p d bd : Addr) (kvs : List (Key × V)) (b : Nat) (R : List Code) (D : Nat) (ps : List (Int × Int)), vs = [.ref p] ∧ St C H p d bd kvs b R D ps ∧ RetLR rpC (boardC R D) H Q
theorem ok_m_board (T : Top K mg) : FnOk P w K mg base CX0 1 T.a_m_board T.fd_m_board ["self"] (spBoardIs T.a_Store) := by
  refine T.F_m_board.ok sc_m_board (fun vs H Q E h => ?_) (fun cdv A outer s H vs Q E hr h => ?_)
  · obtain ⟨p, d, bd, kvs, b, R, D, ps, rfl, _⟩ := h
    rfl
  · obtain ⟨p, d, bd, kvs, b, R, D, ps, rfl, S, k⟩ := h
    refine ⟨_, (pss_one (ps_ret (pe_callTy (r := rList K) call_list_of (by rfl) T.z_list (by decide +kernel) (pa_cons (pe_fld (pv 0) rfl) pa_nil)))), ?_⟩
    exact s_retLR (ev_listLR (S.sa.e_board (by walk_at "ev")) S.sa.br) k
theorem spl_board {C : Addr} {H : Hp} {p d bd : Addr} {kvs : List (Key × V)} {b : Nat} {R : List Code} {D : Nat} {ps : List (Int × Int)} (h : St C H p d bd kvs b R D ps) : SpLR rpC (spBoardIs C) [.ref p] H (boardC R D) := fun A e Q q E => ⟨p, d, bd, kvs, b, R, D, ps, rfl, h.mono e, q⟩
end


section
variable {P : Program} {w : World} {K : PySem.W.Frag} {mg : Str → Option Value} {base : Heap} [TabCx]
/-- a call with one value that is made for it -/
theorem ev_callE1 {σ : L2.St} {H : Hp} {te : TE} {P : Hp → V → Hp → Prop} {R : V → Hp → Prop} {sp : Sp} {E : XK} (h : EvG te σ H P) (hs : ∀ A v B, Ex H A → Ex A B → P A v B → ∀ Q : VK, (∀ u C, Ex B C → R u C → Q u C) → sp [v] B Q E) : EvG (tCall sp [] E (tCons te tNil)) σ H (fun _ u C => R u C) := fun A a Q q =>
  h A a _ fun v B b hv => hs A v B a b hv Q fun u C c r => q u C (b.trans c) r
theorem twice_board {R : List Code} {D : Nat} (h : Cov R D) : twice (boardC R D) = boardC R (D + 1) := by
  apply List.ext_getElem?
  intro i
  rw [twice_get]
  unfold boardC
  rw [List.getElem?_map, List.getElem?_map]
  by_cases hi : i < 2 ^ (D + 1)
  · rw [List.getElem?_range hi, List.getElem?_range (by rw [Nat.pow_succ] at hi; omega)]
    show some _ = some _
    rw [atC_up h hi]
  · rw [List.getElem?_eq_none (by rw [List.length_range]; omega), List.getElem?_eq_none (by rw [List.length_range]; rw [Nat.pow_succ] at hi; omega)]
    rfl
theorem twice_map {α β : Type} (f : α → β) : ∀ l : List α, twice (l.map f) = (twice l).map f
  | [] => rfl
  | a :: t => by
    show f a :: f a :: twice (t.map f) = f a :: f a :: (twice t).map f
    rw [twice_map f t]
theorem kr_congr {H : Hp} {kvs : List (Key × V)} {R : List Code} {ps qs : List (Int × Int)} (h : KR H kvs R ps) (e : ∀ c ∈ R, thg ps c = thg qs c) : KR H kvs R qs := by
  induction h with
  | nil => exact .nil
  | cons a t ih =>
    obtain ⟨l, h1, h2⟩ := a
    exact .cons ⟨l, h1, by rw [← e _ List.mem_cons_self]; exact h2⟩ (ih fun c hc => e c (List.mem_cons_of_mem _ hc))
def spPartC (C : Addr) : Sp := fun vs H Q _ => ∃ (p d bd : Addr) (kvs : List (Key × V)) (b : Nat) (R : List Code) (D : Nat) (ps : List (Int × Int)) (c : Code), vs = [.ref p, .str (bt c)] ∧ St C H p d bd kvs b R D ps ∧ c ∈ R ∧ c.1 < 8 ∧ R.length ≤ 600 ∧ R.Nodup ∧
  ∀ (bd' : Addr) (kvs' : List (Key × V)) (B : Hp), ExS p d H B → SA C B p d bd' kvs' b (partR R c) (if c.1 = D then D + 1 else D) ps → Q .non B
set_option maxHeartbeats 2000000 in
theorem ok_m__part (T : Top K mg) : FnOk P w K mg base CX0 6 T.a_m__part T.fd_m__part ["self", "bits"] (spPartC T.a_Store) := by
  refine T.F_m__part.ok sc_m__part (fun vs H Q E h => ?_) (fun cdv A outer s H vs Q E hr h => ?_)
  · obtain ⟨p, d, bd, kvs, b, R, D, ps, c, rfl, _⟩ := h
    rfl
  · obtain ⟨p, d, bd, kvs, b, R, D, ps, c, rfl, S, hc, hc8, hRl, hnd, k⟩ := h
    refine ⟨_, (pss_cons (ps_if (pt_cmpR op_eq (pe_callB call_len_str (by rfl) T.z_len (by decide +kernel) (pa_cons (pv 1) pa_nil)) (pe_fld (pv 0) rfl) (nomark _)) (pss_cons (ps_fld (pv 0) (pe_call (ok_doubled T) (hr.mono (by decide)) rfl T.g_doubled T.F_doubled.kp T.b_doubled .nil pass0 (pa_cons (pe_fld (pv 0) rfl) pa_nil)) rfl)
      (pss_one (ps_fldaug (pv 0) pe_int in_add))) pss_nil)
      (pss_cons (ps_fld (pv 0) (pe_call (ok_parted_at T) (hr.mono (by decide)) rfl T.g_parted_at T.F_parted_at.kp T.b_parted_at .nil pass0 (pa_cons (pe_fld (pv 0) rfl) (pa_cons (pv 1) pa_nil))) rfl)
      (pss_cons (ps_set (i := 2) sc_m__part.nd rfl (Or.inl rfl) (pe_call (ok_parted T) (hr.mono (by decide)) rfl T.g_parted T.F_parted.kp T.b_parted .nil pass0 (pa_cons (pe_tup (pa_cons (pv 1) (pa_cons (by exact (pe_dget (hu_of hr) (pe_fld (pv 0) rfl) (pv 1) (fun _ _ => rfl))) pa_nil))) pa_nil)))
      (pss_cons (ps_ddel (pe_fld (pv 0) rfl) (pv 1))
      (pss_one (ps_for PassesOwn.never rfl (pi_tup (pv 2)) (pg_tup rfl (pgs_cons (pg_name (i := 3) sc_m__part.nd rfl (Or.inl rfl)) (pgs_cons (pg_name (i := 4) sc_m__part.nd rfl (Or.inl rfl)) pgs_nil))) (pss_one (ps_dput (hu_of hr) (pe_fld (pv 0) rfl) (pv 3) (pv 4) rfl)))))))), ?_⟩
    have hcv := S.cov.val c hc
    have hcD := S.dep c hc
    have hkl := kr_len S.sa.rs
    -- the board is doubled where the room is as deep as it
    refine q_whenM (M := fun σ' B => ExS p d H B ∧ σ' = [some (.ref p), some (.str (bt c)), none, none, none] ∧ ∃ bd1, SA T.a_Store B p d bd1 kvs b R (if c.1 = D then D + 1 else D) ps) (b := decide (c.1 = D)) (et_is (et_test (ev_op (ev_cb (by walk_at "ea") (rc_lenS (by rw [bt_len]; omega))) (S.sa.e_depth (by walk_at "ev")) (rv_eq rfl))) (by rw [bt_len, decide_int]; exact decide_eq_decide.mpr (by omega))) ?_ ?_ ?_
    · intro hb go B e
      have hcd : c.1 = D := of_decide_eq_true hb
      have S1 := S.mono e
      obtain ⟨dx, h1⟩ := S1.sa.ob
      have hbl := board_len R D
      have hp8 : 2 ^ D ≤ 2 ^ 8 := Nat.pow_le_pow_right (by decide) S.d8
      refine q_fld (P := fun A v B => ∃ q, v = .ref q ∧ LR rpC B q (boardC R (D + 1))) T.cl_Store T.d_Store.board ((ev_callLR (vs := [.ref bd]) (ea_cons (S1.sa.e_board (by walk_at "ev")) ea_nil) (spl_doubled (lrC_str S1.sa.br) (by rw [List.length_map]; omega))).imp fun A v B _ _ ⟨q, e, _, h⟩ => ⟨q, e, lrS_C (by rw [← twice_board S.covD, ← twice_map]; exact h)⟩) (by walk_at "ev") h1 (by rw [fl_len]; decide) ?_
      rintro v B2 B3 b2 ⟨q, rfl, hq⟩ b3
      rw [fp_board]
      have S3 := S1.mono (b2.trans b3)
      have x3 := (e.trans b2).trans b3
      have h3 := (b2.trans b3).k h1
      have w3 : ExW B3 (upd B3 p (.ins T.a_Store dx (flds b d q D))) := (ExS.updP (d := d) h3).w h3 S3.sa.dc
      have hp4 : (upd B3 p (.ins T.a_Store dx (flds b d q D))) p = some (.ins T.a_Store dx (flds b d q D)) := upd_same
      have hd4 : (upd B3 p (.ins T.a_Store dx (flds b d q D))) d = some (.dK kvs) := by rw [upd_ne S.sa.pd.symm]; exact S3.sa.dc
      have hr4 := kr_mono w3 S3.sa.rs
      have hb4 := (hq.mono b3).monoW w3
      have k4 : ExS p d H (upd B3 p (.ins T.a_Store dx (flds b d q D))) := x3.s.trans (ExS.updP h3)
      generalize upd B3 p (.ins T.a_Store dx (flds b d q D)) = H4 at hp4 hd4 hr4 hb4 k4
      refine s_fldaug (x := .int (D : Int)) (y := .int 1) (z := .int ((D + 1 : Nat) : Int)) T.cl_Store T.d_Store.depth (by walk_at "ev") hp4 fl_depth (by walk_at "ev") (fun A _ Q q => ⟨_, _, rfl, rfl, q A (.refl A)⟩) (by rw [fl_len]; decide) ?_
      intro B5 e5
      rw [fp_depth]
      have hp5 := e5.k hp4
      have hd5 := e5.k hd4
      have w5 : ExW B5 (upd B5 p (.ins T.a_Store dx (flds b d q (D + 1)))) := (ExS.updP (d := d) hp5).w hp5 hd5
      refine go _ _ ⟨k4.trans (e5.s.trans (ExS.updP hp5)), rfl, q, ?_⟩
      rw [if_pos hcd]
      exact ⟨⟨dx, upd_same⟩, by rw [upd_ne S.sa.pd.symm]; exact hd5, kr_mono w5 (kr_mono e5.w hr4), (hb4.mono e5).monoW w5⟩
    · intro hb B e
      have hcd : ¬ c.1 = D := of_decide_eq_false hb
      refine ⟨e.s, rfl, bd, ?_⟩
      rw [if_neg hcd]
      exact S.sa.mono e
    rintro σ' H1 ⟨x1, rfl, bd1, SA1⟩
    have hD' : c.1 < (if c.1 = D then D + 1 else D) := by split <;> omega
    have hD8 : (if c.1 = D then D + 1 else D) ≤ 8 := by have := S.d8; split <;> omega
    have hdep' : ∀ e ∈ R, e.1 ≤ (if c.1 = D then D + 1 else D) := fun e he => by have := S.dep e he; split <;> omega
    generalize (if c.1 = D then D + 1 else D) = D' at SA1 hD' hD8 hdep' k
    have hcovD := S.cov.down hD8 hdep'
    have bcv := board_cv hcovD
    have hbl := board_len R D'
    have hp8 : 2 ^ D' ≤ 2 ^ 8 := Nat.pow_le_pow_right (by decide) hD8
    obtain ⟨dx, h1⟩ := SA1.ob
    -- self._board = parted_at(self._board, bits)
    refine q_fld (P := fun A v B => ∃ q, v = .ref q ∧ LR rpC B q (boardC (partR R c) D')) T.cl_Store T.d_Store.board ((ev_callLR (r' := rpC) (bs := boardC (partR R c) D') (vs := [.ref bd1, .str (bt c)]) (ea_cons (SA1.e_board (by walk_at "ev")) (by walk_at "ea")) fun A e Q' q' E' => ⟨bd1, _, bt c, rfl, lrC_str (SA1.br.mono e), by rw [List.length_map]; omega, by rw [bt_len]; omega, ?_⟩).imp fun A v B _ _ ⟨q, e, _, h⟩ => ⟨q, e, h⟩) (by walk_at "ev") h1 (by rw [fl_len]; decide) ?_
    · rw [bt_0, bt_1, count_bt hcv.1 _ bcv, partGo_bt hcv.1 _ _ bcv, part_board hcovD hc hD']
      exact fun l B hl e' hL => q' l B hl e' (lrS_C hL)
    rintro v B2 B3 b2 ⟨q, rfl, hq⟩ b3
    rw [fp_board]
    have x3 := b2.trans b3
    have SA3 := SA1.mono x3
    have h3 := x3.k h1
    have w3 : ExW B3 (upd B3 p (.ins T.a_Store dx (flds b d q D'))) := (ExS.updP (d := d) h3).w h3 SA3.dc
    have hp4 : (upd B3 p (.ins T.a_Store dx (flds b d q D'))) p = some (.ins T.a_Store dx (flds b d q D')) := upd_same
    have hd4 : (upd B3 p (.ins T.a_Store dx (flds b d q D'))) d = some (.dK kvs) := by rw [upd_ne S.sa.pd.symm]; exact SA3.dc
    have hr4 := kr_mono w3 SA3.rs
    have hb4 := (hq.mono b3).monoW w3
    have k4 : ExS p d H (upd B3 p (.ins T.a_Store dx (flds b d q D'))) := x1.trans (x3.s.trans (ExS.updP h3))
    generalize upd B3 p (.ins T.a_Store dx (flds b d q D')) = H4 at hp4 hd4 hr4 hb4 k4
    -- halves = parted((bits, self._rooms[bits]))
    have hRv : ∀ e ∈ R, Cv e := fun e he => (S.cov.val e he).1
    obtain ⟨l, hvl, hll⟩ := kr_get hr4 hRv hcv.1 hc
    have eRooms : ∀ {σ : L2.St} {B : Hp}, Ex H4 B → σ[0]? = some (some (.ref p)) → Ev (tFld K (tVar 0) "_rooms") σ B (.ref d) := fun e h => ev_fld T.cl_Store T.d_Store.rooms (ev_var h) (e.k hp4) fl_rooms
    refine q_asgG (P := fun _ v B => ∃ t t0 l0 t1 l1, v = .ref t ∧ B t = some (.tup [.ref t0, .ref t1]) ∧ B t0 = some (.tup [.str (bt (c0 c)), .ref l0]) ∧ B t1 = some (.tup [.str (bt (c1 c)), .ref l1]) ∧ LR rpT B l0 (thg ps (c0 c)) ∧ LR rpT B l1 (thg ps (c1 c))) (ev_callE1 (P := NewT [.str (bt c), .ref l]) (R := fun v B => ∃ t t0 l0 t1 l1, v = .ref t ∧ B t = some (.tup [.ref t0, .ref t1]) ∧ B t0 = some (.tup [.str (bt (c0 c)), .ref l0]) ∧ B t1 = some (.tup [.str (bt (c1 c)), .ref l1]) ∧ LR rpT B l0 (thg ps (c0 c)) ∧ LR rpT B l1 (thg ps (c1 c))) (eg_tup (ea_cons (by walk_at "ev") (ea_cons (ev_dget (k := Sum.inr (bt c)) (eRooms (.refl H4) rfl) (by walk_at "ev") hd4 hvl) ea_nil)) (by show 2 ≤ 100000; decide)) ?_) ?_
    · rintro A v C a c' ⟨t, rfl, _, ht⟩ Q' q'
      exact ⟨t, l, c, ps, rfl, ht, (hll.mono a).mono c', hc8, S.nm, fun t' t0 l0 t1 l1 B e g g0 g1 L0 L1 => q' _ B e ⟨t', t0, l0, t1, l1, rfl, g, g0, g1, L0, L1⟩⟩
    rintro v H5 e5 ⟨t, t0, l0, t1, l1, rfl, gt, g0, g1, L0, L1⟩
    show tSeq _ _ _ [some (.ref p), some (.str (bt c)), some (.ref t), none, none] H5
    have hd5 := e5.k hd4
    have hp5 := e5.k hp4
    -- del self._rooms[bits]
    refine q_ddel (k := Sum.inr (bt c)) (eRooms e5 rfl) (by walk_at "ev") hd5 (by rw [hvl]; rfl) ?_
    intro H6 e6
    have hd6 := e6.k hd5
    have hp6 := e6.k hp5
    have w6 : ExW H6 (upd H6 d (.dK (dropK kvs (Sum.inr (bt c))))) := (ExS.updD (p := p) hd6).w hp6 hd6
    have r7 : KR (upd H6 d (.dK (dropK kvs (Sum.inr (bt c))))) (dropK kvs (Sum.inr (bt c))) (R.filter fun d => decide (d ≠ c)) ps := kr_mono w6 (kr_mono (e5.trans e6).w (kr_drop hr4 hRv hcv.1))
    have hp7 : (upd H6 d (.dK (dropK kvs (Sum.inr (bt c))))) p = some (.ins T.a_Store dx (flds b d q D')) := by rw [upd_ne S.sa.pd]; exact hp6
    have hd7 : (upd H6 d (.dK (dropK kvs (Sum.inr (bt c))))) d = some (.dK (dropK kvs (Sum.inr (bt c)))) := upd_same
    have gt7 := w6.k (e6.k gt)
    have g07 := w6.k (e6.k g0)
    have g17 := w6.k (e6.k g1)
    have L07 := (L0.mono e6).monoW w6
    have L17 := (L1.mono e6).monoW w6
    have hb7 := ((hb4.mono e5).mono e6).monoW w6
    have k7 : ExS p d H (upd H6 d (.dK (dropK kvs (Sum.inr (bt c))))) := k4.trans ((e5.trans e6).s.trans (ExS.updD hd6))
    have dl := dropK_le kvs (Sum.inr (bt c) : Key)
    generalize upd H6 d (.dK (dropK kvs (Sum.inr (bt c)))) = H7 at r7 hp7 hd7 gt7 g07 g17 L07 L17 hb7 k7
    generalize dropK kvs (Sum.inr (bt c) : Key) = kv7 at r7 hd7 dl
    -- for half, things in halves: self._rooms[half] = things
    refine ⟨_, rfl, t, rfl, ⟨_, st_of gt7⟩, for_tup (K := K) (a := t) (xs := [.ref t0, .ref t1]) (fun i σ' B => ExS p d H B ∧ B t = some (.tup [.ref t0, .ref t1]) ∧ B t0 = some (.tup [.str (bt (c0 c)), .ref l0]) ∧ B t1 = some (.tup [.str (bt (c1 c)), .ref l1]) ∧ LR rpT B l0 (thg ps (c0 c)) ∧ LR rpT B l1 (thg ps (c1 c)) ∧ B p = some (.ins T.a_Store dx (flds b d q D')) ∧ LR rpC B q (boardC (partR R c) D') ∧ ∃ kv u v, B d = some (.dK kv) ∧ kv.length ≤ 900 ∧ KR B kv ((R.filter fun d => decide (d ≠ c)) ++ [c0 c, c1 c].take i) ps ∧ σ' = [some (.ref p), some (.str (bt c)), some (.ref t), u, v]) ?_ ?_ ?_ ?_⟩
    · exact ⟨k7, gt7, g07, g17, L07, L17, hp7, hb7, kv7, none, none, hd7, by omega, by rw [List.take_zero, List.append_nil]; exact r7, rfl⟩
    · rintro i σ' B _ ⟨_, g, _⟩
      exact st_of g
    · rintro i x σ' B hi ⟨kB, gB, g0B, g1B, L0B, L1B, hpB, hbB, kv, u, v, hdB, hkl, rB, rfl⟩
      have hprt : ∀ e ∈ R.filter (fun d => decide (d ≠ c)), Cv e ∧ e ≠ c0 c ∧ e ≠ c1 c := fun e he => by
        have hnd' := part_nd S.cov hnd hc hc8
        unfold partR at hnd'
        have h3 := (List.nodup_append.mp hnd').2.2 e he
        exact ⟨hRv e (List.mem_filter.mp he).1, h3 _ List.mem_cons_self, h3 _ (List.mem_cons_of_mem _ List.mem_cons_self)⟩
      have hfl := List.length_filter_le (fun d => decide (d ≠ c)) R
      -- one half put
      have step : ∀ (cc : Code) (ll : Addr) (L : List Code), LR rpT B ll (thg ps cc) → Cv cc → cc ∉ L → (∀ e ∈ L, Cv e) → KR B kv L ps → kv.length ≤ 800 → ∀ (Q : L2.St → Hp → Prop),
          (∀ B2 kv2, ExS p d H B2 → B2 t = some (.tup [.ref t0, .ref t1]) → B2 t0 = some (.tup [.str (bt (c0 c)), .ref l0]) → B2 t1 = some (.tup [.str (bt (c1 c)), .ref l1]) → LR rpT B2 l0 (thg ps (c0 c)) → LR rpT B2 l1 (thg ps (c1 c)) → B2 p = some (.ins T.a_Store dx (flds b d q D')) → LR rpC B2 q (boardC (partR R c) D') → B2 d = some (.dK kv2) → kv2.length ≤ kv.length + 1 → KR B2 kv2 (L ++ [cc]) ps → Q [some (.ref p), some (.str (bt c)), some (.ref t), some (.str (bt cc)), some (.ref ll)] B2) →
          ∀ D : Ends, D.nx = Q → sDPut (tFld K (tVar 0) "_rooms") (tVar 3) (tVar 4) D [some (.ref p), some (.str (bt c)), some (.ref t), some (.str (bt cc)), some (.ref ll)] B := fun cc ll L hL hcc hn hv hK hk Q kk D hD => by
        refine s_dput (k := Sum.inr (bt cc)) (P := fun _ v _ => v = .ref ll) (Ev.g (v := .ref ll) (by walk_at "ev") fun _ _ _ _ => rfl) (ev_fld T.cl_Store T.d_Store.rooms (by walk_at "ev") hpB fl_rooms) (by walk_at "ev") hdB (by omega) ?_
        rintro v2 B1 B2 e1 rfl e2
        have e3 := e1.trans e2
        have hp2 := e3.k hpB
        have hd2 := e3.k hdB
        have w2 : ExW B2 (upd B2 d (.dK (putK kv (Sum.inr (bt cc)) (.ref ll)))) := (ExS.updD (p := p) hd2).w hp2 hd2
        have w3 := e3.w.trans w2
        rw [hD]
        refine kk _ (putK kv (Sum.inr (bt cc)) (.ref ll)) (kB.trans (e3.s.trans (ExS.updD hd2))) (w3.k gB) (w3.k g0B) (w3.k g1B) (L0B.monoW w3) (L1B.monoW w3) (by rw [upd_ne S.sa.pd]; exact hp2) (hbB.monoW w3) upd_same ?_ (kr_mono w3 (kr_snoc hK hv hcc hn hL))
        rw [putK_new _ (kr_none hK hv hcc hn), List.length_append]
        exact Nat.le_refl _
      have hlk : kv.length ≤ R.length + 2 := by
        rw [kr_len rB, List.length_append, List.length_take]
        show _ + min i 2 ≤ _
        omega
      match i, hi with
      | 0, hi =>
        obtain rfl := Option.some.inj hi
        refine ⟨t0, _, rfl, st_of g0B, rfl, _, _, rfl, _, _, rfl, rfl, ?_⟩
        refine step (c0 c) l0 _ L0B (cv0 hcv.1) (fun z => ?_) (fun e he => ?_) rB (by omega) _ (fun B2 kv2 x1 x2 x3 x4 x5 x6 x7 x8 x9 x10 x11 => ⟨x1, x2, x3, x4, x5, x6, x7, x8, kv2, _, _, x9, by omega, by rw [List.take_zero, List.append_nil] at x11; exact x11, rfl⟩) _ rfl
        · rw [List.take_zero, List.append_nil] at z
          exact (hprt _ z).2.1 rfl
        · rw [List.take_zero, List.append_nil] at he
          exact (hprt e he).1
      | 1, hi =>
        obtain rfl := Option.some.inj hi
        refine ⟨t1, _, rfl, st_of g1B, rfl, _, _, rfl, _, _, rfl, rfl, ?_⟩
        refine step (c1 c) l1 _ L1B (cv1 hcv.1) (fun z => ?_) (fun e he => ?_) rB (by omega) _ (fun B2 kv2 x1 x2 x3 x4 x5 x6 x7 x8 x9 x10 x11 => ⟨x1, x2, x3, x4, x5, x6, x7, x8, kv2, _, _, x9, by omega, by rw [List.append_assoc] at x11; exact x11, rfl⟩) _ rfl
        · rcases List.mem_append.mp z with z | z
          · exact (hprt _ z).2.2 rfl
          · exact c01 c (List.mem_singleton.mp z).symm
        · rcases List.mem_append.mp he with he | he
          · exact (hprt e he).1
          · rw [List.mem_singleton.mp he]
            exact cv0 hcv.1
      | i + 2, hi => exact absurd hi (by simp)
    · rintro σ' B ⟨kB, gB, g0B, g1B, L0B, L1B, hpB, hbB, kv, u, v, hdB, hkl, rB, rfl⟩
      exact k q kv B kB ⟨⟨dx, hpB⟩, hdB, rB, hbB⟩
end


theorem nat_few : ∀ (n : Nat) (L : List Nat), L.Nodup → (∀ x ∈ L, x < n) → L.length ≤ n
  | 0, [], _, _ => Nat.le_refl _
  | 0, x :: _, _, h => absurd (h x List.mem_cons_self) (Nat.not_lt_zero _)
  | n + 1, L, hd, h => by
    by_cases hm : n ∈ L
    · have := nat_few n (L.erase n) (hd.erase n) fun x hx => by
        have h1 := h x (List.mem_of_mem_erase hx)
        have h2 : x ≠ n := fun z => by
          rw [z] at hx
          exact (List.Nodup.not_mem_erase hd) hx
        omega
      rw [List.length_erase_of_mem hm] at this
      omega
    · have := nat_few n L hd fun x hx => by
        have h1 := h x hx
        have h2 : x ≠ n := fun z => hm (z ▸ hx)
        omega
      omega
theorem cov_len {R : List Code} (h : Cov R 8) (nd : R.Nodup) : R.length ≤ 256 := by
  have hi : ∀ c ∈ R, c.2 * 2 ^ (8 - c.1) < 2 ^ 8 ∧ inB 8 (c.2 * 2 ^ (8 - c.1)) c = true := fun c hc => by
    have hv := h.val c hc
    have := blk_end hv.1 hv.2
    have := Nat.two_pow_pos (8 - c.1)
    exact ⟨by omega, inB_iff.mpr ⟨hv.2, Nat.mul_div_cancel _ (Nat.two_pow_pos _)⟩⟩
  have := nat_few (2 ^ 8) (R.map fun c => c.2 * 2 ^ (8 - c.1)) ?_ fun x hx => ?_
  · rw [List.length_map] at this
    exact this
  · rw [List.Nodup, List.pairwise_map]
    refine List.Pairwise.imp_of_mem ?_ nd
    intro a b ha hb hne e
    exact hne (h.uq _ (hi a ha).1 a ha b hb (hi a ha).2 (e ▸ (hi b hb).2))
  · obtain ⟨c, hc, rfl⟩ := List.mem_map.mp hx
    exact (hi c hc).1
section
variable {P : Program} {w : World} {K : PySem.W.Frag} {mg : Str → Option Value} {base : Heap} [TabCx]
def spPartFor (C : Addr) : Sp := fun vs H Q _ => ∃ (p d bd : Addr) (kvs : List (Key × V)) (b : Nat) (R : List Code) (D : Nat) (ps : List (Int × Int)) (n : Int), vs = [.ref p, .int n] ∧ SA C H p d bd kvs b R D ps ∧ PutS b R D ps n ∧ 1 ≤ b ∧ (0 ≤ n ∧ n < 256) ∧
  ∀ (bd' : Addr) (kvs' : List (Key × V)) (R' : List Code) (D' : Nat) (B : Hp), ExS p d H B → SA C B p d bd' kvs' b R' D' ps → Good b R' D' ps → Q .non B
theorem PutS.st {C : Addr} {H : Hp} {p d bd : Addr} {kvs : List (Key × V)} {b : Nat} {R : List Code} {D : Nat} {ps : List (Int × Int)} {n : Int} (h : PutS b R D ps n) (s : SA C H p d bd kvs b R D ps) : St C H p d bd kvs b R D ps := ⟨s, h.cov, h.dep, h.d8, h.nm⟩
theorem ok_m__part_for (T : Top K mg) : FnOk P w K mg base CX0 7 T.a_m__part_for T.fd_m__part_for ["self", "name"] (spPartFor T.a_Store) := by
  refine T.F_m__part_for.ok sc_m__part_for (fun vs H Q E h => ?_) (fun cdv A outer s H vs Q E hr h => ?_)
  · obtain ⟨p, d, bd, kvs, b, R, D, ps, n, rfl, _⟩ := h
    rfl
  · obtain ⟨p, d, bd, kvs, b, R, D, ps, n, rfl, S, hP, hb, hn, k⟩ := h
    refine ⟨_, (pss_cons (ps_set (i := 2) sc_m__part_for.nd rfl (Or.inl rfl) (pe_meth (pv 0) T.cl_Store T.M_m__bits_of (ok_m__bits_of T) (hr.mono (by decide)) T.b_m__bits_of .nil pass0 (pa_cons (pv 1) pa_nil)))
      (pss_one (ps_while PassesOwn.never (pt_cmpR op_gt (pe_callB (r := rLen K) call_len_seq (by rfl) T.z_len (by decide +kernel) (pa_cons (by exact (pe_dget (hu_of hr) (pe_fld (pv 0) rfl) (pv 2) (fun _ _ => rfl))) pa_nil)) (pe_fld (pv 0) rfl) (nomark _)) (pss_cons (ps_expr (pe_meth (pv 0) T.cl_Store T.M_m__part (ok_m__part T) (hr.mono (by decide)) T.b_m__part .nil pass0 (pa_cons (pv 2) pa_nil)))
      (pss_one (ps_set (i := 2) sc_m__part_for.nd rfl (Or.inl rfl) (pe_meth (pv 0) T.cl_Store T.M_m__bits_of (ok_m__bits_of T) (hr.mono (by decide)) T.b_m__bits_of .nil pass0 (pa_cons (pv 1) pa_nil)))))))), ?_⟩
    refine q_asg (v := .str (bt (roomC R n))) (S.e_meth (by walk_at "ev") (by walk_at "ea") (spv_ask (z := zBits) (hP.st S) hn)) ?_
    intro H1 e1
    show tWhile _ _ _ [some (.ref p), some (.int n), some (.str (bt (roomC R n)))] H1
    refine s_while (fun m σ' B => ExS p d H B ∧ ∃ bd kvs R D, SA T.a_Store B p d bd kvs b R D ps ∧ PutS b R D ps n ∧ m = 8 - (roomC R n).1 ∧ σ' = [some (.ref p), some (.int n), some (.str (bt (roomC R n)))]) ⟨e1.s, bd, kvs, R, D, S.mono e1, hP, rfl, rfl⟩ ?_
    rintro m σ' B ⟨x1, bd, kvs, R, D, S, hP, rfl, rfl⟩
    have ST := hP.st S
    obtain ⟨l, ⟨xs, hx, hpx⟩, h3⟩ := ST.room n
    refine ⟨decide (b < cnt ps (roomC R n)), et_is (et_test (ev_op (ev_cb (ea_cons (h3 (by walk_at "ev") (by walk_at "ev")) ea_nil) (rc_len (sq_of hx))) (S.e_bound (by walk_at "ev")) rv_I0)) ?_, fun hb' B2 e2 => ?_, fun hb' B2 e2 => ?_⟩
    · rw [hpx.length]
      refine decide_eq_decide.mpr ?_
      show ((b : Int) < ((thg ps (roomC R n)).length : Int)) ↔ b < (thg ps (roomC R n)).length
      omega
    · have hg : b < cnt ps (roomC R n) := of_decide_eq_true hb'
      obtain ⟨h8, hP', hlt⟩ := hP.part hb hg
      have hc8 := (hP'.cov.val _ (room_mem hP'.cov n).1).2
      refine q_dropC ((S.mono e2).g_meth (by walk_at "ev") (by walk_at "ea") fun B3 e3 => ⟨p, d, bd, kvs, b, R, D, ps, roomC R n, rfl, (ST.mono e2).mono e3, (room_mem hP.cov n).1, h8, by have := cov_len hP.cov hP.nd; omega, hP.nd, fun bd' kvs' B4 x4 S4 => ?_⟩)
      refine s_asg (v := .str (bt (roomC (partR R (roomC R n)) n))) (S4.e_meth (by walk_at "ev") (by walk_at "ea") (spv_ask (z := zBits) (hP'.st S4) hn)) ?_
      intro B5 e5
      exact ⟨8 - (roomC (partR R (roomC R n)) n).1, by omega, x1.trans ((e2.trans e3).s.trans (x4.trans e5.s)), bd', kvs', _, _, S4.mono e5, hP', rfl, rfl⟩
    · have hg : ¬ b < cnt ps (roomC R n) := of_decide_eq_false hb'
      exact k bd kvs R D B2 (x1.trans e2.s) (S.mono e2) (hP.done (by omega))
/-- a store whose rooms are as they should be -/
theorem Good.st {C : Addr} {H : Hp} {p d bd : Addr} {kvs : List (Key × V)} {b : Nat} {R : List Code} {D : Nat} {ps : List (Int × Int)} (h : Good b R D ps) (s : SA C H p d bd kvs b R D ps) : St C H p d bd kvs b R D ps := ⟨s, h.cov, h.dep, h.d8, h.nm⟩
def spPut (C : Addr) : Sp := fun vs H Q _ => ∃ (p d bd : Addr) (kvs : List (Key × V)) (b : Nat) (R : List Code) (D : Nat) (ps : List (Int × Int)) (n v : Int), vs = [.ref p, .int n, .int v] ∧ SA C H p d bd kvs b R D ps ∧ Good b R D ps ∧ 1 ≤ b ∧ (0 ≤ n ∧ n < 256) ∧
  ∀ (bd' : Addr) (kvs' : List (Key × V)) (R' : List Code) (D' : Nat) (B : Hp), ExS p d H B → SA C B p d bd' kvs' b R' D' (insT ps n v) → Good b R' D' (insT ps n v) → Q (vOpt (valT ps n)) B
theorem ok_m_put (T : Top K mg) : FnOk P w K mg base CX0 8 T.a_m_put T.fd_m_put ["self", "name", "value"] (spPut T.a_Store) := by
  refine T.F_m_put.ok sc_m_put (fun vs H Q E h => ?_) (fun cdv A outer s H vs Q E hr h => ?_)
  · obtain ⟨p, d, bd, kvs, b, R, D, ps, n, v, rfl, _⟩ := h
    rfl
  · obtain ⟨p, d, bd, kvs, b, R, D, ps, n, v, rfl, S, G, hb, hn, k⟩ := h
    refine ⟨_, (pss_cons (ps_set (i := 3) sc_m_put.nd rfl (Or.inl rfl) (pe_meth (pv 0) T.cl_Store T.M_m__bits_of (ok_m__bits_of T) (hr.mono (by decide)) T.b_m__bits_of .nil pass0 (pa_cons (pv 1) pa_nil)))
      (pss_cons (ps_set (i := 4) sc_m_put.nd rfl (Or.inl rfl) (by exact (pe_dget (hu_of hr) (pe_fld (pv 0) rfl) (pv 3) (fun _ _ => rfl))))
      (pss_cons (ps_set (i := 5) sc_m_put.nd rfl (Or.inl rfl) (pe_call (ok_value_in T) (hr.mono (by decide)) rfl T.g_value_in T.F_value_in.kp T.b_value_in .nil pass0 (pa_cons (pv 4) (pa_cons (pv 1) pa_nil))))
      (pss_cons (ps_dput (hu_of hr) (pe_fld (pv 0) rfl) (pv 3) (pe_call (ok_with_thing T) (hr.mono (by decide)) rfl T.g_with_thing T.F_with_thing.kp T.b_with_thing .nil pass0 (pa_cons (pv 4) (pa_cons (pv 1) (pa_cons (pv 2) pa_nil)))) rfl)
      (pss_cons (ps_expr (pe_meth (pv 0) T.cl_Store T.M_m__part_for (ok_m__part_for T) (hr.mono (by decide)) T.b_m__part_for .nil pass0 (pa_cons (pv 1) pa_nil)))
      (pss_one (ps_ret (pv 5)))))))), ?_⟩
    have ST := G.st S
    obtain ⟨hcm, hin⟩ := room_mem G.cov n
    have hcv := G.cov.val _ hcm
    refine q_asg (v := .str (bt (roomC R n))) (S.e_meth (by walk_at "ev") (by walk_at "ea") (spv_ask (z := zBits) ST hn)) ?_
    intro H1 e1
    have S1 := S.mono e1
    show tSeq _ _ _ [some (.ref p), some (.int n), some (.int v), some (.str (bt (roomC R n))), none, none] H1
    obtain ⟨l, hl, h3⟩ := (ST.mono e1).room n
    refine q_asg (v := .ref l) (h3 (by walk_at "ev") (by walk_at "ev")) ?_
    intro H2 e2
    have S2 := S1.mono e2
    have hl2 := hl.mono e2
    show tSeq _ _ _ [some (.ref p), some (.int n), some (.int v), some (.str (bt (roomC R n))), some (.ref l), none] H2
    refine q_asg (v := vOpt (valT ps n)) (ev_is (ev_call (vs := [.ref l, .int n]) (by walk_at "ea") (spv_valin hl2)) (congrArg vOpt (valT_thg G.cov ps n))) ?_
    intro H3 e3
    have S3 := S2.mono e3
    have hl3 := hl2.mono e3
    generalize hvo : vOpt (valT ps n) = vo at k
    show tSeq _ _ _ [some (.ref p), some (.int n), some (.int v), some (.str (bt (roomC R n))), some (.ref l), some vo] H3
    have hkl := kr_len S3.rs
    have hR := cov_len G.cov G.nd
    refine q_dput (k := Sum.inr (bt (roomC R n))) (P := fun A v' B => ∃ q, v' = .ref q ∧ LR rpT B q (insT (thg ps (roomC R n)) n v)) ((ev_callLR (r' := rpT) (bs := insT (thg ps (roomC R n)) n v) (by walk_at "ea") (spl_with hl3 (by have := (G.st S).len (roomC R n); omega))).imp fun A v' B _ _ ⟨q, e, _, h⟩ => ⟨q, e, h⟩) (S3.e_rooms (by walk_at "ev")) (by walk_at "ev") S3.dc (by omega) ?_
    rintro v' B B2 b1 ⟨q, rfl, hq⟩ b2
    have x3 := b1.trans b2
    have S4 := S3.mono x3
    obtain ⟨dx, h4⟩ := S4.ob
    have w4 : ExW B2 (upd B2 d (.dK (putK kvs (Sum.inr (bt (roomC R n))) (.ref q)))) := (ExS.updD (p := p) S4.dc).w h4 S4.dc
    have hins := thg_ins G.nm n v
    have S5 : SA T.a_Store (upd B2 d (.dK (putK kvs (Sum.inr (bt (roomC R n))) (.ref q)))) p d bd (putK kvs (Sum.inr (bt (roomC R n))) (.ref q)) b R D (insT ps n v) := by
      refine ⟨⟨dx, by rw [upd_ne S.pd]; exact h4⟩, upd_same, kr_put (ps := ps) (kr_mono w4 S4.rs) (fun e he => (G.cov.val e he).1) hcv.1 hcm ?_ ?_, S4.br.monoW w4⟩
      · rw [hins, if_pos hin]
        exact (hq.mono b2).monoW w4
      · intro e he hne
        rw [hins, if_neg fun z => hne (room_eq G.cov he z).symm]
    have k5 : ExS p d H (upd B2 d (.dK (putK kvs (Sum.inr (bt (roomC R n))) (.ref q)))) := ((((e1.trans e2).trans e3).trans x3).s).trans (ExS.updD S4.dc)
    refine q_dropC (S5.g_meth (by walk_at "ev") (by walk_at "ea") fun B6 e6 => ⟨p, d, bd, _, b, R, D, insT ps n v, n, rfl, S5.mono e6, G.put v hn.1 hn.2, hb, hn, fun bd' kvs' R' D' B7 x7 S7 G7 => ?_⟩)
    refine s_retk (v := vo) (by walk_at "ev") fun B8 e8 => ?_
    exact k bd' kvs' R' D' B8 ((k5.trans e6.s).trans (x7.trans e8.s)) (S7.mono e8) G7
end


section
variable [TabCx]
variable {K : PySem.W.Frag} {σ : L2.St} {H H' : Hp} {ta tb te td ty tv : TE} {D : Ends} {tz : TS} {v x : V} {P P' : Hp → V → Hp → Prop}
theorem q_par {i j : Nat} {t : TA} (h : EvA t σ H [v, x]) (k : ∀ B, Ex H B → tz D ((σ.set i (some v)).set j (some x)) B) : tSeq (tPar i j t) tz D σ H := h H (.refl H) _ fun B e => ⟨v, x, rfl, k B e⟩
theorem ev_callE2 {R : V → Hp → Prop} {sp : Sp} {E : XK} (ha : EvG ta σ H P) (hb : EvG tb σ H P') (hs : ∀ A u B B2 v C, Ex H A → Ex A B → P A u B → Ex B B2 → Ex B2 C → P' B2 v C → ∀ Q : VK, (∀ z G, Ex C G → R z G → Q z G) → sp [u, v] C Q E) : EvG (tCall sp [] E (tCons ta (tCons tb tNil))) σ H (fun _ z G => R z G) := fun A a Q q =>
  ha A a _ fun u B b hu => hb B (a.trans b) _ fun v C c hv => hs A u B B v C a b hu (.refl B) c hv Q fun z G g r => q z G ((b.trans c).trans g) r
theorem s_asgTG {g : TG} (h : EvG te σ H P) (k : ∀ v B, Ex H B → P H v B → g v σ B D.nx) : tAsg te g D σ H := h H (.refl H) _ fun v B b p => k v B b p
theorem q_asgTG {g : TG} (h : EvG te σ H P) (k : ∀ v B, Ex H B → P H v B → g v σ B (tz D)) : tSeq (tAsg te g) tz D σ H := h H (.refl H) _ fun v B b p => k v B b p
end
section
variable [TabCx]
theorem canHalve_board {R : List Code} {D : Nat} (h : Cov R D) : canHalve ((boardC R D).map bt) = decide (0 < D ∧ ∀ c ∈ R, c.1 < D) := by
  unfold canHalve
  rw [List.length_map, board_len]
  rcases Nat.eq_zero_or_pos D with z | z
  · subst z
    rw [show decide (1 < 2 ^ 0) = false from rfl, Bool.false_and]
    exact (decide_eq_false fun w => Nat.lt_irrefl 0 w.1).symm
  · have hl : 1 < 2 ^ D := Nat.one_lt_two_pow (by omega)
    rw [decide_eq_true hl, Bool.true_and]
    by_cases g : ∀ c ∈ R, c.1 < D
    · rw [decide_eq_true (show 0 < D ∧ ∀ c ∈ R, c.1 < D from ⟨z, g⟩)]
      have hd : Cov R (D - 1) := h.down (Nat.sub_le _ _) fun c hc => by have := g c hc; omega
      have e : boardC R D = twice (boardC R (D - 1)) := by rw [twice_board hd, show D - 1 + 1 = D by omega]
      rw [e, ← twice_map, evens_twice, odds_twice]
      exact decide_eq_true rfl
    · rw [show decide (0 < D ∧ ∀ c ∈ R, c.1 < D) = false from decide_eq_false fun w => g w.2]
      refine decide_eq_false fun he => g fun c hc => ?_
      have hv := h.val c hc
      refine Nat.lt_of_le_of_ne hv.2 fun hcD => ?_
      have hcv : c.2 < 2 ^ D := hcD ▸ hv.1
      have h1 := congrArg (fun l : List Str => l[c.2 / 2]?) he
      simp only [evens_get, List.getElem?_tail] at h1
      have hp2 : 2 ^ D = 2 * 2 ^ (D - 1) := by rw [show D = D - 1 + 1 by omega, Nat.pow_succ, Nat.mul_comm, show D - 1 + 1 - 1 = D - 1 by omega]
      have at_ : ∀ i, i < 2 ^ D → ((boardC R D).map bt)[i]? = some (bt (atC R D i)) := fun i hi => by
        unfold boardC
        rw [List.getElem?_map, List.getElem?_map, List.getElem?_range hi]
        rfl
      have i0 : 2 * (c.2 / 2) < 2 ^ D := by omega
      have i1 : 2 * (c.2 / 2) + 1 < 2 ^ D := by omega
      rw [at_ _ i0, at_ _ i1] at h1
      have m0 := atC_mem h i0
      have m1 := atC_mem h i1
      have e := bt_inj (h.val _ m0.1).1 (h.val _ m1.1).1 (Option.some.inj h1)
      have hcb : inB D c.2 c = true := inB_iff.mpr ⟨hv.2, by rw [hcD, Nat.sub_self, Nat.pow_zero, Nat.div_one]⟩
      have only : ∀ i, inB D i c = true → i = c.2 := fun i hb => by
        have := (inB_iff.mp hb).2
        rw [hcD, Nat.sub_self, Nat.pow_zero, Nat.div_one] at this
        exact this
      rcases Nat.mod_two_eq_zero_or_one c.2 with q | q
      · have ei : 2 * (c.2 / 2) = c.2 := by omega
        have e0 : atC R D (2 * (c.2 / 2)) = c := by rw [ei]; exact atC_eq h hcv hc hcb
        rw [e0] at e
        have m1' := m1.2
        rw [← e] at m1'
        have := only _ m1'
        omega
      · have ei : 2 * (c.2 / 2) + 1 = c.2 := by omega
        have e1 : atC R D (2 * (c.2 / 2) + 1) = c := by rw [ei]; exact atC_eq h hcv hc hcb
        rw [e1] at e
        have m0' := m0.2
        rw [e] at m0'
        have := only _ m0'
        omega
theorem evens_board {R : List Code} {D : Nat} (h : Cov R D) (hD : 0 < D) (g : ∀ c ∈ R, c.1 < D) : evens ((boardC R D).map bt) = (boardC R (D - 1)).map bt := by
  have hd : Cov R (D - 1) := h.down (Nat.sub_le _ _) fun c hc => by have := g c hc; omega
  have e : boardC R D = twice (boardC R (D - 1)) := by rw [twice_board hd, show D - 1 + 1 = D by omega]
  rw [e, ← twice_map, evens_twice]
theorem okC (R : List Code) : OkL (R.map bt) := fun s hs => by
  obtain ⟨c, _, rfl⟩ := List.mem_map.mp hs
  exact bt_ok c
end
section
variable {P : Program} {w : World} {K : PySem.W.Frag} {mg : Str → Option Value} {base : Heap} [TabCx]
def canJ (b : Nat) (R : List Code) (ps : List (Int × Int)) (u : Code) : Bool := decide (c0 u ∈ R) && (decide (c1 u ∈ R) && decide (cnt ps (c0 u) + cnt ps (c1 u) ≤ b))
def spCanJoin (C : Addr) : Sp := fun vs H Q _ => ∃ (p d bd : Addr) (kvs : List (Key × V)) (b : Nat) (R : List Code) (D : Nat) (ps : List (Int × Int)) (u : Code), vs = [.ref p, .str (bt u)] ∧ St C H p d bd kvs b R D ps ∧ Cv u ∧ u.1 ≤ 8 ∧ RetV (.bl (canJ b R ps u)) H Q
theorem in_kr {H : Hp} {kvs : List (Key × V)} {R : List Code} {ps : List (Int × Int)} (h : KR H kvs R ps) (hv : ∀ d ∈ R, Cv d) {c : Code} (hc : Cv c) : (valV kvs (Sum.inr (bt c))).isSome = decide (c ∈ R) := by
  by_cases m : c ∈ R
  · obtain ⟨l, h1, _⟩ := kr_get h hv hc m
    rw [h1, decide_eq_true m]
    rfl
  · rw [kr_none h hv hc m, decide_eq_false m]
    rfl
theorem fil2 (R : List Code) (c : Code) : (R.filter fun d => decide (d ≠ c0 c)).filter (fun d => decide (d ≠ c1 c)) = R.filter fun d => decide (d ≠ c0 c) && decide (d ≠ c1 c) := by
  rw [List.filter_filter]
  exact List.filter_congr fun d _ => Bool.and_comm _ _
def spJoinC (C : Addr) : Sp := fun vs H Q _ => ∃ (p d bd : Addr) (kvs : List (Key × V)) (b : Nat) (R : List Code) (D : Nat) (ps : List (Int × Int)) (u : Code), vs = [.ref p, .str (bt u)] ∧ St C H p d bd kvs b R D ps ∧ R.Nodup ∧ Cv u ∧ c0 u ∈ R ∧ c1 u ∈ R ∧ TabsOk H ∧
  ∀ (bd' : Addr) (kvs' : List (Key × V)) (B : Hp), ExS p d H B → SA C B p d bd' kvs' b (joinR R u) D ps → Q .non B
end


section
variable {P : Program} {w : World} {K : PySem.W.Frag} {mg : Str → Option Value} {base : Heap} [TabCx]
theorem TakeS.st {C : Addr} {H : Hp} {p d bd : Addr} {kvs : List (Key × V)} {b : Nat} {R : List Code} {D : Nat} {ps : List (Int × Int)} {n : Int} (h : TakeS b R D ps n) (s : SA C H p d bd kvs b R D ps) : St C H p d bd kvs b R D ps := ⟨s, h.cov, h.dep, h.d8, h.nm⟩
def spJoinFrom (C : Addr) : Sp := fun vs H Q _ => ∃ (p d bd : Addr) (kvs : List (Key × V)) (b : Nat) (R : List Code) (D : Nat) (ps : List (Int × Int)) (n : Int), vs = [.ref p, .str (bt (roomC R n))] ∧ SA C H p d bd kvs b R D ps ∧ TakeS b R D ps n ∧ TabsOk H ∧
  ∀ (bd' : Addr) (kvs' : List (Key × V)) (R' : List Code) (B : Hp), ExS p d H B → SA C B p d bd' kvs' b R' D ps → TakeS b R' D ps n → (∀ c ∈ R', 0 < c.1 → b < cnt ps (up c)) → Q .non B
theorem bt_ne_nil {c : Code} : decide (V.str (bt c) = V.str "") = decide (c.1 = 0) := by
  rw [decide_str]
  refine decide_eq_decide.mpr ⟨fun z => ?_, fun z => ?_⟩
  · have := congrArg Str.length z
    rw [bt_len] at this
    exact this
  · obtain ⟨l, k⟩ := c
    obtain rfl : l = 0 := z
    exact bt_nil k
theorem canJ_iff {b : Nat} {R : List Code} {ps : List (Int × Int)} {u : Code} : canJ b R ps u = true ↔ c0 u ∈ R ∧ c1 u ∈ R ∧ cnt ps (c0 u) + cnt ps (c1 u) ≤ b := by
  unfold canJ
  rw [Bool.and_eq_true_iff, Bool.and_eq_true_iff, decide_eq_true_iff, decide_eq_true_iff, decide_eq_true_iff]
def spHalveB (C : Addr) : Sp := fun vs H Q _ => ∃ (p d bd : Addr) (kvs : List (Key × V)) (b : Nat) (R : List Code) (D : Nat) (ps : List (Int × Int)), vs = [.ref p] ∧ St C H p d bd kvs b R D ps ∧
  ∀ (bd' : Addr) (D' : Nat) (B : Hp), ExS p d H B → SA C B p d bd' kvs b R D' ps → (∀ c ∈ R, c.1 ≤ D') → (∃ c ∈ R, c.1 = D') → Q .non B
/-- take: told, or refused with all as it was -/
def spTake (C NT : Addr) : Sp := fun vs H Q E => ∃ (p d bd : Addr) (kvs : List (Key × V)) (b : Nat) (R : List Code) (D : Nat) (ps : List (Int × Int)) (n : Int), vs = [.ref p, .int n] ∧ SA C H p d bd kvs b R D ps ∧ Good b R D ps ∧ (0 ≤ n ∧ n < 256) ∧ TabsOk H ∧
  ((valT ps n = none ∧ ∀ B, Ex H B → E (.ref NT) none B) ∨ ∃ v, valT ps n = some v ∧ ∀ (bd' : Addr) (kvs' : List (Key × V)) (R' : List Code) (D' : Nat) (B : Hp), ExS p d H B → SA C B p d bd' kvs' b R' D' (delT ps n) → Good b R' D' (delT ps n) → Q (.int v) B)
end



section
variable {P : Program} {w : World} {K : PySem.W.Frag} {mg : Str → Option Value} {base : Heap} [TabCx]
/-- the rooms as told: in order, each with its things -/
def roomsT (b : Nat) (ps : List (Int × Int)) : List (Code × List (Int × Int)) := (canon b ps).map fun c => (c, thg ps c)
def spRooms (C : Addr) : Sp := fun vs H Q _ => ∃ (p d bd : Addr) (kvs : List (Key × V)) (b : Nat) (R : List Code) (D : Nat) (ps : List (Int × Int)), vs = [.ref p] ∧ SA C H p d bd kvs b R D ps ∧ Good b R D ps ∧ 1 ≤ b ∧ RetLR rpRm (roomsT b ps) H Q
theorem prT_any {H : Hp} {F G : Addr → Prop} : ∀ {xs : List V} {as : List (Int × Int)}, PRF rpT F H xs as → PRF rpT G H xs as
  | _, _, .nil => .nil
  | _, _, .cons a t => .cons a (prT_any t)
theorem el_sortD {σ : L2.St} {H : Hp} {te : TE} {d : Addr} {kvs : List (Key × V)} {b : Nat} {R : List Code} {D : Nat} {ps : List (Int × Int)} (h : Ev te σ H (.ref d)) (hd : H d = some (.dK kvs)) (hk : KR H kvs R ps) (G : Good b R D ps) (hb : 1 ≤ b) : EvLR rpC (tCB rSortedDS (tCons te tNil)) σ H (canon b ps) := fun A a Q q =>
  h A a _ fun B e => ⟨d, kvs, R.map bt, rfl, .inl ((a.trans e).k hd), kr_keys hk, fun ys p hp hs hn => by
    have e1 := G.sorted hb hp hs
    rw [e1]
    exact q _ _ (e.trans (.new hn)) ⟨p, rfl, fresh_back e hn, _, upd_same, prS_C pr_strs⟩⟩
theorem ok_m_rooms (T : Top K mg) : FnOk P w K mg base CX0 1 T.a_m_rooms T.fd_m_rooms ["self"] (spRooms T.a_Store) := by
  refine T.F_m_rooms.ok sc_m_rooms (fun vs H Q E h => ?_) (fun cdv A outer s H vs Q E hr h => ?_)
  · obtain ⟨p, d, bd, kvs, b, R, D, ps, rfl, _⟩ := h
    rfl
  · obtain ⟨p, d, bd, kvs, b, R, D, ps, rfl, S, G, hb, k⟩ := h
    refine ⟨_, (pss_one (ps_ret (pe_lc (own := [("bits", 1)]) (te := tTup (tCons (tVar 1) (tCons (tCB (rList K) (tCons (tDGet (tFld K (tVar 0) "_rooms") (tVar 1)) tNil)) tNil))) (g := gName 1) (tt := tYes) rfl sc_m_rooms.nd (pi_list (pe_callB (call_sortedDS rfl) (by rfl) T.z_sorted (by decide +kernel) (pa_cons (pe_fld (pv 0) rfl) pa_nil))) (blkOk_by (N := n_m_rooms) (sc := defScope s_m_rooms) (by decide +kernel)) (fun _ _ _ _ _ => pg_name (i := 1) sc_m_rooms.nd rfl (Or.inl rfl)) (fun _ _ _ _ _ => by exact pts_nil) (fun _ _ _ _ _ => by exact (pe_tup (pa_cons (pv 1) (pa_cons (pe_callTy (r := rList K) call_list_of (by rfl) T.z_list (by decide +kernel) (pa_cons (by exact (pe_dget (hu_of hr) (pe_fld (pv 0) rfl) (pv 1) (fun _ _ => rfl))) pa_nil)) pa_nil))))))), ?_⟩
    have hcl : (canon b ps).length ≤ 256 := by
      rw [← (G.perm hb).length_eq]
      exact cov_len G.cov G.nd
    refine s_retG (P := fun A v B => ∃ q, v = .ref q ∧ A q = none ∧ LR rpRm B q (roomsT b ps)) (lcG (K := K) (P := fun _ v C => ∃ q, v = .ref q ∧ LR rpC C q (canon b ps)) ((el_sortD (S.e_rooms (by walk_at "ev")) S.dc S.rs G hb).imp fun A v B _ _ ⟨q, e, _, l⟩ => ⟨q, e, l⟩) ?_) ?_
    · rintro A v B a e ⟨q, rfl, ⟨xs, hx, hpx⟩⟩
      have S1 := (S.mono a).mono e
      refine (lcLR (K := K) (r := rpC) (r' := rpRm) (fun _ => true) (fun c => (c, thg ps c)) ev_c (sq_of hx) hpx (by omega) (fun _ => rfl) ?_ ?_).imp ?_
      · intro v c H1 F e1 _ _
        exact fun H5 e5 Q' q' => q' H5 (.refl H5)
      · rintro v c H1 F e1 hF hc rfl _
        have hcR := (G.mem hb c).mpr hc
        have S2 := S1.mono e1
        obtain ⟨l, _, hl, hg⟩ := S2.e_room G.cov hcR
        exact ee_P (ee_var (v := .str (bt c)) (by walk_at "ev") rfl) (ee_L (ev_listLR (hg (by walk_at "ev") (by walk_at "ev")) hl) hF fun B ys _ h => prT_any h)
      · rintro A2 v C a2 _ ⟨q2, rfl, hq, hl⟩
        rw [List.filter_eq_self.mpr (fun _ _ => rfl)] at hl
        exact ⟨q2, rfl, fresh_back (e.trans a2) hq, hl⟩
    · rintro v B e ⟨q, rfl, hq, hl⟩
      exact k q B hq e hl
end

section
variable {P : Program} {w : World} {K : PySem.W.Frag} {mg : Str → Option Value} {base : Heap} [TabCx]
def spThings (C : Addr) : Sp := fun vs H Q _ => ∃ (p d bd : Addr) (kvs : List (Key × V)) (b : Nat) (R : List Code) (D : Nat) (ps : List (Int × Int)), vs = [.ref p] ∧ St C H p d bd kvs b R D ps ∧ R.Nodup ∧ TabsOk H ∧ RetLR rpT ps H Q
theorem kr_valsL {H : Hp} {kvs : List (Key × V)} {R : List Code} {ps : List (Int × Int)} (h : KR H kvs R ps) : Paired (fun (kv : Key × V) a => ∃ l, kv.2 = V.ref l ∧ LR rpT H l a) kvs (R.map (thg ps)) := by
  induction h with
  | nil => exact .nil
  | cons a t ih =>
    obtain ⟨l, rfl, h⟩ := a
    exact .cons ⟨l, rfl, h⟩ ih
theorem ok_m_things (T : Top K mg) (TB : Tabs base T) : FnOk P w K mg base CX0 3 T.a_m_things T.fd_m_things ["self"] (spThings T.a_Store) := by
  obtain ⟨oc, od, kV, doc, pm, an, ct, osl, hfd, lk, hcd⟩ := T.L_m_things
  have hfd' : T.fd_m_things = _ := hfd
  rw [hfd']
  rw [hfd] at lk
  refine fn_of lk hcd sc_m_things (fun vs H Q E h => ?_) fun A outer s H vs Q E hr h => ?_
  · obtain ⟨p, d, bd, kvs, b, R, D, ps, rfl, _⟩ := h
    rfl
  · obtain ⟨p, d, bd, kvs, b, R, D, ps, rfl, S, nd, hT, k⟩ := h
    refine ⟨_, PSs.nox ((pss_cons (ps_lock (ps_setLc2 (i := 1) (own := [("things", 2), ("thing", 3)]) (vs1 := [3]) (tt := tYes) (tt1 := tYes) (wi1 := iList K (tVar 2)) rfl sc_m_things.nd rfl rfl (sw_true rfl rfl rfl (by decide +kernel)) (pi_values (pe_fld (pv 0) rfl)) (blkOk_by (N := n_m_things) (sc := defScope s_m_things) (by decide +kernel)) (by decide) (fun _ _ _ _ _ => by exact (pg_name (i := 2) sc_m_things.nd rfl (Or.inl rfl))) (fun _ _ _ _ _ => by exact pts_nil) (fun _ _ _ _ _ => by exact (pi_list (pv 2))) (fun _ _ _ _ _ => by exact (pg_name (i := 3) sc_m_things.nd rfl (Or.inl rfl))) (fun _ _ _ _ _ => by exact pts_nil) (fun _ _ _ _ _ => by exact (pv 3))))
      (pss_one (ps_ret (pe_sortLam (X := _) (k := 2) (lq := lq_things) TB.things.1 TB.things.2 rfl rfl hr (by decide) rfl T.z_sorted (pv 1) rfl rfl rfl rfl (by decide +kernel) rfl (by decide +kernel) (fun _ _ _ _ => rfl)))))), ?_⟩
    have hfl := flat_perm S.cov nd S.nm
    have hfl : ((R.map (thg ps)).flatten).Perm ps := by rw [← List.flatMap_def]; exact hfl
    refine ⟨d, .dK kvs, S.sa.dc, trivial, fun od => ?_⟩
    obtain ⟨dx, hp⟩ := S.sa.ob
    have w0 : ExW H (upd H d (.frz od (.dK kvs))) := (ExS.updD (p := p) S.sa.dc).w hp S.sa.dc
    have hp1 : (upd H d (.frz od (.dK kvs))) p = some (.ins T.a_Store dx (flds b d bd D)) := by rw [upd_ne S.sa.pd]; exact hp
    refine s_asgG (lcVV (K := K) (r := rpT) (as := R.map (thg ps)) (kr_valsL (kr_mono w0 S.sa.rs)) (ev_fld T.cl_Store T.d_Store.rooms (by walk_at "ev") hp1 fl_rooms) upd_same ?_ (fun _ => rfl) (fun _ => rfl) (fun _ _ => rfl) (fun _ _ => rfl)) fun v B e ⟨q, ev, hq, L⟩ => ?_
    · rw [← List.length_flatten, hfl.length_eq]
      exact Nat.le_trans S.nm.len (by decide)
    · subst ev
      have hB : B d = some (.frz od (.dK kvs)) := e.k upd_same
      refine ⟨hB, ?_⟩
      have L2 := L.monoW (ExW.unlock hB)
      have eH : Ex H (upd B d (.dK kvs)) := Ex.unlock S.sa.dc e
      obtain ⟨xs, hx, hpx⟩ := L2
      have key : tSortLam K T.P_m_things lq_things (tVar 1) [some (.ref p), some (.ref q), none, none] (upd B d (.dK kvs)) Q := by
        refine (show Ev (tVar 1) [some (.ref p), some (.ref q), none, none] (upd B d (.dK kvs)) (.ref q) by walk_at "ev") _ (.refl _) _ fun C c => ⟨q, xs, _, rfl, sq_of (c.k hx), pr_mono c hpx, c.tabs (eH.tabs hT), fun pp qs C' hperm hs hpn c' L3 => ?_⟩
        rw [mem_perm_sorted S.nm.up hs (hperm.trans hfl)] at L3
        exact k pp C' (fresh_back (eH.trans c) hpn) ((eH.trans c).trans c') L3
      exact key
end


section
variable [TabCx]
variable {α β : Type} {r : Rp α} {r' : Rp β} {K : PySem.W.Frag} {σ : L2.St} {H : Hp} {te tl : TE} {t : TT}
/-- a comprehension over things told, any target -/
theorem lcJ {xs : List V} {as : List α} {a : Addr} {j : TG} {vs : List Nat} (J : (Addr → Prop) → Hp → L2.St → α → Prop) (q : α → Bool) (g : α → β) (h : Ev tl σ H (.ref a)) (hx : SqL K H a xs) (hp : PR r H xs as) (hz : as.length ≤ 40000)
    (hg : ∀ x b H1 F Q, Ex H H1 → b ∈ as → r.R F H1 x b → (∀ σ', wipe σ' vs = wipe σ vs → J F H1 σ' b → Q σ' H1) → j x (wipe σ vs) H1 Q)
    (ht : ∀ σ' b H1 F, Ex H H1 → b ∈ as → J F H1 σ' b → EvT t σ' H1 (q b))
    (he : ∀ σ' b H1 F, Ex H H1 → (∀ y, F y → H1 y ≠ none) → b ∈ as → J F H1 σ' b → q b = true → EvE r' F te σ' H1 (g b)) :
    EvLR r' (tLc (iList K tl) j t te vs) σ H ((as.filter q).map g) := fun H0 e Q qq => h H0 e _ fun H1 e1 => ⟨a, rfl, ⟨xs, ex_l (e.trans e1) hx⟩, fun Dl hD => by
  have hlen := hp.length
  have hp1 : PRF r (F1 Dl) H1 xs as := pr_away (fun x z => .inr (z ▸ hD)) (pr_mono (e.trans e1) hp)
  refine lc_list (xs := xs) (fun i H' => Ex H1 H' ∧ ∃ ys, H' Dl = some (.lst ys) ∧ ys.length ≤ i ∧ PRF r' (F1 Dl) H' ys (((as.take i).filter q).map g)) ⟨Ex.new hD, [], upd_same, Nat.le_refl _, by rw [List.take_zero]; exact .nil⟩ (fun i H' _ p => ex_l ((e.trans e1).trans p.1) hx) (fun i x H' hi p => ?_) fun H' p => ?_
  · obtain ⟨p1, ys, p2, p3, p4⟩ := p
    obtain ⟨b, hb, rb⟩ := pr_get hp1 hi
    have hmem : b ∈ as := List.mem_of_getElem? hb
    have hil : i < xs.length := (List.getElem?_eq_some_iff.mp hi).1
    have eE := (e.trans e1).trans p1
    have rb' := r.mo p1 rb
    refine hg x b H' (F1 Dl) _ eE hmem rb' fun σ' hw' hJ => ⟨hw', ?_⟩
    refine ht σ' b H' (F1 Dl) eE hmem hJ H' (Ex.refl H') _ fun H3 e3 => ?_
    cases hq : q b with
    | true =>
      show te σ' H3 _
      refine he σ' b H' (F1 Dl) eE (fun y z => by rw [show y = Dl from z, p2]; intro w; cases w) hmem hJ hq H3 e3 _ fun y H4 e4 ry => ⟨ys, e4.k (e3.k p2), sz_lt (by omega), Ex.mut ((p1.trans e3).trans e4) hD (e4.k (e3.k p2)), ys ++ [y], upd_same, by rw [List.length_append]; exact Nat.succ_le_succ p3, ?_⟩
      have hD4 : H4 Dl = some (.lst ys) := e4.k (e3.k p2)
      rw [take_snoc hb, List.filter_append, List.map_append, List.filter_cons, if_pos hq]
      exact pr_lst (show F1 Dl Dl from rfl) hD4 (pr_app (pr_mono (e3.trans e4) p4) (.cons ry .nil))
    | false =>
      show Ex H1 H3 ∧ _
      refine ⟨p1.trans e3, ys, e3.k p2, by omega, ?_⟩
      rw [take_snoc hb, List.filter_append, List.filter_cons, if_neg (by rw [hq]; decide), List.filter_nil, List.append_nil]
      exact pr_mono (e3) p4
  · obtain ⟨p1, ys, p2, p3, p4⟩ := p
    refine qq _ H' (e1.trans p1) ⟨Dl, rfl, fresh_back e1 hD, ys, p2, ?_⟩
    rw [hlen, List.take_length] at p4
    exact pr_0 p4⟩
/-- the two parts of a pair to two names -/
theorem g_pair {t : Addr} {u v : V} {i j : Nat} {H1 : Hp} {Q : L2.St → Hp → Prop} (ht : H1 t = some (.tup [u, v])) (k : Q ((σ.set i (some u)).set j (some v)) H1) : gTup K 2 (gCons (gName i) (gCons (gName j) gNil)) (.ref t) σ H1 Q :=
  ⟨t, [u, v], rfl, st_of ht, rfl, u, [v], rfl, v, [], rfl, rfl, k⟩
end
section
open SX
variable [TabCx]
variable {K : PySem.W.Frag} {σ : L2.St} {H : Hp} {te ta to : TE} {ts : List TE}
theorem lit {s : String} {l : List Nat} (h : s.toList.map Char.toNat = l) : Str.ofString s = S l := TL.ext_tl (by rw [TL.tl_ofString, h])
def EvJs (ts : List TE) (acc : List Nat) (σ : L2.St) (H : Hp) (out : List Nat) : Prop := ∀ A, Ex H A → ∀ Q : Str → Hp → Prop, (∀ B, Ex A B → Q (S out) B) → tJs ts (S acc) σ A Q
theorem ej_nil {acc : List Nat} : EvJs [] acc σ H acc := fun A a Q q => q A (.refl A)
theorem ej_to {acc out : List Nat} (h : acc = out) : EvJs [] acc σ H out := h ▸ ej_nil
theorem ej_cons {t : TE} {acc b out : List Nat} (h : Ev t σ H (.str (S b))) (hl : (acc ++ b).length ≤ 100000) (r : EvJs ts (acc ++ b) σ H out) : EvJs (t :: ts) acc σ H out := fun A a Q q =>
  h A a _ fun B e => ⟨S b, rfl, by rw [S_cat, S_len]; exact sz_of hl, by rw [S_cat]; exact r B (a.trans e) Q fun C c => q C (e.trans c)⟩
theorem ev_js {out : List Nat} (h : EvJs ts [] σ H out) : Ev (fun σ H Q => tJs ts Str.empty σ H fun out H1 => Q (.str out) H1) σ H (.str (S out)) := fun A a Q q => h A a _ q
theorem ev_fmtS {y : Str} (h : Ev te σ H (.str y)) (hl : y.length ≤ 100000) : Ev (tFmt te) σ H (.str y) := fun A a Q q => h A a _ fun B b => .inl ⟨y, rfl, sz_of hl, q B b⟩
theorem ev_fmtI {i : Int} (h : Ev te σ H (.int i)) (hl : i.natAbs < 10 ^ 60) : Ev (tFmt te) σ H (.str (S (numZ i))) := fun A a Q q => h A a _ fun B b => .inr ⟨i, rfl, by
  by_cases h0 : i.natAbs = 0
  · rw [h0]; decide
  · exact Nat.lt_trans ((Nat.log2_lt h0).mpr (Nat.lt_of_lt_of_le hl (by decide : 10 ^ 60 ≤ 2 ^ 200))) (by decide), by
  have e : (toString i : String) = toString i := rfl
  have := numZ_S i
  rw [show (Str.ofString (toString i)) = S (numZ i) from this]
  exact q B b⟩
theorem ev_litc {s : String} {l : List Nat} (h : s.toList.map Char.toNat = l) : Ev (tC (.str (Str.ofString s))) σ H (.str (S l)) := fun A a Q q => by
  rw [lit h]
  exact q A (.refl A)
theorem ev_addS {a b : List Nat} {tb : TE} (ha : Ev ta σ H (.str (S a))) (hb : Ev tb σ H (.str (S b))) (hl : a.length + b.length ≤ 100000) : Ev (tOp rAddS ta tb) σ H (.str (S (a ++ b))) := fun A e Q q =>
  ha A e _ fun B e1 => hb B (e.trans e1) _ fun C e2 => ⟨S a, S b, rfl, rfl, by rw [S_len, S_len]; exact sz_of hl, by rw [S_cat]; exact q C (e1.trans e2)⟩
/-- join of a list of texts -/
theorem ev_join {s : List Nat} {ys : List (List Nat)} (ho : Ev to σ H (.str (S s))) (ha : EvG te σ H (fun _ v B => ∃ p, v = .ref p ∧ B p = some (.lst ((ys.map S).map V.str)))) (hz : (ys.map (·.length)).sum + ys.length * s.length ≤ 16777216) :
    Ev (tM1 (fun x xs H Q => ∃ a p, ∃ ys : List Str, x = .str a ∧ xs = [.ref p] ∧ (SqL K H p (ys.map V.str) ∨ SqT K H p (ys.map V.str)) ∧ (ys.map (·.length)).sum + ys.length * a.length ≤ 16777216 ∧ Q (.str (Txt.join a ys)) H) to te) σ H (.str (S (TL.joinL s ys))) := fun A a Q q =>
  ho A a _ fun B b => ⟨⟨_, rfl⟩, ha B (a.trans b) _ fun v C c ⟨p, e, hp⟩ => ⟨S s, p, ys.map S, rfl, by rw [e], .inl (sq_of hp), by rw [lens, List.length_map, S_len]; exact hz, by rw [join_S]; exact q C (b.trans c)⟩⟩
theorem ea_star {p : Addr} {xs ys : List V} {t : TA} (h : Ev te σ H (.ref p)) (hx : SqL K H p xs) (r : EvA t σ H ys) : EvA (StX.tStar K te t) σ H (xs ++ ys) := fun A a Q q =>
  h A a _ fun B b => ⟨p, xs, rfl, .inr (ex_l (a.trans b) hx), r B (a.trans b) _ fun C c => q C (b.trans c)⟩
end

section
open SX
variable {P : Program} {w : World} {K : PySem.W.Frag} {mg : Str → Option Value} {base : Heap} [TabCx]
def spRow : Sp := fun vs H Q _ => ∃ (l : Addr) (c : Code) (qs : List (Int × Int)), vs = [.str (bt c), .ref l] ∧ LR rpT H l qs ∧ Names qs ∧ VB qs ∧ c.1 ≤ 8 ∧ RetV (.str (S (rowL c qs))) H Q
theorem ok_row_of (T : Top K mg) : FnOk P w K mg base CX0 1 T.a_row_of T.fd_row_of ["bits", "things"] spRow := by
  refine T.F_row_of.ok sc_row_of (fun vs H Q E h => ?_) (fun cdv A outer s H vs Q E hr h => ?_)
  · obtain ⟨l, c, qs, rfl, _⟩ := h
    rfl
  · obtain ⟨l, c, qs, rfl, ⟨xs, hx, hpx⟩, hn, hv, hc, k⟩ := h
    refine ⟨_, (pss_cons (ps_setLc (i := 2) (own := [("name", 3), ("value", 4)]) (tt := tYes) (g := gTup K 2 (gCons (gName 3) (gCons (gName 4) gNil))) rfl sc_row_of.nd rfl rfl (sw_true rfl rfl rfl (by decide +kernel)) (pi_list (pv 1)) (blkOk_by (N := n_row_of) (sc := defScope s_row_of) (by decide +kernel)) (fun _ _ _ _ _ => by exact (pg_tup rfl (pgs_cons (pg_name (i := 3) sc_row_of.nd rfl (Or.inl rfl)) (pgs_cons (pg_name (i := 4) sc_row_of.nd rfl (Or.inl rfl)) pgs_nil)))) (fun _ _ _ _ _ => by exact pts_nil) (fun _ _ _ _ _ => by exact (pe_joined (PJ.cons pe_str (PJ.cons (pe_fmt (pv 3)) (PJ.cons pe_str (PJ.cons (pe_fmt (pv 4)) PJ.nil)))))))
      (pss_one (ps_ret (pe_op op_add_str (pe_joined (PJ.cons (pe_fmt (pv 0)) (PJ.cons pe_str PJ.nil))) (pe_join pe_str (pv 2)))))), ?_⟩
    have hlen := hn.len
    refine q_asgLR (r' := rpStr) (bs := (qs.filter fun _ => true).map fun p => S (wordL p)) (lcJ (K := K) (r := rpT) (r' := rpStr) (fun _ _ σ' p => σ' = [some (.str (bt c)), some (.ref l), none, some (.int p.1), some (.int p.2)]) (fun _ => true) _ (by walk_at "ev") (sq_of hx) hpx (by omega) ?_ ?_ ?_) ?_
    · rintro x p H1 F Q' e1 _ ⟨t, rfl, ht⟩ k'
      exact g_pair ht (k' _ rfl rfl)
    · rintro σ' p H1 F e1 _ rfl
      exact fun H5 e5 Q' q' => q' H5 (.refl H5)
    · rintro σ' p H1 F e1 _ hm rfl _
      have h1 := hn.all p hm
      have h2 := hv p hm
      have w := word0_len h1 h2
      unfold word0 at w
      rw [List.length_append, List.length_cons] at w
      refine ee_var (v := .str (S (wordL p))) (ev_js (ej_cons (b := [32]) (ev_litc rfl) (by decide) (ej_cons (ev_fmtI (i := p.1) (by walk_at "ev") (by omega)) ?_ (ej_cons (b := [61]) (ev_litc rfl) ?_ (ej_cons (ev_fmtI (i := p.2) (by walk_at "ev") h2) ?_ (ej_to (by simp [wordL, word0]))))))) rfl
      all_goals (simp only [List.length_append, List.length_cons, List.length_nil]; omega)
    · intro q B hq e ⟨ys, hy, hpy⟩
      have hys := prs_eq hpy
      rw [List.filter_eq_self.mpr (fun _ _ => rfl)] at hys
      subst hys
      have hk : (TL.joinL [] (qs.map wordL)) = qs.flatMap wordL := by rw [joinL_nil, List.flatMap_def]
      have hfl := flat_len wordL 67 qs (fun p hp => by
        unfold wordL
        rw [List.length_cons]
        have := word0_len (hn.all p hp) (hv p hp)
        omega)
      have hsum : ((qs.map wordL).map (·.length)).sum = (qs.flatMap wordL).length := by rw [List.flatMap_def, List.length_flatten]
      have hq2 : B q = some (.lst (((qs.map wordL).map S).map V.str)) := by rw [show (qs.map wordL).map S = qs.map (fun p => S (wordL p)) from List.map_map]; exact hy
      have hb : bt c = S (bl c.1 c.2) := rfl
      show tRet _ _ [some (.str (bt c)), some (.ref l), some (.ref q), none, none] B
      have h0 : Ev (tVar 0) [some (.str (bt c)), some (.ref l), some (.ref q), none, none] B (.str (S (bl c.1 c.2))) := by walk_at "ev"
      have h2 : Ev (tVar 2) [some (.str (bt c)), some (.ref l), some (.ref q), none, none] B (.ref q) := by walk_at "ev"
      generalize [some (V.str (bt c)), some (V.ref l), some (V.ref q), none, none] = σ at h0 h2 ⊢
      have g1 := ev_js (out := bl c.1 c.2 ++ [58]) (ej_cons (b := bl c.1 c.2) (ev_fmtS h0 (by rw [S_len, bl_len]; omega)) (by rw [List.nil_append, bl_len]; omega) (ej_cons (b := [58]) (ev_litc (s := ":") rfl) (by rw [List.nil_append, List.length_append, bl_len, List.length_singleton]; omega) (ej_to (by rw [List.nil_append]))))
      have g2 := ev_join (K := K) (s := []) (ys := qs.map wordL) (ev_litc (s := "") rfl) (fun A a Q' q' => h2 A a _ fun B1 b1 => q' _ B1 b1 ⟨q, rfl, (a.trans b1).k hq2⟩) (by rw [hsum, List.length_nil, Nat.mul_zero]; omega)
      rw [hk] at g2
      have g3 := ev_addS g1 g2 (by rw [List.length_append, bl_len, List.length_singleton]; omega)
      rw [show bl c.1 c.2 ++ [58] ++ qs.flatMap wordL = rowL c qs by unfold rowL; rw [List.append_assoc]; rfl] at g3
      exact s_retk g3 (k.mono e)
end

section
open SX
variable {P : Program} {w : World} {K : PySem.W.Frag} {mg : Str → Option Value} {base : Heap} [TabCx]
theorem spv_row {H : Hp} {l : Addr} {c : Code} {qs : List (Int × Int)} (h : LR rpT H l qs) (hn : Names qs) (hv : VB qs) (hc : c.1 ≤ 8) : SpV spRow [.str (bt c), .ref l] H (.str (S (rowL c qs))) := fun A e Q q E => ⟨l, c, qs, rfl, h.mono e, hn, hv, hc, q⟩
/-- what is written of a bound and its things -/
def wr (b : Nat) (ps : List (Int × Int)) : Str := S (textL b (roomsT b ps))
def spWritten (C : Addr) : Sp := fun vs H Q _ => ∃ (p d bd : Addr) (kvs : List (Key × V)) (b : Nat) (R : List Code) (D : Nat) (ps : List (Int × Int)), vs = [.ref p] ∧ SA C H p d bd kvs b R D ps ∧ Good b R D ps ∧ (1 ≤ b ∧ b ≤ 64) ∧ VB ps ∧ RetV (.str (wr b ps)) H Q
theorem spl_rooms {C : Addr} {H : Hp} {p d bd : Addr} {kvs : List (Key × V)} {b : Nat} {R : List Code} {D : Nat} {ps : List (Int × Int)} (S : SA C H p d bd kvs b R D ps) (G : Good b R D ps) (hb : 1 ≤ b) : SpLR rpRm (spRooms C) [.ref p] H (roomsT b ps) := fun A e Q q E => ⟨p, d, bd, kvs, b, R, D, ps, rfl, S.mono e, G, hb, q⟩
theorem rooms_in {b : Nat} {R : List Code} {D : Nat} {ps : List (Int × Int)} (G : Good b R D ps) (hb : 1 ≤ b) (hv : VB ps) : ∀ r ∈ roomsT b ps, r.1.1 ≤ 8 ∧ Names r.2 ∧ VB r.2 := fun r hr => by
  obtain ⟨c, hc, rfl⟩ := List.mem_map.mp hr
  have hcR := (G.mem hb c).mpr hc
  exact ⟨Nat.le_trans (G.dep c hcR) G.d8, G.nm.fil _, fun p hp => hv p (List.mem_filter.mp hp).1⟩
theorem rooms_len {b : Nat} {R : List Code} {D : Nat} {ps : List (Int × Int)} (G : Good b R D ps) (hb : 1 ≤ b) : (roomsT b ps).length ≤ 256 := by
  unfold roomsT
  rw [List.length_map, ← (G.perm hb).length_eq]
  exact cov_len G.cov G.nd
theorem ok_written (T : Top K mg) : FnOk P w K mg base CX0 2 T.a_written T.fd_written ["store"] (spWritten T.a_Store) := by
  refine T.F_written.ok sc_written (fun vs H Q E h => ?_) (fun cdv A outer s H vs Q E hr h => ?_)
  · obtain ⟨p, d, bd, kvs, b, R, D, ps, rfl, _⟩ := h
    rfl
  · obtain ⟨p, d, bd, kvs, b, R, D, ps, rfl, S0, G, hb, hv, k⟩ := h
    refine ⟨_, (pss_cons (ps_setLc (i := 1) (own := [("bits", 2), ("things", 3)]) (tt := tYes) (g := gTup K 2 (gCons (gName 2) (gCons (gName 3) gNil))) rfl sc_written.nd rfl rfl (sw_true rfl rfl rfl (by decide +kernel)) (pi_list (pe_meth0 (pv 0) T.cl_Store T.M_m_rooms (ok_m_rooms T) (hr.mono (by decide)) T.b_m_rooms .nil pass0)) (blkOk_by (N := n_written) (sc := defScope s_written) (by decide +kernel)) (fun _ _ _ _ _ => by exact (pg_tup rfl (pgs_cons (pg_name (i := 2) sc_written.nd rfl (Or.inl rfl)) (pgs_cons (pg_name (i := 3) sc_written.nd rfl (Or.inl rfl)) pgs_nil)))) (fun _ _ _ _ _ => by exact pts_nil) (fun _ _ _ _ _ => by exact (pe_call (ok_row_of T) (hr.mono (by decide)) rfl T.g_row_of T.F_row_of.kp T.b_row_of .nil pass0 (pa_cons (pv 2) (pa_cons (pv 3) pa_nil)))))
      (pss_one (ps_ret (pe_join pe_str (pe_lst (pa_cons (pe_joined (PJ.cons (pe_fmt (pe_glob (v := .str "bound ") rfl T.c_BOUND_WORD.2 ⟨_, rfl⟩)) (PJ.cons (pe_fmt (pe_fld (pv 0) rfl)) PJ.nil))) (StX.pa_star (pv 1) pa_nil))))))), ?_⟩
    have hin := rooms_in G hb.1 hv
    have hlen := rooms_len G hb.1
    refine q_asgLR (r' := rpStr) (bs := ((roomsT b ps).filter fun _ => true).map fun r => S (rowL r.1 r.2)) (lcG (K := K) (P := fun _ v C => ∃ q, v = .ref q ∧ LR rpRm C q (roomsT b ps)) ((S0.e_methLR (by walk_at "ev") (by walk_at "ea") (spl_rooms S0 G hb.1)).imp fun A v B _ _ ⟨q, e, _, l⟩ => ⟨q, e, l⟩) ?_) ?_
    · rintro A1 v B1 a1 e1 ⟨q, rfl, ⟨xs, hx, hpx⟩⟩
      refine (lcJ (K := K) (r := rpRm) (r' := rpStr) (fun _ H1 σ' r => ∃ l, σ' = [some (.ref p), none, some (.str (bt r.1)), some (.ref l)] ∧ LR rpT H1 l r.2) (fun _ => true) (fun r => S (rowL r.1 r.2)) ev_c (sq_of hx) hpx (by omega) ?_ ?_ ?_).imp ?_
      · rintro x r H1 F Q' e2 _ ⟨t, u, v, rfl, ht, rfl, l, ys, rfl, _, hy, hpy⟩ k'
        exact g_pair ht (k' _ rfl ⟨l, rfl, ys, hy, pr_0 hpy⟩)
      · rintro σ' r H1 F e2 _ ⟨l, rfl, hl⟩
        exact fun H5 e5 Q' q' => q' H5 (.refl H5)
      · rintro σ' r H1 F e2 _ hm ⟨l, rfl, hl⟩ _
        obtain ⟨h1, h2, h3⟩ := hin r hm
        exact ee_var (v := .str (S (rowL r.1 r.2))) (ev_call (by walk_at "ea") (spv_row hl h2 h3 h1)) rfl
      · rintro A2 v C a2 _ ⟨q2, rfl, hq, hl⟩
        exact ⟨q2, rfl, fresh_back (e1.trans a2) hq, hl⟩
    · intro q B hq e ⟨ys, hy, hpy⟩
      have hys := prs_eq hpy
      rw [List.filter_eq_self.mpr (fun _ _ => rfl)] at hys
      subst hys
      have S1 := S0.mono e
      have hB : SqL K B q ((((roomsT b ps).map fun r => rowL r.1 r.2).map S).map V.str) := by
        rw [show ((roomsT b ps).map fun r => rowL r.1 r.2).map S = (roomsT b ps).map (fun r => S (rowL r.1 r.2)) from List.map_map]
        exact sq_of hy
      show tRet _ _ [some (.ref p), some (.ref q), none, none] B
      have h0 : Ev (tFld K (tVar 0) "bound") [some (.ref p), some (.ref q), none, none] B (.int (b : Int)) := S1.e_bound (by walk_at "ev")
      have h2 : Ev (tVar 1) [some (.ref p), some (.ref q), none, none] B (.ref q) := by walk_at "ev"
      generalize [some (V.ref p), some (V.ref q), none, none] = σ at h0 h2 ⊢
      have hbl : ((b : Int)).natAbs < 10 ^ 60 := by omega
      have nl := numZ_len (i := (b : Int)) (k := 3) (by decide) (by omega)
      have g1 := ev_js (out := boundL ++ numZ b) (ej_cons (b := boundL) (ev_fmtS (ev_litc (s := "bound ") rfl) (by decide)) (by decide) (ej_cons (ev_fmtI h0 hbl) (by rw [List.nil_append, List.length_append, show boundL.length = 6 from rfl]; omega) (ej_to (by rw [List.nil_append]))))
      have g2 := eg_lst (ea_cons g1 (ea_star h2 hB ea_nil)) (by rw [List.length_cons, List.append_nil, List.length_map, List.length_map, List.length_map]; omega)
      have g3 := ev_join (K := K) (s := [10]) (ys := linesL b (roomsT b ps)) (ev_litc (s := "\n") rfl) (fun A a Q' q' => g2 A a _ fun v B1 b1 ⟨z, ez, _, hz⟩ => q' v B1 b1 ⟨z, ez, by rw [hz, List.append_nil]; rfl⟩) ?_
      · exact s_retk g3 (k.mono e)
      · have hll : ∀ x ∈ linesL b (roomsT b ps), x.length ≤ 17200 := by
          intro x hx
          rcases List.mem_cons.mp hx with rfl | hx
          · rw [List.length_append, show boundL.length = 6 from rfl]
            omega
          · obtain ⟨r, hr, rfl⟩ := List.mem_map.mp hx
            obtain ⟨i1, i2, i3⟩ := hin r hr
            exact rowL_len i1 i2 i3
        have hs := flat_len id 17200 (linesL b (roomsT b ps)) hll
        rw [List.flatMap_id, List.length_flatten] at hs
        have hs : ((linesL b (roomsT b ps)).map (fun x => x.length)).sum ≤ 17200 * (linesL b (roomsT b ps)).length := hs
        have hn : (linesL b (roomsT b ps)).length = (roomsT b ps).length + 1 := by
          unfold linesL
          rw [List.length_cons, List.length_map]
        rw [hn] at hs ⊢
        rw [List.length_singleton]
        omega
end


section
open SX
variable {P : Program} {w : World} {K : PySem.W.Frag} {mg : Str → Option Value} {base : Heap} [TabCx]
theorem ev_rmp {σ : L2.St} {H : Hp} {to te : TE} {a b c : List Nat} (ho : Ev to σ H (.str (S a))) (ha : Ev te σ H (.str (S b))) (hl : a.length ≤ 100000) (he : Txt.removeprefix (S a) (S b) = S c) : Ev (tBM K "str" (fun x xs H Q => ∃ a b, x = .str a ∧ xs = [.str b] ∧ a.length ≤ sizeLine ∧ Q (.str (Txt.removeprefix a b)) H) to (tCons te tNil)) σ H (.str (S c)) :=
  ev_bmS ho (ea_cons ha ea_nil) fun A _ Q q => ⟨S a, S b, rfl, rfl, by rw [S_len]; exact sz_of hl, by rw [he]; exact q A (.refl A)⟩
theorem ev_dec {σ : L2.St} {H : Hp} {to : TE} {a : List Nat} {z : Bool} (ho : Ev to σ H (.str (S a))) (he : Txt.isdecimal (S a) = z) : Ev (tBM0 K "str" (fun x xs H Q => ∃ a, x = V.str a ∧ xs = [] ∧ True ∧ Q (V.bl (Txt.isdecimal a)) H) to) σ H (.bl z) := fun A a' Q q =>
  ho A a' _ fun B b => ⟨rfl, S a, rfl, rfl, trivial, by rw [he]; exact q B b⟩
theorem ev_lenS {σ : L2.St} {H : Hp} {te : TE} {a : List Nat} (h : Ev te σ H (.str (S a))) (hl : a.length ≤ 100000) : Ev (tCB (fun xs H Q => ∃ z : Str, xs = [V.str z] ∧ z.length ≤ sizeLine ∧ Q (V.int z.length) H) (tCons te tNil)) σ H (.int (a.length : Int)) := fun A a' Q q =>
  h A a' _ fun B b => ⟨S a, rfl, by rw [S_len]; exact sz_of hl, by rw [S_len]; exact q B b⟩
theorem ev_intS {σ : L2.St} {H : Hp} {te : TE} {a : List Nat} {i : Int} (h : Ev te σ H (.str (S a))) (hl : a.length ≤ 640) (hi : PySem.intText? (S a) = some i) : Ev (tCB (fun xs H Q => ∃ a n, xs = [V.str a] ∧ PySem.intText? a = some n ∧ a.length ≤ 640 ∧ Q (V.int n) H) (tCons te tNil)) σ H (.int i) := fun A a' Q q =>
  h A a' _ fun B b => ⟨S a, i, rfl, hi, by rw [S_len]; exact hl, q B b⟩
def spNum : Sp := fun vs H Q _ => ∃ i : Int, vs = [.str (S (numZ i))] ∧ i.natAbs < 10 ^ 60 ∧ RetV (.int i) H Q
theorem spv_num {H : Hp} {i : Int} (hi : i.natAbs < 10 ^ 60) : SpV spNum [.str (S (numZ i))] H (.int i) := fun A e Q q E => ⟨i, rfl, hi, q⟩
theorem ok_number_in (T : Top K mg) : FnOk P w K mg base CX0 1 T.a_number_in T.fd_number_in ["word"] spNum := by
  refine T.F_number_in.ok sc_number_in (fun vs H Q E h => ?_) (fun cdv A outer s H vs Q E hr h => ?_)
  · obtain ⟨i, rfl, _⟩ := h
    rfl
  · obtain ⟨i, rfl, hi, k⟩ := h
    refine ⟨_, (pss_cons (ps_set (i := 1) sc_number_in.nd rfl (Or.inl rfl) (pe_bm PySem.F.plainAttrs_str PySem.F.slot_str_removeprefix PySem.F.type_str_removeprefix mt_removeprefix (pv 0) (pa_cons pe_str pa_nil)))
      (pss_cons (ps_if (PW.pt (pw_or (pt_not (pt_val (pe_bm0 PySem.F.plainAttrs_str PySem.F.slot_str_isdecimal PySem.F.type_str_isdecimal mt_isdecimal (pv 1)))) (pw_or1 (pt_cmpR op_gt (pe_callB call_len_str (by rfl) T.z_len (by decide +kernel) (pa_cons (pv 1) pa_nil)) (pe_glob (v := .int 60) rfl T.c_FIGURES.2 ⟨_, rfl⟩) (nomark _))))) (pss_one ps_never) pss_nil)
      (pss_one (ps_ret (pe_callTy call_int_str (by rfl) T.z_int (by decide +kernel) (pa_cons (pv 0) pa_nil)))))), ?_⟩
    have hl := numZ_len (k := 60) (by decide) hi
    have hl2 : (TL.numL i.natAbs).length ≤ 60 := TL.numL_len (by decide) hi
    refine q_asg (v := .str (S (TL.numL i.natAbs))) (ev_rmp (a := numZ i) (b := [45]) (by walk_at "ev") (ev_litc (s := "-") rfl) (by omega) (rmp_num i)) fun B e => ?_
    show tSeq _ _ _ [some (.str (S (numZ i))), some (.str (S (TL.numL i.natAbs)))] B
    have h0 : Ev (tVar 0) [some (.str (S (numZ i))), some (.str (S (TL.numL i.natAbs)))] B (.str (S (numZ i))) := by walk_at "ev"
    have h1 : Ev (tVar 1) [some (.str (S (numZ i))), some (.str (S (TL.numL i.natAbs)))] B (.str (S (TL.numL i.natAbs))) := by walk_at "ev"
    generalize [some (V.str (S (numZ i))), some (V.str (S (TL.numL i.natAbs)))] = σ at h0 h1 ⊢
    refine q_when (b := (!true) || decide ((60 : Int) < ((TL.numL i.natAbs).length : Int))) (et_or (et_not (et_B (ev_dec h1 (isdec_num _)))) fun _ => et_test ?_) (fun hb => ?_) fun _ B1 e1 => ?_
    · have hc : Ev (tC (V.int 60)) σ B (.int 60) := by walk_at "ev"
      exact fun A a Q' q' => ev_lenS h1 (by omega) A a _ fun B1 b1 => hc B1 (a.trans b1) _ fun B2 b2 => ⟨_, _, rfl, rfl, q' B2 (b1.trans b2)⟩
    · rw [decide_eq_false (by omega)] at hb
      exact absurd hb (by decide)
    · exact s_retk (ev_intS (h0.mono e1) (by omega) (int_numZ hi)) (k.mono (e.trans e1))
end

section
open SX
variable {P : Program} {w : World} {K : PySem.W.Frag} {mg : Str → Option Value} {base : Heap} [TabCx]
theorem eg_split {σ : L2.St} {H : Hp} {to te : TE} {a b : List Nat} {ys : List (List Nat)} (ho : Ev to σ H (.str (S a))) (ha : Ev te σ H (.str (S b))) (hb : (b.length == 0) = false) (hl : a.length ≤ 10000000) (he : Txt.split (S a) (S b) = ys.map S) :
    EvG (tM1 (fun x xs H Q => ∃ a b, x = .str a ∧ xs = [.str b] ∧ (b.length == 0) = false ∧ a.length + 2 ≤ sizeLine ∧ rNewStrs (Txt.split a b) H Q) to te) σ H (NewL ((ys.map S).map V.str)) := fun A a' Q q =>
  ho A a' _ fun B b1 => ⟨⟨_, rfl⟩, ha B (a'.trans b1) _ fun C c => ⟨S a, S b, rfl, rfl, by rw [S_len]; exact hb, by rw [S_len]; exact Nat.le_trans (Nat.add_le_add_right hl 2) (by decide), fun p hp => by
    rw [he]
    exact q _ _ ((b1.trans c).trans (.new hp)) ⟨p, rfl, fresh_back (b1.trans c) hp, upd_same⟩⟩⟩
theorem cutV_1 (x : V) (xs : List V) : cutV (x :: xs) (some 1) none = xs := by
  unfold cutV
  rw [HT.sIx_none, show (some (1 : Int)) = some ((1 : Nat) : Int) from rfl, HT.sIx_nat, List.length_cons, Nat.min_eq_left (by omega), List.drop_one, List.tail_cons, Nat.add_sub_cancel, List.take_length]
theorem eg_tail {σ : L2.St} {H : Hp} {te : TE} {tl : TO} {x : V} {xs : List V} (h : EvG te σ H (NewL (x :: xs))) (hl : ∀ B, Ex H B → EvO tl σ B (some 1)) : EvG (tSl (rSlL K) te tl tNoPart) σ H (NewL xs) := fun A a Q q =>
  h A a _ fun v B b ⟨p, ev, hp, hB⟩ => hl B (a.trans b) B (.refl B) _ fun C c => ⟨p, x :: xs, ev, sq_of (c.k hB), fun l hl => by
    rw [cutV_1]
    exact q _ _ ((b.trans c).trans (.new hl)) ⟨l, rfl, fresh_back (b.trans c) hl, upd_same⟩⟩
/-- a word taken apart -/
def rpW : Rp (Int × Int) := ⟨fun _ H v p => ∃ t, v = .ref t ∧ H t = some (.tup [.str (S (numZ p.1)), .str (S [61]), .str (S (numZ p.2))]), fun e ⟨t, h1, h2⟩ => ⟨t, h1, e.k h2⟩, fun h _ => h, fun _ hD ⟨t, h1, h2⟩ => ⟨t, h1, by rw [upd_ne (ne_of h2 hD (by intro z; cases z))]; exact h2⟩⟩
def rpWd : Rp (Int × Int) := ⟨fun _ _ v p => v = .str (S (word0 p)), fun _ h => h, fun h _ => h, fun _ _ h => h⟩
theorem pr_wd {F : Addr → Prop} {H : Hp} : ∀ {qs : List (Int × Int)}, PRF rpWd F H (((qs.map word0).map S).map V.str) qs
  | [] => .nil
  | _ :: _ => .cons rfl pr_wd
theorem ee_part {σ : L2.St} {H : Hp} {to te : TE} {p : Int × Int} {F : Addr → Prop} (hl : (word0 p).length ≤ 100000) (ho : Ev to σ H (.str (S (word0 p)))) (ha : Ev te σ H (.str (S [61]))) :
    EvE rpW F (tM1 (fun x xs H Q => ∃ a b, x = .str a ∧ xs = [.str b] ∧ (b.length == 0) = false ∧ a.length ≤ sizeLine ∧ ∀ p, H p = none → Q (.ref p) (upd H p (.tup [.str (Txt.partition a b).1, .str (Txt.partition a b).2.1, .str (Txt.partition a b).2.2]))) to te) σ H p := fun A a' Q q =>
  ho A a' _ fun B b1 => ⟨⟨_, rfl⟩, ha B (a'.trans b1) _ fun C c => ⟨S (word0 p), S [61], rfl, rfl, rfl, by rw [S_len]; exact sz_of hl, fun t ht => by
    rw [part_word]
    exact q _ _ ((b1.trans c).trans (.new ht)) ⟨t, rfl, upd_same⟩⟩⟩
theorem ee_T {σ : L2.St} {H : Hp} {ta tb : TE} {p : Int × Int} {F : Addr → Prop} (ha : Ev ta σ H (.int p.1)) (hb : Ev tb σ H (.int p.2)) : EvE rpT F (tTup (tCons ta (tCons tb tNil))) σ H p := fun A a Q q =>
  ha A a _ fun B b => hb B (a.trans b) _ fun C c => ⟨by show 2 ≤ sizeLine; decide, fun t ht => q _ _ ((b.trans c).trans (.new ht)) ⟨t, rfl, upd_same⟩⟩
theorem g_triple {t : Addr} {u v x : V} {i j k : Nat} {σ : L2.St} {H1 : Hp} {Q : L2.St → Hp → Prop} (ht : H1 t = some (.tup [u, v, x])) (kk : Q (((σ.set i (some u)).set j (some v)).set k (some x)) H1) : gTup K 3 (gCons (gName i) (gCons (gName j) (gCons (gName k) gNil))) (.ref t) σ H1 Q :=
  ⟨t, [u, v, x], rfl, st_of ht, rfl, u, [v, x], rfl, v, [x], rfl, x, [], rfl, rfl, kk⟩
def spThIn : Sp := fun vs H Q _ => ∃ (c : Code) (qs : List (Int × Int)), vs = [.str (S (rowL c qs))] ∧ Names qs ∧ VB qs ∧ c.1 ≤ 8 ∧ RetLR rpT qs H Q
theorem spl_thin {H : Hp} {c : Code} {qs : List (Int × Int)} (hn : Names qs) (hv : VB qs) (hc : c.1 ≤ 8) : SpLR rpT spThIn [.str (S (rowL c qs))] H qs := fun A e Q q E => ⟨c, qs, rfl, hn, hv, hc, q⟩
theorem ok_things_in (T : Top K mg) : FnOk P w K mg base CX0 2 T.a_things_in T.fd_things_in ["row"] spThIn := by
  refine T.F_things_in.ok sc_things_in (fun vs H Q E h => ?_) (fun cdv A outer s H vs Q E hr h => ?_)
  · obtain ⟨c, qs, rfl, _⟩ := h
    rfl
  · obtain ⟨c, qs, rfl, hn, hv, hc, k⟩ := h
    refine ⟨_, (pss_cons (ps_set (i := 1) sc_things_in.nd rfl (Or.inl rfl) (pe_slice (r := rSlL K) sl_list (pe_split (pv 0) pe_str) (po_some pe_int) po_none))
      (pss_cons (ps_setLc (i := 2) (own := [("word", 3)]) (g := gName 3) (tt := tYes) rfl sc_things_in.nd rfl rfl (sw_true rfl rfl rfl (by decide +kernel)) (pi_list (pv 1)) (blkOk_by (N := n_things_in) (sc := defScope s_things_in) (by decide +kernel)) (fun _ _ _ _ _ => pg_name (i := 3) sc_things_in.nd rfl (Or.inl rfl)) (fun _ _ _ _ _ => by exact pts_nil) (fun _ _ _ _ _ => by exact (pe_partition (pv 3) pe_str)))
      (pss_one (ps_ret (pe_lc (own := [("name", 4), ("_", 5), ("value", 6)]) (tt := tYes) (g := gTup K 3 (gCons (gName 4) (gCons (gName 5) (gCons (gName 6) gNil)))) rfl sc_things_in.nd (pi_list (pv 2)) (blkOk_by (N := n_things_in) (sc := defScope s_things_in) (by decide +kernel)) (fun _ _ _ _ _ => by exact (pg_tup rfl (pgs_cons (pg_name (i := 4) sc_things_in.nd rfl (Or.inl rfl)) (pgs_cons (pg_name (i := 5) sc_things_in.nd rfl (Or.inl rfl)) (pgs_cons (pg_name (i := 6) sc_things_in.nd rfl (Or.inl rfl)) pgs_nil))))) (fun _ _ _ _ _ => by exact pts_nil) (fun _ _ _ _ _ => by exact (pe_tup (pa_cons (pe_call (ok_number_in T) (hr.mono (by decide)) rfl T.g_number_in T.F_number_in.kp T.b_number_in .nil pass0 (pa_cons (pv 4) pa_nil)) (pa_cons (pe_call (ok_number_in T) (hr.mono (by decide)) rfl T.g_number_in T.F_number_in.kp T.b_number_in .nil pass0 (pa_cons (pv 6) pa_nil)) pa_nil))))))))), ?_⟩
    have hlen := hn.len
    have hrl := rowL_len hc hn hv
    refine q_asgG (eg_tail (K := K) (eg_split (a := rowL c qs) (b := [32]) (by walk_at "ev") (ev_litc (s := " ") rfl) rfl (by omega) (ys := (bl c.1 c.2 ++ [58]) :: qs.map word0) (split_row c qs)) fun B _ => eo_some (i := 1) ev_c) fun v B e ⟨q, ev, hq, hB⟩ => ?_
    subst ev
    show tSeq _ _ _ [some (.str (S (rowL c qs))), some (.ref q), none, none, none, none, none] B
    refine q_asgLR (r' := rpW) (bs := (qs.filter fun _ => true).map fun p => p) (lcJ (K := K) (r := rpWd) (r' := rpW) (fun _ _ σ' p => σ' = [some (.str (S (rowL c qs))), some (.ref q), none, some (.str (S (word0 p))), none, none, none]) (fun _ => true) (fun p => p) (by walk_at "ev") (sq_of hB) pr_wd (by omega) ?_ ?_ ?_) ?_
    · rintro x p H1 F Q' e1 _ rfl k'
      exact k' _ rfl rfl
    · rintro σ' p H1 F e1 _ rfl
      exact fun H5 e5 Q' q' => q' H5 (.refl H5)
    · rintro σ' p H1 F e1 _ hm rfl _
      have w0 := word0_len (hn.all p hm) (hv p hm)
      exact ee_part (by omega) (by walk_at "ev") (ev_litc (s := "=") rfl)
    · intro q2 B2 hq2 e2 ⟨ys, hy, hpy⟩
      rw [List.filter_eq_self.mpr (fun _ _ => rfl), List.map_id'] at hpy
      show tRet _ _ [some (.str (S (rowL c qs))), some (.ref q), some (.ref q2), none, none, none, none] B2
      refine s_retLR (r' := rpT) (bs := (qs.filter fun _ => true).map fun p => p) (lcJ (K := K) (r := rpW) (r' := rpT) (fun _ _ σ' p => σ' = [some (.str (S (rowL c qs))), some (.ref q), some (.ref q2), none, some (.str (S (numZ p.1))), some (.str (S [61])), some (.str (S (numZ p.2)))]) (fun _ => true) (fun p => p) (by walk_at "ev") (sq_of hy) hpy (by omega) ?_ ?_ ?_) ?_
      · rintro x p H1 F Q' e1 _ ⟨t, rfl, ht⟩ k'
        exact g_triple ht (k' _ rfl rfl)
      · rintro σ' p H1 F e1 _ rfl
        exact fun H5 e5 Q' q' => q' H5 (.refl H5)
      · rintro σ' p H1 F e1 _ hm rfl _
        have h1 := hn.all p hm
        exact ee_T (ev_call (by walk_at "ea") (spv_num (i := p.1) (by omega))) (ev_call (by walk_at "ea") (spv_num (hv p hm)))
      · rw [List.filter_eq_self.mpr (fun _ _ => rfl), List.map_id']
        exact RetLR.mono (e.trans e2) k
end


/-! ### all things put, one by one -/
section
def insAll (ps L : List (Int × Int)) : List (Int × Int) := L.foldl (fun a p => insT a p.1 p.2) ps
theorem insAll_snoc (ps L : List (Int × Int)) (p : Int × Int) : insAll ps (L ++ [p]) = insT (insAll ps L) p.1 p.2 := by
  unfold insAll
  rw [List.foldl_append]
  rfl
theorem mem_insT {ps : List (Int × Int)} (h : Names ps) {n v : Int} {q : Int × Int} : q ∈ insT ps n v ↔ q = (n, v) ∨ (q ∈ ps ∧ q.1 ≠ n) := by
  unfold insT
  rw [List.mem_append, List.mem_cons, List.mem_filter, List.mem_filter, decide_eq_true_eq, decide_eq_true_eq]
  constructor
  · rintro (⟨a, b⟩ | rfl | ⟨a, b⟩)
    · exact .inr ⟨a, by omega⟩
    · exact .inl rfl
    · exact .inr ⟨a, by omega⟩
  · rintro (rfl | ⟨a, b⟩)
    · exact .inr (.inl rfl)
    · rcases Int.lt_or_gt_of_ne b with z | z
      · exact .inl ⟨a, z⟩
      · exact .inr (.inr ⟨a, z⟩)
theorem insAll_names {L : List (Int × Int)} (hr : ∀ p ∈ L, 0 ≤ p.1 ∧ p.1 < 256) : ∀ {ps : List (Int × Int)}, Names ps → Names (insAll ps L) := by
  induction L with
  | nil => exact fun h => h
  | cons p L ih =>
    intro ps h
    exact ih (fun q hq => hr q (List.mem_cons_of_mem _ hq)) (h.ins p.2 (hr p List.mem_cons_self).1 (hr p List.mem_cons_self).2)
theorem mem_insAll {L : List (Int × Int)} (hr : ∀ p ∈ L, 0 ≤ p.1 ∧ p.1 < 256) (hd : L.Pairwise fun a b => a.1 ≠ b.1) : ∀ {ps : List (Int × Int)}, Names ps → (∀ p ∈ ps, ∀ q ∈ L, p.1 ≠ q.1) → ∀ q, q ∈ insAll ps L ↔ q ∈ ps ∨ q ∈ L := by
  induction L with
  | nil => exact fun _ _ q => ⟨.inl, fun h => h.elim id fun z => absurd z List.not_mem_nil⟩
  | cons p L ih =>
    intro ps h hx q
    have hp := hr p List.mem_cons_self
    have h2 := List.pairwise_cons.mp hd
    have := ih (fun q hq => hr q (List.mem_cons_of_mem _ hq)) h2.2 (h.ins p.2 hp.1 hp.2) (fun a ha c hc => by
      rcases (mem_insT h).mp ha with rfl | ⟨z, _⟩
      · exact h2.1 c hc
      · exact hx a z c (List.mem_cons_of_mem _ hc)) q
    show q ∈ insAll (insT ps p.1 p.2) L ↔ _
    rw [this, mem_insT h, List.mem_cons]
    constructor
    · rintro ((rfl | ⟨a, _⟩) | a)
      · exact .inr (.inl rfl)
      · exact .inl a
      · exact .inr (.inr a)
    · rintro (a | rfl | a)
      · exact .inl (.inr ⟨a, hx q a p List.mem_cons_self⟩)
      · exact .inl (.inl rfl)
      · exact .inr a
theorem names_ext {ps qs : List (Int × Int)} (hp : Names ps) (hq : Names qs) (h : ∀ p, p ∈ ps ↔ p ∈ qs) : ps = qs := by
  have n1 : ps.Nodup := hp.up.imp fun h e => by rw [e] at h; omega
  have n2 : qs.Nodup := hq.up.imp fun h e => by rw [e] at h; omega
  exact (((List.perm_ext_iff_of_nodup n1 n2).mpr h)).eq_of_pairwise (le := fun a b => a.1 < b.1) (fun a b _ _ h1 h2 => by omega) hp.up hq.up
theorem insAll_perm {ps L : List (Int × Int)} (hp : Names ps) (h : L.Perm ps) : insAll [] L = ps := by
  have hr : ∀ p ∈ L, 0 ≤ p.1 ∧ p.1 < 256 := fun p z => hp.all p (h.mem_iff.mp z)
  have hd : L.Pairwise fun a b => a.1 ≠ b.1 := (h.pairwise_iff fun z => Ne.symm z).mpr (hp.up.imp fun z => by omega)
  have n0 : Names ([] : List (Int × Int)) := ⟨.nil, by simp⟩
  refine names_ext (insAll_names hr n0) hp fun q => ?_
  rw [mem_insAll hr hd n0 (by simp), h.mem_iff]
  exact ⟨fun z => z.elim (fun a => absurd a List.not_mem_nil) id, .inr⟩
theorem Good.all {b : Nat} (hb : 1 ≤ b) {R : List Code} {D : Nat} {ps : List (Int × Int)} (h : Good b R D ps) : insAll [] ((canon b ps).flatMap (thg ps)) = ps :=
  insAll_perm h.nm (((h.perm hb).symm.flatMap_right _).trans (flat_perm h.cov h.nd h.nm))
end

section
open PySem.Spec PyProof.Rows
variable [TabCx]
/-- x, *y = a list of one item or more -/
def gHead (K : PySem.W.Frag) (i j : Nat) : TG := fun v σ H Q => ∃ a u us, v = .ref a ∧ SqL K H a (u :: us) ∧ us.length ≤ 90000 ∧ ∀ D, H D = none → Q ((σ.set i (some u)).set j (some (.ref D))) (upd H D (.lst us))
theorem pg_head {X : Cx} {x y : Str} {p1 p2 p3 pos : Pos} {k : Nat} {i j : Nat} (hc : X.calm = true) (hN : X.N.Nodup) (hi : X.N[i]? = some x) (hx : Loc X.env.scope x) (hj : X.N[j]? = some y) (hy : Loc X.env.scope y)
    (hfx : X.fn x = true ∨ X.env.scope.names.lookup x = some .local := by first | exact .inl rfl | exact .inr rfl | assumption) (hfy : X.fn y = true ∨ X.env.scope.names.lookup y = some .local := by first | exact .inl rfl | exact .inr rfl | assumption)
    (hae : assignEach [.Name x p1, .Starred (.Name y p2) p3] X.env = [(false, assign (.Name x p1) X.env), (true, assign (.Name y p2) X.env)] := by rfl) :
    PG X (.Tuple [.Name x p1, .Starred (.Name y p2) p3] k pos) (gHead X.K i j) := by
  refine ⟨fun pins s σ H v w Q I r hw => ?_⟩
  obtain ⟨a, u, us, rfl, hq, hl, hw⟩ := hw
  cases r
  obtain ⟨its, rv, pl, hz⟩ := I.list hq
  have hit := pl.isList
  have hitsz : its.toArray.size = us.length + 1 := by
    rw [List.size_toArray, ← rv.length]
    rfl
  have hA : X.A.handled = none := I.ok.hd hc
  rw [assign_Tuple, hae]
  refine wpAny_bind (wpAny_standAt ?_)
  unfold unpack
  refine wpAny_bind (wpAny_holding ?_)
  show wpAny _ X.A (unpackItems (.ref a) 2 (some 1)) _ _ s
  have hlt : a ≠ s.heap.objs.size := by obtain ⟨o, ho, _⟩ := hit; exact Nat.ne_of_lt (Heap.lt_size ho)
  unfold unpackItems
  refine wpAny_bind ?_
  unfold notIterableAtAll
  refine wpAny_bind (wpAny_specialOf hit.typeIs slot_list_iter.lookup ?_)
  refine wpAny_pure ?_
  simp only [Bool.false_eq_true, if_false]
  refine wpAny_bind (wpAny_holding (wpAny_pyIter_list hit ?_))
  refine wpAny_bind (wpAny_holding (PySem.W.kun_draw hlt 1 0 _ _ ⟨_, Heap.get?_push_size _ rfl, rfl, rfl⟩ (hit.push _) (by omega) fun h₁ hit₁ hs₁ => ?_))
  have hl₁ : h₁.IsList a its.toArray := (hit.push _).extBut hs₁.extBut hlt
  rw [Nat.zero_add] at hit₁
  have hit₁' := hit₁
  obtain ⟨oi, hoi, _⟩ := hit₁'
  have hl₁' := hl₁
  obtain ⟨ol, hol, _⟩ := hl₁'
  rw [List.drop_zero]
  obtain ⟨w0, ws, rfl, r0, rr⟩ : ∃ w0 ws, its = w0 :: ws ∧ RelV u w0 ∧ Vals us ws := by
    cases rv with
    | cons r0 rr => exact ⟨_, _, rfl, r0, rr⟩
  have etl : (w0 :: ws).toArray.toList = w0 :: ws := rfl
  rw [etl, List.take_succ_cons, List.take_zero]
  rw [if_neg (show ¬ (([w0] : List Value).length < 1) from Nat.lt_irrefl 1)]
  have hlw : ws.length = us.length := rr.length.symm
  refine wpAny_bind (wpAny_holding (PySem.W.kun_collect (s := { s with heap := h₁ }) (T := "list_iterator") (.inr (.inr (.inl rfl))) (Walks.list (A := X.A.in1) hA s.heap.objs.size a hlt (w0 :: ws).toArray) (fun j u st => st.1.typeIs) (k := 1) (by omega) ⟨hit₁, hl₁⟩ (Heap.lt_size hoi) (Heap.lt_size hol) (fun h₂ tk hk => ?_) (by rw [hitsz]; exact sz_of (by omega))))
  rw [etl, List.drop_one, List.tail_cons]
  show wpAny _ _ (if ws.length < 0 then _ else _) _ _ _
  rw [if_neg (Nat.not_lt_zero _)]
  show wpAny _ _ (newList (ws.take (ws.length - 0)) >>= fun d => pure ([w0] ++ [d] ++ ws.drop (ws.length - 0))) _ _ _
  rw [Nat.sub_zero, List.take_length, List.drop_length]
  have he : Heap.ExtBut s.heap.objs.size s.heap h₂ := fun b o hb e => hk b o hb (hs₁.extBut b o hb (Heap.get?_push_of_some _ e))
  have I2 : Inv X pins σ H { s with heap := h₂, toks := tk } := I.kept fun b o e => he b o (Nat.ne_of_lt (Heap.lt_size e)) e
  refine wpAny_bind (wpAny_newList ?_ (by rw [hlw]; exact sz_of (by omega)))
  refine wpAny_pure ?_
  have hn := I2.hok.fresh (Nat.le_refl h₂.objs.size)
  have I3 : Inv X pins σ (upd H h₂.objs.size (.lst us)) { s with heap := h₂.push (seqObj "list" ws.toArray 0), toks := tk } := I2.laid (t' := tk) (fun b o e => Heap.get?_push_of_some _ e) (Nat.le_refl _)
    (show ObjOk X.prog X.w _ _ _ (.lst us) from ⟨sz_of (by omega), ws, 0, rr, Heap.get?_push_size _ rfl⟩)
  show wpAny _ X.A (assignInOrder [assign (.Name x p1) X.env, assign (.Name y p2) X.env] [w0, Value.ref h₂.objs.size]) _ _ _
  refine assignInOrder_cons (wpAny_assign_Name (store_ok I3 hN hi hx r0 (fun s' I' => ?_) hfx))
  refine assignInOrder_cons (wpAny_assign_Name (store_ok (v := .ref h₂.objs.size) I' hN hj hy rfl (fun s'' I'' => ?_) hfy))
  exact assignInOrder_nil ⟨_, _, I'', hw _ hn⟩
end


section
open SX
variable {P : Program} {w : World} {K : PySem.W.Frag} {mg : Str → Option Value} {base : Heap} [TabCx]
theorem ex_fresh {H A B : Hp} {p d : Addr} (e : Ex H A) (x : ExS p d A B) (hp : H p = none) (hd : H d = none) : Ex H B :=
  ⟨fun a o h t => x.keep a o (e.keep a o h t) (fun z => by rw [z, hp] at h; cases h) (fun z => by rw [z, hd] at h; cases h) t, fun a h => e.dom a (x.dom a h), fun t => x.tabs (e.tabs t)⟩
theorem q_asgGT {te : TE} {g : TG} {tz : TS} {D : Ends} {σ : L2.St} {H : Hp} {Pr : Hp → V → Hp → Prop} (h : EvG te σ H Pr) (k : ∀ v B, Ex H B → Pr H v B → g v σ B (tz D)) : tSeq (tAsg te g) tz D σ H := h H (.refl H) _ k
theorem q_make {C : Addr} {sp : Sp} {E : XK} {t : TA} {i : Nat} {tz : TS} {D : Ends} {σ : L2.St} {H : Hp} {vs : List V} (h : EvA t σ H vs) (k : ∀ B, Ex H B → ∀ x dx, B x = none → B dx = none → dx ≠ x → sp (.ref x :: (vs ++ [])) (upd (upd B dx (.own x)) x (.ins C dx [])) (fun v H2 => v = .non ∧ tz D (σ.set i (some (.ref x))) H2) E) :
    tSeq (tAsg (tMake C sp [] E t) (gName i)) tz D σ H := h H (.refl H) _ k
theorem q_seq {a b c : TS} {D : Ends} {σ : L2.St} {H : Hp} (h : tSeq a b { D with nx := c D } σ H) : tSeq (tSeq a b) c D σ H := h
theorem spv_written {C : Addr} {H : Hp} {p d bd : Addr} {kvs : List (Key × V)} {b : Nat} {R : List Code} {D : Nat} {ps : List (Int × Int)} (S : SA C H p d bd kvs b R D ps) (G : Good b R D ps) (hb : 1 ≤ b ∧ b ≤ 64) (hv : VB ps) : SpV (spWritten C) [.ref p] H (.str (wr b ps)) := fun A e Q q E => ⟨p, d, bd, kvs, b, R, D, ps, rfl, S.mono e, G, hb, hv, q⟩
theorem s_forL {a : Addr} {xs : List V} {tl : TE} {g : TG} {tu : TS} {D : Ends} {σ : L2.St} {H : Hp} (h : Ev tl σ H (.ref a)) (hx : SqL K H a xs) (W : Nat → L2.St → Hp → Prop) (h0 : ∀ B, Ex H B → W 0 σ B) (hl : ∀ i σ' B, i ≤ xs.length → W i σ' B → SqL K B a xs)
    (hs : ∀ i x σ' B, xs[i]? = some x → W i σ' B → g x σ' B fun σ2 C => tu { D with nx := W (i + 1), ct := W (i + 1), bk := D.nx } σ2 C) (hd : ∀ σ' B, W xs.length σ' B → D.nx σ' B) : tFor (iList K tl) g tu D σ H :=
  h H (.refl H) _ fun B e => ⟨a, rfl, ⟨xs, ex_l e hx⟩, for_list (D := D) W (h0 B e) hl hs hd⟩
theorem s_forLR {α : Type} {r : Rp α} {as : List α} {tl : TE} {g : TG} {tu : TS} {D : Ends} {σ : L2.St} {H : Hp} (h : EvLR r tl σ H as) (W : Addr → List V → Nat → L2.St → Hp → Prop) (h0 : ∀ p xs B, Ex H B → B p = some (.lst xs) → PR r B xs as → W p xs 0 σ B) (hl : ∀ p xs i σ' B, i ≤ xs.length → W p xs i σ' B → SqL K B p xs)
    (hs : ∀ p xs i x σ' B, xs[i]? = some x → W p xs i σ' B → g x σ' B fun σ2 C => tu { D with nx := W p xs (i + 1), ct := W p xs (i + 1), bk := D.nx } σ2 C) (hd : ∀ p xs σ' B, xs.length = as.length → W p xs xs.length σ' B → D.nx σ' B) : tFor (iList K tl) g tu D σ H :=
  h H (.refl H) _ fun v B e ⟨p, ev, _, xs, hp, hpx⟩ => ⟨p, ev, ⟨xs, sq_of hp⟩, for_list (D := D) (W p xs) (h0 p xs B e hp hpx) (hl p xs) (hs p xs) (hd p xs · · hpx.length)⟩
def spRead (C : Addr) : Sp := fun vs H Q _ => ∃ (b : Nat) (R : List Code) (D : Nat) (ps : List (Int × Int)), vs = [.str (wr b ps)] ∧ Good b R D ps ∧ (1 ≤ b ∧ b ≤ 64) ∧ VB ps ∧
  ∀ (p d bd : Addr) (kvs : List (Key × V)) (R' : List Code) (D' : Nat) (B : Hp), H p = none → H d = none → Ex H B → SA C B p d bd kvs b R' D' ps → Good b R' D' ps → Q (.ref p) B
set_option maxHeartbeats 1000000 in
theorem ok_read (T : Top K mg) : FnOk P w K mg base CX0 9 T.a_read T.fd_read ["text"] (spRead T.a_Store) := by
  refine T.F_read.ok sc_read (fun vs H Q E h => ?_) (fun cdv A outer s H vs Q E hr h => ?_)
  · obtain ⟨b, R, D, ps, rfl, _⟩ := h
    rfl
  · obtain ⟨b, R, D, ps, rfl, G, hb, hv, k⟩ := h
    refine ⟨_, (pss_cons (ps_asg (pe_split (pv 0) pe_str) (pg_head (i := 1) (j := 2) rfl sc_read.nd rfl (Or.inl rfl) rfl (Or.inl rfl)))
      (pss_cons (ps_try_thru0 (pss_cons (ps_set (i := 3) sc_read.nd rfl (Or.inl rfl) (pe_make T.mk_Store (ok_m___init__ T) (hr.mono (by decide)) rfl T.g_Store T.b_m___init__ .nil pass0 (pa_cons (pe_call (ok_number_in T) (hr.mono (by decide)) rfl T.g_number_in T.F_number_in.kp T.b_number_in .nil pass0 (pa_cons (pe_bm PySem.F.plainAttrs_str PySem.F.slot_str_removeprefix PySem.F.type_str_removeprefix mt_removeprefix (pv 1) (pa_cons (pe_glob (v := .str "bound ") rfl T.c_BOUND_WORD.2 ⟨_, rfl⟩) pa_nil)) pa_nil)) pa_nil)))
      (pss_one (ps_for PassesOwn.never rfl (pi_list (pv 2)) (pg_name (i := 4) sc_read.nd rfl (Or.inl rfl)) (pss_one (ps_for PassesOwn.never rfl (pi_list (pe_call (ok_things_in T) (hr.mono (by decide)) rfl T.g_things_in T.F_things_in.kp T.b_things_in .nil pass0 (pa_cons (pv 4) pa_nil))) (pg_tup rfl (pgs_cons (pg_name (i := 5) sc_read.nd rfl (Or.inl rfl)) (pgs_cons (pg_name (i := 6) sc_read.nd rfl (Or.inl rfl)) pgs_nil))) (pss_one (ps_expr (pe_meth (pv 3) T.cl_Store T.M_m_put (ok_m_put T) (hr.mono (by decide)) T.b_m_put .nil pass0 (pa_cons (pv 5) (pa_cons (pv 6) pa_nil)))))))))))
      (pss_cons (ps_if (pt_cmpR op_ne (pe_call (ok_written T) (hr.mono (by decide)) rfl T.g_written T.F_written.kp T.b_written .nil pass0 (pa_cons (pv 3) pa_nil)) (pv 0) (nomark _)) (pss_one ps_never) pss_nil)
      (pss_one (ps_ret (pv 3)))))), ?_⟩
    have hin := rooms_in G hb.1 hv
    have hlen := rooms_len G hb.1
    have htl : (textL b (roomsT b ps)).length ≤ 4500000 := textL_len hb.2 (fun r hr => rowL_len (hin r hr).1 (hin r hr).2.1 (hin r hr).2.2) hlen
    have nl := numZ_len (i := (b : Int)) (k := 3) (by decide) (by omega)
    have hv0 : Ev (tVar 0) [some (.str (wr b ps)), none, none, none, none, none, none] H (.str (wr b ps)) := by walk_at "ev"
    have hv1 : Ev (tVar 0) [some (.str (wr b ps)), none, none, none, none, none, none] H (.str (S (textL b (roomsT b ps)))) := hv0
    show tSeq _ _ _ [some (.str (wr b ps)), none, none, none, none, none, none] H
    refine q_asgGT (eg_split (a := textL b (roomsT b ps)) (b := [10]) hv1 (ev_litc (s := "\n") rfl) rfl (Nat.le_trans htl (by decide)) (split_text b (roomsT b ps))) fun v H1 e1 ⟨p1, ev1, hp1, hl1⟩ => ?_
    refine ⟨p1, .str (S (boundL ++ numZ b)), _, ev1, sq_of hl1, by rw [List.length_map, List.length_map, List.length_map]; omega, fun Dr hDr => ?_⟩
    have x1 : Ex H (upd H1 Dr (.lst ((((roomsT b ps).map fun r => rowL r.1 r.2).map S).map V.str))) := e1.trans (.new hDr)
    generalize hH2 : upd H1 Dr (.lst ((((roomsT b ps).map fun r => rowL r.1 r.2).map S).map V.str)) = H2 at x1
    have hrows : H2 Dr = some (.lst ((((roomsT b ps).map fun r => rowL r.1 r.2).map S).map V.str)) := by rw [← hH2]; exact upd_same
    show tSeq _ _ _ [some (.str (wr b ps)), some (.str (S (boundL ++ numZ b))), some (.ref Dr), none, none, none, none] H2
    have h0 : Ev (tVar 1) [some (.str (wr b ps)), some (.str (S (boundL ++ numZ b))), some (.ref Dr), none, none, none, none] H2 (.str (S (boundL ++ numZ b))) := by walk_at "ev"
    refine q_seq (q_make (ea_cons (ev_call (ea_cons (ev_rmp (K := K) (a := boundL ++ numZ b) (b := boundL) h0 (ev_litc (s := "bound ") rfl) (by rw [List.length_append, show boundL.length = 6 from rfl]; omega) (rmp_hit boundL (numZ b))) ea_nil) (spv_num (i := (b : Int)) (by omega))) ea_nil) fun B2 e2 x dx hx hdx hne => ?_)
    refine ⟨x, dx, b, rfl, upd_same, hb, fun d bd kvs B3 hd x3 S3 => ⟨rfl, ?_⟩⟩
    have xB : Ex B2 (upd (upd B2 dx (.own x)) x (.ins T.a_Store dx [])) := (Ex.new hdx).trans (.new (by rw [upd_ne (Ne.symm hne)]; exact hx))
    have x2 : Ex H B2 := x1.trans e2
    have hx0 : H x = none := x2.dom x hx
    have hd0 : H d = none := x2.dom d (xB.dom d hd)
    have hx2 : H2 x = none := e2.dom x hx
    have hd2 : H2 d = none := e2.dom d (xB.dom d hd)
    have x3' : Ex H2 B3 := ex_fresh (e2.trans xB) x3 hx2 hd2
    have xH : Ex H B3 := x1.trans x3'
    have hrows3 := x3'.k hrows
    generalize hus : (((roomsT b ps).map fun r => rowL r.1 r.2).map S).map V.str = us at hrows hrows3
    have husl : us.length = (roomsT b ps).length := by rw [← hus, List.length_map, List.length_map, List.length_map]
    have husi : ∀ (i : Nat) (y : V), us[i]? = some y → ∃ r, (roomsT b ps)[i]? = some r ∧ y = .str (S (rowL r.1 r.2)) := by
      intro i y hy
      rw [← hus, List.getElem?_map, List.getElem?_map, List.getElem?_map] at hy
      rcases hr : (roomsT b ps)[i]? with _ | r
      · rw [hr] at hy
        cases hy
      · rw [hr] at hy
        exact ⟨r, rfl, (Option.some.inj hy).symm⟩
    show tFor _ _ _ _ [some (.str (wr b ps)), some (.str (S (boundL ++ numZ b))), some (.ref Dr), some (.ref x), none, none, none] B3
    generalize htxt : V.str (wr b ps) = txt
    generalize V.str (S (boundL ++ numZ b)) = hd1
    have hrl : ∀ {i : Nat} {r : Code × List (Int × Int)}, (roomsT b ps)[i]? = some r → r ∈ roomsT b ps := fun h => List.mem_of_getElem? h
    generalize hrs : roomsT b ps = rs at *
    refine s_forL (K := K) (a := Dr) (xs := us) (by walk_at "ev") (sq_of hrows3) (fun i σ' B => ∃ (bd : Addr) (kvs : List (Key × V)) (R' : List Code) (D' : Nat) (u4 u5 u6 : Option V), Ex H2 B ∧ SA T.a_Store B x d bd kvs b R' D' (insAll [] ((rs.take i).flatMap (·.2))) ∧ Good b R' D' (insAll [] ((rs.take i).flatMap (·.2))) ∧ σ' = [some txt, some hd1, some (.ref Dr), some (.ref x), u4, u5, u6]) ?_ ?_ ?_ ?_
    · intro B e
      exact ⟨bd, kvs, [(0, 0)], 0, none, none, none, x3'.trans e, by rw [List.take_zero]; exact S3.mono e, by rw [List.take_zero]; exact good_nil, rfl⟩
    · rintro i σ' B hi ⟨_, _, _, _, _, _, _, e, _⟩
      exact sq_of (e.k hrows)
    · rintro i y σ' B hi ⟨bd1, kvs1, R1, D1, u4, u5, u6, e, S1, G1, rfl⟩
      obtain ⟨r, hr, rfl⟩ := husi i y hi
      obtain ⟨i1, i2, i3⟩ := hin r (hrl hr)
      show tFor _ _ _ _ [some txt, some hd1, some (.ref Dr), some (.ref x), some (.str (S (rowL r.1 r.2))), u5, u6] B
      generalize hpre : insAll [] ((rs.take i).flatMap (·.2)) = pre at S1 G1
      have hnext : insAll [] ((rs.take (i + 1)).flatMap (·.2)) = insAll pre r.2 := by
        rw [take_snoc hr, List.flatMap_append, List.flatMap_singleton, ← hpre]
        unfold insAll
        rw [List.foldl_append]
      refine s_forLR (K := K) (r := rpT) (as := r.2) (ev_callLR (by walk_at "ea") (spl_thin i2 i3 i1)) (fun p xs j σ' B => ∃ (bd : Addr) (kvs : List (Key × V)) (R' : List Code) (D' : Nat) (u4 u5 u6 : Option V), Ex H2 B ∧ SA T.a_Store B x d bd kvs b R' D' (insAll pre (r.2.take j)) ∧ Good b R' D' (insAll pre (r.2.take j)) ∧ B p = some (.lst xs) ∧ PR rpT B xs r.2 ∧ σ' = [some txt, some hd1, some (.ref Dr), some (.ref x), u4, u5, u6]) ?_ ?_ ?_ ?_
      · intro p xs C c hp hpx
        exact ⟨bd1, kvs1, R1, D1, _, u5, u6, e.trans c, by rw [List.take_zero]; exact S1.mono c, by rw [List.take_zero]; exact G1, hp, hpx, rfl⟩
      · rintro p xs j σ' C hj ⟨_, _, _, _, _, _, _, _, _, _, hp, _⟩
        exact sq_of hp
      · rintro p xs j y σ' C hj ⟨bd2, kvs2, R2, D2, v4, v5, v6, c, S2, G2, hp, hpx, rfl⟩
        obtain ⟨q, hq, ⟨t, rfl, ht⟩⟩ := pr_get hpx hj
        refine g_pair ht ?_
        have hqm : q ∈ r.2 := List.mem_of_getElem? hq
        have hqn := i2.all q hqm
        show tDrop _ _ [some txt, some hd1, some (.ref Dr), some (.ref x), v4, some (.int q.1), some (.int q.2)] C
        refine S2.g_meth (by walk_at "ev") (by walk_at "ea") fun B4 e4 => ⟨x, d, bd2, kvs2, b, R2, D2, _, q.1, q.2, rfl, S2.mono e4, G2, hb.1, hqn, fun bd' kvs' R' D' B5 x5 S5 G5 => ?_⟩
        have hst : insAll pre (r.2.take (j + 1)) = insT (insAll pre (r.2.take j)) q.1 q.2 := by rw [take_snoc hq, insAll_snoc]
        refine ⟨bd', kvs', R', D', v4, _, _, ex_fresh (c.trans e4) x5 hx2 hd2, by rw [hst]; exact S5, by rw [hst]; exact G5, ?_, ?_, rfl⟩
        · exact ((S2.mono e4).w x5).keep p _ (e4.k hp) trivial
        · exact pr_monoW ((S2.mono e4).w x5) (pr_mono e4 hpx)
      · rintro p xs σ' C hxl ⟨bd2, kvs2, R2, D2, v4, v5, v6, c, S2, G2, hp, hpx, rfl⟩
        rw [hxl, List.take_length] at S2 G2
        exact ⟨bd2, kvs2, R2, D2, v4, v5, v6, c, by rw [hnext]; exact S2, by rw [hnext]; exact G2, rfl⟩
    · rintro σ' B ⟨bd1, kvs1, R1, D1, u4, u5, u6, e, S1, G1, rfl⟩
      have hall : insAll [] ((rs.take us.length).flatMap (·.2)) = ps := by
        rw [husl, List.take_length, ← hrs]
        unfold roomsT
        rw [List.flatMap_map]
        exact G.all hb.1
      rw [hall] at S1 G1
      dsimp only
      have g0 : Ev (tVar 0) [some txt, some hd1, some (.ref Dr), some (.ref x), u4, u5, u6] B (.str (wr b ps)) := by rw [htxt]; walk_at "ev"
      refine q_when (b := !decide (V.str (wr b ps) = V.str (wr b ps))) (et_test (ev_op (ev_call (vs := [.ref x]) (by walk_at "ea") (spv_written S1 G1 hb hv)) g0 (rv_ne rfl))) (fun hb' => ?_) fun _ B6 e6 => ?_
      · rw [decide_eq_true rfl] at hb'
        cases hb'
      · refine s_retk (v := .ref x) (by walk_at "ev") fun B7 e7 => ?_
        exact k x d bd1 kvs1 R1 D1 B7 hx0 hd0 (x1.trans ((e.trans e6).trans e7)) (S1.mono (e6.trans e7)) G1
end


/-! ### what is refused -/
section
variable {P : Program} {w : World} {K : PySem.W.Frag} {mg : Str → Option Value} {base : Heap} [TabCx]
/-- no number of those that are asked for -/
inductive NoNum (ok : Int → Prop) (H : Hp) : V → Prop
  | int (i : Int) : ¬ ok i → NoNum ok H (.int i)
  | bl (b : Bool) : NoNum ok H (.bl b)
  | str (s : Str) : NoNum ok H (.str s)
  | non : NoNum ok H .non
  | lst {a : Addr} {xs : List V} : H a = some (.lst xs) → NoNum ok H (.ref a)
  | tup {a : Addr} {xs : List V} : H a = some (.tup xs) → NoNum ok H (.ref a)
theorem NoNum.mono {ok : Int → Prop} {H H' : Hp} {v : V} (e : Ex H H') (h : NoNum ok H v) : NoNum ok H' v := by
  cases h with
  | int i h => exact .int i h
  | bl b => exact .bl b
  | str s => exact .str s
  | non => exact .non
  | lst h => exact .lst (e.k h)
  | tup h => exact .tup (e.k h)
theorem noNum_ty {ok : Int → Prop} {H : Hp} {v : V} (h : NoNum ok H v) : (∃ i : Int, v = .int i ∧ ¬ ok i) ∨ ∃ n : String, decide (n = "int") = false ∧ ∀ A, Ex H A → TyB K A v n := by
  cases h with
  | int i h => exact .inl ⟨i, rfl, h⟩
  | bl b => exact .inr ⟨"bool", by decide, fun _ _ => .bl b⟩
  | str s => exact .inr ⟨"str", by decide, fun _ _ => .str s⟩
  | non => exact .inr ⟨"NoneType", by decide, fun _ _ => .non⟩
  | lst h => exact .inr ⟨"list", by decide, fun _ e => .lst (sq_of (e.k h))⟩
  | tup h => exact .inr ⟨"tuple", by decide, fun _ e => .tup (st_of (e.k h))⟩
abbrev NmOk : Int → Prop := fun i => 0 ≤ i ∧ i < 256
abbrev BdOk : Int → Prop := fun i => 1 ≤ i ∧ i ≤ 64
/-- it is refused: the way out takes it -/
def Ref (ok : Int → Prop) (C : Addr) (H : Hp) (x : V) (E : XK) : Prop := NoNum ok H x ∧ ∀ B, Ex H B → E (.ref C) none B
theorem Ref.mono {ok : Int → Prop} {C : Addr} {H H' : Hp} {x : V} {E : XK} (e : Ex H H') (h : Ref ok C H x E) : Ref ok C H' x E := ⟨h.1.mono e, fun B b => h.2 B (e.trans b)⟩
def spR (ok : Int → Prop) (C : Addr) : Sp := fun vs H _ E => ∃ x, vs = [x] ∧ Ref ok C H x E
/-- an instance with a store's fields -/
def Obj4 (CS : Addr) (H : Hp) (p : Addr) : Prop := ∃ (dx d bd : Addr) (b D : Nat), H p = some (.ins CS dx (flds b d bd D))
theorem Obj4.mono {CS : Addr} {H H' : Hp} {p : Addr} (e : Ex H H') (h : Obj4 CS H p) : Obj4 CS H' p := by
  obtain ⟨dx, d, bd, b, D, h⟩ := h
  exact ⟨dx, d, bd, b, D, e.k h⟩
def spRM (CS C : Addr) : Sp := fun vs H _ E => ∃ p x, vs = [.ref p, x] ∧ Obj4 CS H p ∧ Ref NmOk C H x E
def spRM3 (CS C : Addr) : Sp := fun vs H _ E => ∃ p x y, vs = [.ref p, x, y] ∧ Obj4 CS H p ∧ Ref NmOk C H x E
/-- what never tells a value -/
def XX (te : TE) (σ : L2.St) (H : Hp) : Prop := ∀ A, Ex H A → ∀ Q : VK, te σ A Q
section
variable {σ : L2.St} {H : Hp} {ta tb te td ty : TE} {t : TA} {sp : Sp} {E : L2.St → XK} {vs : List V} {C p dx : Addr} {fs : List (Str × V)} {m : Str} {D : Ends} {tz : TS} {r : R2} {x : V}
theorem xx_call (h : EvA t σ H vs) (k : ∀ B Q, Ex H B → sp vs B Q (E σ)) : XX (tCallS sp E t) σ H := fun A a Q => h A a _ fun B b => k B Q (a.trans b)
theorem xx_meth (h : Ev te σ H (.ref p)) (hp : H p = some (.ins C dx fs)) (hm : fs.lookup m = none) (ha : EvA t σ H vs) (k : ∀ B Q, Ex H B → sp (.ref p :: vs) B Q (E σ)) : XX (tMethP C m sp E te t) σ H := fun A a Q =>
  h A a _ fun B b => ⟨p, dx, fs, rfl, (a.trans b).k hp, hm, ha B (a.trans b) _ fun G g => k G Q ((a.trans b).trans g)⟩
theorem xx_opL (h : XX ta σ H) : XX (tOp r ta tb) σ H := fun A a _ => h A a _
theorem xx_opR (h : Ev ta σ H x) (i : XX tb σ H) : XX (tOp r ta tb) σ H := fun A a _ => h A a _ fun B b => i B (a.trans b) _
theorem xx_dget (h : Ev td σ H x) (i : XX ty σ H) : XX (tDGet td ty) σ H := fun A a _ => h A a _ fun B b => i B (a.trans b) _
theorem xx_callA {sp : Sp} {dvs : List V} {E : XK} (h : XX te σ H) : XX (tCall sp dvs E (tCons te t)) σ H := fun A a _ => h A a _
theorem xq_asg {g : TG} (h : XX te σ H) : tSeq (tAsg te g) tz D σ H := h H (.refl H) _
theorem xq_drop (h : XX te σ H) : tSeq (tDrop te) tz D σ H := h H (.refl H) _
theorem xs_drop (h : XX te σ H) : tDrop te D σ H := h H (.refl H) _
theorem xs_ret (h : XX te σ H) : tRet te D σ H := h H (.refl H) _
theorem x_meth {CS C : Addr} {E : L2.St → XK} (h : Ev te σ H (.ref p)) (o : Obj4 CS H p) (hx : Ref NmOk C H x (E σ)) (ha : EvA t σ H [x]) (h1 : ¬ ("bound" : Str) = m := by decide +kernel) (h2 : ¬ ("_rooms" : Str) = m := by decide +kernel) (h3 : ¬ ("_board" : Str) = m := by decide +kernel) (h4 : ¬ ("_depth" : Str) = m := by decide +kernel) : XX (tMethP CS m (spRM CS C) E te t) σ H := by
  obtain ⟨dx, d, bd, b, D, o1⟩ := id o
  exact xx_meth h o1 (fl_none h1 h2 h3 h4) ha fun B _ e => ⟨p, x, rfl, o.mono e, hx.mono e⟩
theorem x_meth3 {y : V} {CS C : Addr} {E : L2.St → XK} (h : Ev te σ H (.ref p)) (o : Obj4 CS H p) (hx : Ref NmOk C H x (E σ)) (ha : EvA t σ H [x, y]) (h1 : ¬ ("bound" : Str) = m := by decide +kernel) (h2 : ¬ ("_rooms" : Str) = m := by decide +kernel) (h3 : ¬ ("_board" : Str) = m := by decide +kernel) (h4 : ¬ ("_depth" : Str) = m := by decide +kernel) : XX (tMethP CS m (spRM3 CS C) E te t) σ H := by
  obtain ⟨dx, d, bd, b, D, o1⟩ := id o
  exact xx_meth h o1 (fl_none h1 h2 h3 h4) ha fun B _ e => ⟨p, x, y, rfl, o.mono e, hx.mono e⟩
end
theorem okR_check_name (T : Top K mg) : FnOk P w K mg base (L2N.CX P w) 1 T.a_check_name T.fd_check_name ["name"] (spR NmOk T.a_BadName) := by
  refine okN T.F_check_name sc_check_name (fun vs H Q E h => ?_) (fun cdv A outer s H vs Q E hr h => ?_)
  · obtain ⟨x, rfl, _⟩ := h
    rfl
  · refine ⟨_, (pss_one (ps_if (PW.pt (pw_or (pt_cmpR op_notTyB (pe_callTy (r := rTyp K) call_type1 (by rfl) T.z_type (by decide +kernel) (pa_cons (pv 0) pa_nil)) (pe_bltn (v := .ty "int") (by rfl) T.z_int (by decide +kernel) rfl) (nomark _)) (pw_or1 (pt_not (pt_chain op_le op_lt pe_int (pv 0) (pe_glob (v := .int 256) rfl T.c_NAMES.2 ⟨_, rfl⟩)))))) (pss_one (L2N.ps_raise rfl (L2N.takes_of rfl rfl rfl rfl) (L2N.pmk_own PySem.F.excBase_ValueError T.x_BadName T.g_BadName T.kc_BadName (raises_own T.bc_BadName T.tc_BadName) (by exact rfl)))) pss_nil)), ?_⟩
    obtain ⟨x, rfl, hx, k⟩ := h
    rcases noNum_ty (K := K) hx with ⟨i, rfl, hi⟩ | ⟨n, hn, ty⟩
    · walk_at "when"
      · intro hb B e
        exact k B e
      · intro hb
        have hi : ¬ (0 ≤ i ∧ i < 256) := hi
        simp at hb
        omega
    · refine s_when (b := !decide (n = "int") || true) (et_or (et_test (ev_op (ev_cb (by walk_at "ea") (fun A a Q q => ⟨x, n, rfl, ty A a, q A (.refl A)⟩)) (by walk_at "ev") rv_NT)) fun hb => absurd hb (by simp [hn])) (fun _ B e => k B e) (fun hb => absurd hb (by simp [hn]))
theorem okR_check_bound (T : Top K mg) : FnOk P w K mg base (L2N.CX P w) 1 T.a_check_bound T.fd_check_bound ["bound"] (spR BdOk T.a_BadBound) := by
  refine okN T.F_check_bound sc_check_bound (fun vs H Q E h => ?_) (fun cdv A outer s H vs Q E hr h => ?_)
  · obtain ⟨x, rfl, _⟩ := h
    rfl
  · refine ⟨_, (pss_one (ps_if (PW.pt (pw_or (pt_cmpR op_notTyB (pe_callTy (r := rTyp K) call_type1 (by rfl) T.z_type (by decide +kernel) (pa_cons (pv 0) pa_nil)) (pe_bltn (v := .ty "int") (by rfl) T.z_int (by decide +kernel) rfl) (nomark _)) (pw_or1 (pt_not (pt_chain op_le op_le (pe_glob (v := .int 1) rfl T.c_LEAST_BOUND.2 ⟨_, rfl⟩) (pv 0) (pe_glob (v := .int 64) rfl T.c_GREATEST_BOUND.2 ⟨_, rfl⟩)))))) (pss_one (L2N.ps_raise rfl (L2N.takes_of rfl rfl rfl rfl) (L2N.pmk_own PySem.F.excBase_ValueError T.x_BadBound T.g_BadBound T.kc_BadBound (raises_own T.bc_BadBound T.tc_BadBound) (by exact rfl)))) pss_nil)), ?_⟩
    obtain ⟨x, rfl, hx, k⟩ := h
    rcases noNum_ty (K := K) hx with ⟨i, rfl, hi⟩ | ⟨n, hn, ty⟩
    · walk_at "when"
      · intro hb B e
        exact k B e
      · intro hb
        have hi : ¬ (1 ≤ i ∧ i ≤ 64) := hi
        simp at hb
        omega
    · refine s_when (b := !decide (n = "int") || true) (et_or (et_test (ev_op (ev_cb (by walk_at "ea") (fun A a Q q => ⟨x, n, rfl, ty A a, q A (.refl A)⟩)) (by walk_at "ev") rv_NT)) fun hb => absurd hb (by simp [hn])) (fun _ B e => k B e) (fun hb => absurd hb (by simp [hn]))
theorem okR_mixed (T : Top K mg) : FnOk P w K mg base (L2N.CX P w) 2 T.a_mixed T.fd_mixed ["name"] (spR NmOk T.a_BadName) := by
  refine okN T.F_mixed sc_mixed (fun vs H Q E h => ?_) (fun cdv A outer s H vs Q E hr h => ?_)
  · obtain ⟨x, rfl, _⟩ := h
    rfl
  · refine ⟨_, (pss_cons (ps_expr (pe_callS (okR_check_name T) (hr.mono (by decide)) rfl T.g_check_name T.F_check_name.kp T.b_check_name (fun σ => L2N.passAt (L2N.takes_of rfl rfl rfl rfl) σ) (pa_cons (pv 0) pa_nil)))
      (pss_one (ps_ret (pe_op op_mod (pe_op op_add (pe_op op_mul (pe_glob (v := .int 171) rfl T.c_FACTOR.2 ⟨_, rfl⟩) (pv 0)) (pe_glob (v := .int 37) rfl T.c_SHIFT.2 ⟨_, rfl⟩)) (pe_glob (v := .int 256) rfl T.c_NAMES.2 ⟨_, rfl⟩))))), ?_⟩
    obtain ⟨x, rfl, hx⟩ := h
    exact xq_drop (xx_call (vs := [x]) (by walk_at "ea") fun B _ b => ⟨x, rfl, hx.mono b⟩)
theorem okR_m__place_of (T : Top K mg) : FnOk P w K mg base (L2N.CX P w) 3 T.a_m__place_of T.fd_m__place_of ["self", "name"] (spRM T.a_Store T.a_BadName) := by
  refine okN T.F_m__place_of sc_m__place_of (fun vs H Q E h => ?_) (fun cdv A outer s H vs Q E hr h => ?_)
  · obtain ⟨p, x, rfl, _⟩ := h
    rfl
  · refine ⟨_, (pss_one (ps_ret (pe_op op_shr (pe_callS (okR_mixed T) (hr.mono (by decide)) rfl T.g_mixed T.F_mixed.kp T.b_mixed (fun σ => L2N.passAt (L2N.takes_of rfl rfl rfl rfl) σ) (pa_cons (pv 1) pa_nil)) (pe_op op_sub (pe_glob (v := .int 8) rfl T.c_SIGNS.2 ⟨_, rfl⟩) (pe_fld (pv 0) rfl))))), ?_⟩
    obtain ⟨p, x, rfl, _, hx⟩ := h
    exact xs_ret (xx_opL (xx_call (vs := [x]) (by walk_at "ea") fun B _ b => ⟨x, rfl, hx.mono b⟩))
theorem okR_m__bits_of (T : Top K mg) : FnOk P w K mg base (L2N.CX P w) 4 T.a_m__bits_of T.fd_m__bits_of ["self", "name"] (spRM T.a_Store T.a_BadName) := by
  refine okN T.F_m__bits_of sc_m__bits_of (fun vs H Q E h => ?_) (fun cdv A outer s H vs Q E hr h => ?_)
  · obtain ⟨p, x, rfl, _⟩ := h
    rfl
  · refine ⟨_, (pss_one (ps_ret (pe_ix (r := rIxL K) ix_list (pe_fld (pv 0) rfl) (pe_methP (pv 0) T.cl_Store T.M_m__place_of (okR_m__place_of T) (hr.mono (by decide)) T.b_m__place_of (fun σ => L2N.passAt (L2N.takes_of rfl rfl rfl rfl) σ) (pa_cons (pv 1) pa_nil)) (fun _ _ => rfl)))), ?_⟩
    obtain ⟨p, x, rfl, o, hx⟩ := h
    obtain ⟨dx, d, bd, b, D, o1⟩ := id o
    exact xs_ret (xx_opR (x := .ref bd) (ev_fld T.cl_Store T.d_Store.board (by walk_at "ev") o1 fl_board) (x_meth (by walk_at "ev") o hx (by walk_at "ea")))
theorem okR_m_put (T : Top K mg) : FnOk P w K mg base (L2N.CX P w) 8 T.a_m_put T.fd_m_put ["self", "name", "value"] (spRM3 T.a_Store T.a_BadName) := by
  refine okN T.F_m_put sc_m_put (fun vs H Q E h => ?_) (fun cdv A outer s H vs Q E hr h => ?_)
  · obtain ⟨p, x, y, rfl, _⟩ := h
    rfl
  · refine ⟨_, (pss_cons (ps_set (i := 3) sc_m_put.nd rfl (Or.inl rfl) (pe_methP (pv 0) T.cl_Store T.M_m__bits_of (okR_m__bits_of T) (hr.mono (by decide)) T.b_m__bits_of (fun σ => L2N.passAt (L2N.takes_of rfl rfl rfl rfl) σ) (pa_cons (pv 1) pa_nil)))
      (pss_cons (ps_set (i := 4) sc_m_put.nd rfl (Or.inl rfl) (by exact (pe_dget (hu_of hr) (pe_fld (pv 0) rfl) (pv 3) (fun _ _ => rfl))))
      (pss_cons (ps_set (i := 5) sc_m_put.nd rfl (Or.inl rfl) (pe_call (ok_value_in T) (hr.mono (by decide)) rfl T.g_value_in T.F_value_in.kp T.b_value_in .nil pass0 (pa_cons (pv 4) (pa_cons (pv 1) pa_nil))))
      (pss_cons (ps_dput (hu_of hr) (pe_fld (pv 0) rfl) (pv 3) (pe_call (ok_with_thing T) (hr.mono (by decide)) rfl T.g_with_thing T.F_with_thing.kp T.b_with_thing .nil pass0 (pa_cons (pv 4) (pa_cons (pv 1) (pa_cons (pv 2) pa_nil)))) rfl)
      (pss_cons (ps_expr (pe_meth (pv 0) T.cl_Store T.M_m__part_for (ok_m__part_for T) (hr.mono (by decide)) T.b_m__part_for .nil pass0 (pa_cons (pv 1) pa_nil)))
      (pss_one (ps_ret (pv 5)))))))), ?_⟩
    obtain ⟨p, x, y, rfl, o, hx⟩ := h
    exact xq_asg (x_meth (by walk_at "ev") o hx (by walk_at "ea"))
def spRInit : Addr → Addr → Sp := fun CS C vs H _ E => ∃ p dx x, vs = [.ref p, x] ∧ H p = some (.ins CS dx []) ∧ Ref BdOk C H x E
theorem okR_m___init__ (T : Top K mg) : FnOk P w K mg base (L2N.CX P w) 2 T.a_m___init__ T.fd_m___init__ ["self", "bound"] (spRInit T.a_Store T.a_BadBound) := by
  refine okN T.F_m___init__ sc_m___init__ (fun vs H Q E h => ?_) (fun cdv A outer s H vs Q E hr h => ?_)
  · obtain ⟨p, dx, x, rfl, _⟩ := h
    rfl
  · refine ⟨_, (pss_cons (ps_expr (pe_callS (okR_check_bound T) (hr.mono (by decide)) rfl T.g_check_bound T.F_check_bound.kp T.b_check_bound (fun σ => L2N.passAt (L2N.takes_of rfl rfl rfl rfl) σ) (pa_cons (pv 1) pa_nil)))
      (pss_cons (ps_fld (pv 0) (pv 1) rfl)
      (pss_cons (ps_fld (pv 0) (pe_disp (pps_cons pe_str (pe_lst pa_nil) pps_nil) (by rfl) (by rfl) (fun z => by cases z) (by decide)) rfl)
      (pss_cons (ps_fld (pv 0) (pe_lst (pa_cons pe_str pa_nil)) rfl)
      (pss_one (ps_fld (pv 0) pe_int rfl)))))), ?_⟩
    obtain ⟨p, dx, x, rfl, _, hx⟩ := h
    exact xq_drop (xx_call (vs := [x]) (by walk_at "ea") fun B _ b => ⟨x, rfl, hx.mono b⟩)
/-- one promise or the other, where the one raises nothing -/
theorem FnOk.or0 {k : Nat} {f : Addr} {fd : FuncData} {ps : List Str} {sp sp' : Sp} (F : FnOk P w K mg base CX0 k f fd ps sp) (G : FnOk P w K mg base (L2N.CX P w) k f fd ps sp') : FnOk P w K mg base (L2N.CX P w) k f fd ps (fun vs H Q E => sp vs H Q E ∨ sp' vs H Q E) :=
  ⟨fun vs H Q E h => h.elim (F.len vs H Q E) (G.len vs H Q E), fun A outer s H args us vs Q E hr e0 hb r h => h.elim (fun h => codeAny_mono (F.run A outer s H args us vs Q E hr e0 hb r h) fun r s' q => by
    cases r with
    | error e => exact q.elim
    | ok f => cases f <;> exact q) fun h => G.run A outer s H args us vs Q E hr e0 hb r h⟩
/-! ### any text read: a store, or refused -/
def spNumX (NS : Addr) : Sp := fun vs H Q E => ∃ a : List Nat, vs = [.str (SX.S a)] ∧ Asc a ∧ a.length ≤ 100000 ∧ (∀ (i : Int) (B : Hp), Ex H B → i.natAbs < 10 ^ 60 → Q (.int i) B) ∧ ∀ B, Ex H B → E (.ref NS) none B
theorem okX_number_in (T : Top K mg) : FnOk P w K mg base (L2N.CX P w) 1 T.a_number_in T.fd_number_in ["word"] (spNumX T.a_NoStore) := by
  refine okN T.F_number_in sc_number_in (fun vs H Q E h => ?_) (fun cdv A outer s H vs Q E hr h => ?_)
  · obtain ⟨a, rfl, _⟩ := h
    rfl
  · refine ⟨_, (pss_cons (ps_set (i := 1) sc_number_in.nd rfl (Or.inl rfl) (pe_bm PySem.F.plainAttrs_str PySem.F.slot_str_removeprefix PySem.F.type_str_removeprefix mt_removeprefix (pv 0) (pa_cons pe_str pa_nil)))
      (pss_cons (ps_if (PW.pt (pw_or (pt_not (pt_val (pe_bm0 PySem.F.plainAttrs_str PySem.F.slot_str_isdecimal PySem.F.type_str_isdecimal mt_isdecimal (pv 1)))) (pw_or1 (pt_cmpR op_gt (pe_callB call_len_str (by rfl) T.z_len (by decide +kernel) (pa_cons (pv 1) pa_nil)) (pe_glob (v := .int 60) rfl T.c_FIGURES.2 ⟨_, rfl⟩) (nomark _))))) (pss_one (L2N.ps_raise rfl (L2N.takes_of rfl rfl rfl rfl) (L2N.pmk_own PySem.F.excBase_ValueError T.x_NoStore T.g_NoStore T.kc_NoStore (raises_own T.bc_NoStore T.tc_NoStore) (by exact rfl)))) pss_nil)
      (pss_one (ps_ret (pe_callTy call_int_str (by rfl) T.z_int (by decide +kernel) (pa_cons (pv 0) pa_nil)))))), ?_⟩
    obtain ⟨a, rfl, ha, hl, k, ke⟩ := h
    obtain ⟨f, hf, hfl, hc⟩ := rmp_asc a [45]
    refine q_asg (v := .str (SX.S f)) (ev_rmp (K := K) (a := a) (b := [45]) (by walk_at "ev") (ev_litc (s := "-") rfl) hl hf) fun H1 e1 => ?_
    show tSeq _ _ _ [some (.str (SX.S a)), some (.str (SX.S f))] H1
    refine q_when (b := (!Txt.isdecimal (SX.S f)) || decide ((60 : Int) < (f.length : Int))) (et_or (et_not (et_B (ev_dec (by walk_at "ev") rfl))) fun _ => et_test (ev_op (ev_lenS (by walk_at "ev") (by omega)) ev_c rv_I0)) (fun _ B b => ke B (e1.trans b)) fun hb B b => ?_
    rw [Bool.or_eq_false_iff] at hb
    have hd : Txt.isdecimal (SX.S f) = true := by
      have := hb.1
      cases hz : Txt.isdecimal (SX.S f) with
      | true => rfl
      | false =>
        rw [hz] at this
        cases this
    have hl60 : f.length ≤ 60 := by
      have := of_decide_eq_false hb.2
      omega
    obtain ⟨h1, i, h2, h3⟩ := num_text ha hc hd hl60
    show tRet _ _ [some (.str (SX.S a)), some (.str (SX.S f))] B
    exact s_retk (v := .int i) (ev_intS (by walk_at "ev") (by omega) h2) fun B2 b2 => k i B2 ((e1.trans b).trans b2) h3
theorem eg_numX {NS : Addr} {σ : L2.St} {H : Hp} {E : L2.St → XK} {ta : TA} {a : List Nat} (h : EvA ta σ H [.str (SX.S a)]) (ha : Asc a) (hl : a.length ≤ 100000) (k : ∀ B, Ex H B → E σ (.ref NS) none B) : EvG (tCallS (spNumX NS) E ta) σ H (fun _ v _ => ∃ i : Int, v = .int i ∧ i.natAbs < 10 ^ 60) := fun A b Q q =>
  h A b _ fun B c => ⟨a, rfl, ha, hl, fun i C d hi => q _ C (c.trans d) ⟨i, rfl, hi⟩, fun C d => k C ((b.trans c).trans d)⟩
/-- a word; a word taken apart -/
def rpSt : Rp (List Nat) := ⟨fun _ _ v w => v = .str (SX.S w) ∧ Asc w ∧ w.length ≤ 90000, fun _ h => h, fun h _ => h, fun _ _ h => h⟩
def rpPt : Rp (List Nat) := ⟨fun _ H v _ => ∃ t x m y, v = .ref t ∧ H t = some (.tup [.str (SX.S x), .str m, .str (SX.S y)]) ∧ Asc x ∧ Asc y ∧ x.length ≤ 90000 ∧ y.length ≤ 90000, fun e ⟨t, x, m, y, h1, h2, h⟩ => ⟨t, x, m, y, h1, e.k h2, h⟩, fun h _ => h, fun _ hD ⟨t, x, m, y, h1, h2, h⟩ => ⟨t, x, m, y, h1, by rw [upd_ne (ne_of h2 hD (by intro z; cases z))]; exact h2, h⟩⟩
theorem pr_st {F : Addr → Prop} {H : Hp} : ∀ {ws : List (List Nat)}, (∀ w ∈ ws, Asc w ∧ w.length ≤ 90000) → PRF rpSt F H ((ws.map SX.S).map V.str) ws
  | [], _ => .nil
  | w :: ws, h => .cons ⟨rfl, h w List.mem_cons_self⟩ (pr_st fun x hx => h x (List.mem_cons_of_mem _ hx))
theorem ee_partX {σ : L2.St} {H : Hp} {to te : TE} {w : List Nat} {F : Addr → Prop} (hw : Asc w) (hl : w.length ≤ 90000) (ho : Ev to σ H (.str (SX.S w))) (ha : Ev te σ H (.str (SX.S [61]))) :
    EvE rpPt F (tM1 (fun x xs H Q => ∃ a b, x = .str a ∧ xs = [.str b] ∧ (b.length == 0) = false ∧ a.length ≤ sizeLine ∧ ∀ p, H p = none → Q (.ref p) (upd H p (.tup [.str (Txt.partition a b).1, .str (Txt.partition a b).2.1, .str (Txt.partition a b).2.2]))) to te) σ H w := fun A a' Q q =>
  ho A a' _ fun B b1 => ⟨⟨_, rfl⟩, ha B (a'.trans b1) _ fun C c => ⟨SX.S w, SX.S [61], rfl, rfl, rfl, by rw [SX.S_len]; exact sz_of (by omega), fun t ht => by
    obtain ⟨x, y, m, e, h1, h2, h3, h4⟩ := part_asc hw
    rw [e]
    exact q _ _ ((b1.trans c).trans (.new ht)) ⟨t, x, m, y, rfl, upd_same, h1, h2, by omega, by omega⟩⟩⟩
theorem spl_ok {a : List Nat} (b : List Nat) (h : Asc a) (hl : a.length ≤ 30000) : ∃ w ws, TL.spl b 0 [] a = w :: ws ∧ (∀ x ∈ w :: ws, Asc x ∧ x.length ≤ 30000) ∧ (w :: ws).length ≤ 30001 := by
  obtain ⟨h1, h2⟩ := spl_cnt b a 0 []
  rcases hs : TL.spl b 0 [] a with _ | ⟨w, ws⟩
  · rw [hs] at h1
    exact absurd h1 (Nat.lt_irrefl _)
  · rw [hs] at h2
    refine ⟨w, ws, rfl, fun x hx => ?_, by omega⟩
    rw [← hs] at hx
    refine ⟨fun c hc => ?_, ?_⟩
    · rcases spl_sub b a 0 [] x hx c hc with z | z
      · exact absurd z List.not_mem_nil
      · exact h c z
    · have := spl_len b a 0 [] x hx
      rw [List.length_nil] at this
      omega
def spThX (NS : Addr) : Sp := fun vs H Q E => ∃ a : List Nat, vs = [.str (SX.S a)] ∧ Asc a ∧ a.length ≤ 30000 ∧ (∀ (l : Addr) (ps : List (Int × Int)) (B : Hp), H l = none → Ex H B → LR rpT B l ps → VB ps → Q (.ref l) B) ∧ ∀ B, Ex H B → E (.ref NS) none B
set_option maxHeartbeats 1000000 in
theorem okX_things_in (T : Top K mg) : FnOk P w K mg base (L2N.CX P w) 2 T.a_things_in T.fd_things_in ["row"] (spThX T.a_NoStore) := by
  refine okN T.F_things_in sc_things_in (fun vs H Q E h => ?_) (fun cdv A outer s H vs Q E hr h => ?_)
  · obtain ⟨a, rfl, _⟩ := h
    rfl
  · refine ⟨_, (pss_cons (ps_set (i := 1) sc_things_in.nd rfl (Or.inl rfl) (pe_slice (r := rSlL K) sl_list (pe_split (pv 0) pe_str) (po_some pe_int) po_none))
      (pss_cons (ps_setLc (i := 2) (own := [("word", 3)]) (g := gName 3) (tt := tYes) rfl sc_things_in.nd rfl rfl (sw_true rfl rfl rfl (by decide +kernel)) (pi_list (pv 1)) (blkOk_by (N := n_things_in) (sc := defScope s_things_in) (by decide +kernel)) (fun _ _ _ _ _ => pg_name (i := 3) sc_things_in.nd rfl (Or.inl rfl)) (fun _ _ _ _ _ => by exact pts_nil) (fun _ _ _ _ _ => by exact (pe_partition (pv 3) pe_str)))
      (pss_one (ps_ret (pe_lcX (E := E) (own := [("name", 4), ("_", 5), ("value", 6)]) (tt := tYes) (g := gTup K 3 (gCons (gName 4) (gCons (gName 5) (gCons (gName 6) gNil)))) rfl rfl (L2N.takes_of rfl rfl rfl rfl) rfl sc_things_in.nd (pi_list (pv 2)) (blkOk_by (N := n_things_in) (sc := defScope s_things_in) (by decide +kernel)) (fun _ _ _ _ _ => by exact (pg_tup rfl (pgs_cons (pg_name (i := 4) sc_things_in.nd rfl (Or.inl rfl)) (pgs_cons (pg_name (i := 5) sc_things_in.nd rfl (Or.inl rfl)) (pgs_cons (pg_name (i := 6) sc_things_in.nd rfl (Or.inl rfl)) pgs_nil))))) (fun _ _ _ _ _ => by exact pts_nil) (fun _ _ _ _ _ => by exact (pe_tup (pa_cons (pe_callS (okX_number_in T) (hr.mono (by decide)) rfl T.g_number_in T.F_number_in.kp T.b_number_in (fun σ => passE σ) (pa_cons (pv 4) pa_nil)) (pa_cons (pe_callS (okX_number_in T) (hr.mono (by decide)) rfl T.g_number_in T.F_number_in.kp T.b_number_in (fun σ => passE σ) (pa_cons (pv 6) pa_nil)) pa_nil))))))))), ?_⟩
    obtain ⟨a, rfl, ha, hl, k, ke⟩ := h
    obtain ⟨w0, ws, hs, hw, hwl⟩ := spl_ok [32] ha hl
    have hsp : Txt.split (SX.S a) (SX.S [32]) = SX.S w0 :: ws.map SX.S := by
      rw [SX.split_S (by decide) (by decide), hs]
      rfl
    refine q_asgG (eg_tail (K := K) (eg_split (a := a) (b := [32]) (by walk_at "ev") (ev_litc (s := " ") rfl) rfl (by omega) (ys := w0 :: ws) hsp) fun B _ => eo_some (i := 1) ev_c) fun v B e ⟨q, ev, hq, hB⟩ => ?_
    subst ev
    have hwsl : ws.length ≤ 30001 := by rw [List.length_cons] at hwl; omega
    show tSeq _ _ _ [some (.str (SX.S a)), some (.ref q), none, none, none, none, none] B
    refine q_asgLR (r' := rpPt) (bs := (ws.filter fun _ => true).map fun p => p) (lcJ (K := K) (r := rpSt) (r' := rpPt) (fun _ _ σ' p => σ' = [some (.str (SX.S a)), some (.ref q), none, some (.str (SX.S p)), none, none, none]) (fun _ => true) (fun p => p) (by walk_at "ev") (sq_of hB) (pr_st fun x hx => ⟨(hw x (List.mem_cons_of_mem _ hx)).1, Nat.le_trans (hw x (List.mem_cons_of_mem _ hx)).2 (by decide)⟩) (by omega) ?_ ?_ ?_) ?_
    · rintro x p H1 F Q' e1 _ ⟨rfl, _⟩ k'
      exact k' _ rfl rfl
    · rintro σ' p H1 F e1 _ rfl
      exact fun H5 e5 Q' q' => q' H5 (.refl H5)
    · rintro σ' p H1 F e1 _ hm rfl _
      exact ee_partX (hw p (List.mem_cons_of_mem _ hm)).1 (Nat.le_trans (hw p (List.mem_cons_of_mem _ hm)).2 (by decide)) (by walk_at "ev") (ev_litc (s := "=") rfl)
    · intro q2 B2 hq2 e2 ⟨ys, hy, hpy⟩
      rw [List.filter_eq_self.mpr (fun _ _ => rfl), List.map_id'] at hpy
      show tRet _ _ [some (.str (SX.S a)), some (.ref q), some (.ref q2), none, none, none, none] B2
      have x2 := e.trans e2
      have hyl := hpy.length
      refine s_retG (lcX (K := K) (a := q2) (xs := ys) (P := fun p => p.2.natAbs < 10 ^ 60) (by walk_at "ev") (sq_of hy) (by omega) fun x H1 Q' e1 hx k' => ?_) fun v B3 b3 ⟨D, ps, ev, hD, hL, hpl, hP⟩ => ?_
      · obtain ⟨i, hi, hxi⟩ := List.getElem_of_mem hx
        obtain ⟨w, hw2, t, x1, m, y1, ex, ht, a1, a2, l1, l2⟩ := pr_get hpy (List.getElem?_eq_some_iff.mpr ⟨hi, hxi⟩)
        subst ex
        refine g_triple (e1.k ht) (k' _ rfl ?_)
        exact fun A3 a3 Q3 q3 => eg_numX (E := fun _ => E) (a := x1) (by walk_at "ea") a1 (by omega) (fun B b => ke B ((x2.trans e1).trans b)) A3 a3 _ fun v1 B1 b1 ⟨i1, ev1, hi1⟩ => eg_numX (E := fun _ => E) (a := y1) (by walk_at "ea") a2 (by omega) (fun B b => ke B ((x2.trans e1).trans b)) B1 (a3.trans b1) _ fun v2 B2 b2 ⟨i2, ev2, hi2⟩ => by
          subst ev1 ev2
          exact ⟨by show 2 ≤ sizeLine; decide, fun t2 ht2 => q3 _ _ ((b1.trans b2).trans (.new ht2)) ⟨(i1, i2), ⟨t2, rfl, upd_same⟩, hi2⟩⟩
      · subst ev
        exact k D ps B3 (fresh_back x2 hD) (x2.trans b3) hL hP
end


section
open SX
variable {P : Program} {w : World} {K : PySem.W.Frag} {mg : Str → Option Value} {base : Heap} [TabCx]
def spInitX (CS C : Addr) : Sp := fun vs H Q E => spInit CS vs H Q E ∨ spRInit CS C vs H Q E
theorem okX_m___init__ (T : Top K mg) : FnOk P w K mg base (L2N.CX P w) 2 T.a_m___init__ T.fd_m___init__ ["self", "bound"] (spInitX T.a_Store T.a_BadBound) := FnOk.or0 (ok_m___init__ T) (okR_m___init__ T)
def spPutX (CS C : Addr) : Sp := fun vs H Q E => spPut CS vs H Q E ∨ spRM3 CS C vs H Q E
theorem okX_m_put (T : Top K mg) : FnOk P w K mg base (L2N.CX P w) 8 T.a_m_put T.fd_m_put ["self", "name", "value"] (spPutX T.a_Store T.a_BadName) := FnOk.or0 (ok_m_put T) (okR_m_put T)
theorem SA.obj4 {C : Addr} {H : Hp} {p d bd : Addr} {kvs : List (Key × V)} {b : Nat} {R : List Code} {D : Nat} {ps : List (Int × Int)} (h : SA C H p d bd kvs b R D ps) : Obj4 C H p := by
  obtain ⟨dx, h1⟩ := h.ob
  exact ⟨dx, d, bd, b, D, h1⟩
theorem vb_ins {ps : List (Int × Int)} (h : VB ps) {n v : Int} (hv : v.natAbs < 10 ^ 60) : VB (insT ps n v) := by
  intro p hp
  unfold insT at hp
  rcases List.mem_append.mp hp with e | e
  · exact h p (List.mem_filter.mp e).1
  · rcases List.mem_cons.mp e with e | e
    · rw [e]
      exact hv
    · exact h p (List.mem_filter.mp e).1
/-- C(number): a store, or refused -/
theorem eg_makeX (T : Top K mg) {σ : L2.St} {H : Hp} {E : L2.St → XK} {te : TE} (h : EvG te σ H fun _ v _ => ∃ i : Int, v = .int i ∧ i.natAbs < 10 ^ 60) (k : ∀ B, Ex H B → E σ (.ref T.a_BadBound) none B) :
    EvG (tMakeP T.a_Store (spInitX T.a_Store T.a_BadBound) E (tCons te tNil)) σ H (fun A v B => ∃ (p d bd : Addr) (kvs : List (Key × V)) (b : Nat), v = .ref p ∧ A p = none ∧ A d = none ∧ (1 ≤ b ∧ b ≤ 64) ∧ SA T.a_Store B p d bd kvs b [(0, 0)] 0 []) := fun A a Q q =>
  h A a _ fun v B e ⟨i, ev, _⟩ => by
    subst ev
    refine fun y dy hy hdy hne => ?_
    have xB : Ex B (upd (upd B dy (.own y)) y (.ins T.a_Store dy [])) := (Ex.new hdy).trans (.new (by rw [upd_ne (Ne.symm hne)]; exact hy))
    by_cases hi : 1 ≤ i ∧ i ≤ 64
    · obtain ⟨b, rfl⟩ := Int.eq_ofNat_of_zero_le (show 0 ≤ i by omega)
      have hb : 1 ≤ b ∧ b ≤ 64 := by omega
      refine .inl ⟨y, dy, b, rfl, upd_same, hb, fun d bd kvs B3 hd x3 S3 => ⟨rfl, ?_⟩⟩
      have hx0 : A y = none := e.dom y hy
      have hd0 : A d = none := e.dom d (xB.dom d hd)
      exact q _ B3 (ex_fresh (e.trans xB) x3 hx0 hd0) ⟨y, d, bd, kvs, b, rfl, hx0, hd0, hb, S3⟩
    · exact .inr ⟨y, dy, .int i, rfl, upd_same, .int i hi, fun B2 b2 => k B2 ((a.trans (e.trans xB)).trans b2)⟩
theorem eg_thX {NS : Addr} {σ : L2.St} {H : Hp} {E : L2.St → XK} {ta : TA} {a : List Nat} (h : EvA ta σ H [.str (S a)]) (ha : Asc a) (hl : a.length ≤ 30000) (k : ∀ B, Ex H B → E σ (.ref NS) none B) : EvG (tCallS (spThX NS) E ta) σ H (fun A v B => ∃ l ps, v = .ref l ∧ A l = none ∧ LR rpT B l ps ∧ VB ps) := fun A b Q q =>
  h A b _ fun B c => ⟨a, rfl, ha, hl, fun l ps C hn d hL hv => q _ C (c.trans d) ⟨l, ps, rfl, c.dom l hn, hL, hv⟩, fun C d => k C ((b.trans c).trans d)⟩
theorem s_forG {tl : TE} {g : TG} {tu : TS} {D : Ends} {σ : L2.St} {H : Hp} (h : EvG tl σ H (fun A v B => ∃ l ps, v = .ref l ∧ A l = none ∧ LR rpT B l ps ∧ VB ps)) (W : Addr → List V → Nat → L2.St → Hp → Prop) (h0 : ∀ p xs ps B, Ex H B → B p = some (.lst xs) → PR rpT B xs ps → VB ps → W p xs 0 σ B) (hl : ∀ p xs i σ' B, i ≤ xs.length → W p xs i σ' B → SqL K B p xs)
    (hs : ∀ p xs i x σ' B, xs[i]? = some x → W p xs i σ' B → g x σ' B fun σ2 C => tu { D with nx := W p xs (i + 1), ct := W p xs (i + 1), bk := D.nx } σ2 C) (hd : ∀ p xs σ' B, W p xs xs.length σ' B → D.nx σ' B) : tFor (iList K tl) g tu D σ H :=
  h H (.refl H) _ fun v B e ⟨p, ps, ev, _, ⟨xs, hp, hpx⟩, hv⟩ => ⟨p, ev, ⟨xs, sq_of hp⟩, for_list (D := D) (W p xs) (h0 p xs ps B e hp hpx hv) (hl p xs) (hs p xs) (hd p xs)⟩
theorem g_methP {σ : L2.St} {H : Hp} {C dx p : Addr} {fs : List (Str × V)} {m : Str} {sp : Sp} {vs : List V} {E : L2.St → XK} {te : TE} {t : TA} {Q : VK} (h : Ev te σ H (.ref p)) (hp : H p = some (.ins C dx fs)) (hm : fs.lookup m = none) (ha : EvA t σ H vs) (hs : ∀ B, Ex H B → sp (.ref p :: vs) B Q (E σ)) : tMethP C m sp E te t σ H Q :=
  h H (.refl H) _ fun B b => ⟨p, dx, fs, rfl, b.k hp, hm, ha B b _ fun G g => hs G (b.trans g)⟩
/-- what is written of no store -/
def NotWr (a : List Nat) : Prop := ∀ (b : Nat) (R : List Code) (D : Nat) (ps : List (Int × Int)), Good b R D ps → 1 ≤ b ∧ b ≤ 64 → VB ps → S a ≠ wr b ps
def spReadX (NS : Addr) : Sp := fun vs H _ E => ∃ a : List Nat, vs = [.str (S a)] ∧ Asc a ∧ a.length ≤ 30000 ∧ NotWr a ∧ ∀ B, Ex H B → E (.ref NS) none B
set_option maxHeartbeats 1000000 in
theorem okX_read (T : Top K mg) : FnOk P w K mg base (CX2 P w) 9 T.a_read T.fd_read ["text"] (spReadX T.a_NoStore) := by
  refine ok2x T.F_read sc_read (fun vs H Q E h => ?_) (fun cdv A outer s H vs Q E hr h => ?_)
  · obtain ⟨a, rfl, _⟩ := h
    rfl
  · refine ⟨_, (pss_cons (ps_asg (pe_split (pv 0) pe_str) (pg_head (i := 1) (j := 2) rfl sc_read.nd rfl (Or.inl rfl) rfl (Or.inl rfl)))
      (pss_cons (ps_try_tup2 rfl rfl ⟨rfl, by decide, Or.inl T.g_BadBound⟩ ⟨rfl, by decide, Or.inl T.g_BadName⟩ (fun hd => L2H.passesAt_of rfl hd) (takes2_of rfl rfl rfl rfl)
        (tb := fun W => tSeq (tAsg (tMakeP T.a_Store (spInitX T.a_Store T.a_BadBound) (WE W) (tCons (tCallS (spNumX T.a_NoStore) (WE W) (tCons (tBM K "str" (fun x xs H Q => ∃ a b, x = .str a ∧ xs = [.str b] ∧ a.length ≤ sizeLine ∧ Q (.str (Txt.removeprefix a b)) H) (tVar 1) (tCons (tC (.str "bound ")) tNil)) tNil)) tNil)) (gName 3))
          (tFor (iList K (tVar 2)) (gName 4) (tFor (iList K (tCallS (spThX T.a_NoStore) (WE W) (tCons (tVar 4) tNil))) (gTup K 2 (gCons (gName 5) (gCons (gName 6) gNil))) (tDrop (tMethP T.a_Store "put" (spPutX T.a_Store T.a_BadName) (WE W) (tVar 3) (tCons (tVar 5) (tCons (tVar 6) tNil)))))))
        (ts := fun a cls d D σ H => E (.ref T.a_NoStore) none H)
        (fun W pn xe tk hp => pss_cons (ps_set (i := 3) sc_read.nd rfl (Or.inl rfl) (pe_makeP T.mk_Store (okX_m___init__ T) (hr.mono (by decide)) rfl T.g_Store T.b_m___init__ (fun σ => L2N.passAt tk σ) (pa_cons (pe_callS (okX_number_in T) (hr.mono (by decide)) rfl T.g_number_in T.F_number_in.kp T.b_number_in (fun σ => L2N.passAt tk σ) (pa_cons (pe_bm PySem.F.plainAttrs_str PySem.F.slot_str_removeprefix PySem.F.type_str_removeprefix mt_removeprefix (pv 1) (pa_cons (pe_glob (v := .str "bound ") rfl T.c_BOUND_WORD.2 ⟨_, rfl⟩) pa_nil)) pa_nil)) pa_nil)))
          (pss_one (ps_for hp rfl (pi_list (pv 2)) (pg_name (i := 4) sc_read.nd rfl (Or.inl rfl)) (pss_one (ps_for hp rfl (pi_list (pe_callS (okX_things_in T) (hr.mono (by decide)) rfl T.g_things_in T.F_things_in.kp T.b_things_in (fun σ => L2N.passAt tk σ) (pa_cons (pv 4) pa_nil))) (pg_tup rfl (pgs_cons (pg_name (i := 5) sc_read.nd rfl (Or.inl rfl)) (pgs_cons (pg_name (i := 6) sc_read.nd rfl (Or.inl rfl)) pgs_nil))) (pss_one (ps_expr (pe_methP (pv 3) T.cl_Store T.M_m_put (okX_m_put T) (hr.mono (by decide)) T.b_m_put (fun σ => L2N.passAt tk σ) (pa_cons (pv 5) (pa_cons (pv 6) pa_nil))))))))))
        (fun a oe cls d pn tkS hot => pss_one (ps_raiseHN2 hot tkS (pmk_own5 PySem.F.excBase_ValueError T.x_NoStore T.g_NoStore T.kc_NoStore (raises_own T.bc_NoStore T.tc_NoStore) (by exact rfl)))))
      (pss_cons (ps_if (pt_cmpR op_ne (pe_call (ok_written T) (hr.mono (by decide)) rfl T.g_written T.F_written.kp T.b_written .nil pass0 (pa_cons (pv 3) pa_nil)) (pv 0) (nomark _)) (pss_one (L2N.ps_raise rfl (takes2_n (takes2_of rfl rfl rfl rfl)) (L2N.pmk_own PySem.F.excBase_ValueError T.x_NoStore T.g_NoStore T.kc_NoStore (raises_own T.bc_NoStore T.tc_NoStore) (by exact rfl)))) pss_nil)
      (pss_one (ps_ret (pv 3)))))), ?_⟩
    obtain ⟨a, rfl, ha, hl, hn, ke⟩ := h
    obtain ⟨w0, ws, hs, hw, hwl⟩ := spl_ok [10] ha hl
    have hsp : Txt.split (S a) (S [10]) = S w0 :: ws.map S := by
      rw [split_S (by decide) (by decide), hs]
      rfl
    have hwsl : ws.length ≤ 30001 := by rw [List.length_cons] at hwl; omega
    have hw0 := hw w0 List.mem_cons_self
    have hws := fun x hx => hw x (List.mem_cons_of_mem _ hx)
    show tSeq _ _ _ [some (.str (S a)), none, none, none, none, none, none] H
    refine q_asgGT (eg_split (a := a) (b := [10]) (by walk_at "ev") (ev_litc (s := "\n") rfl) rfl (by omega) (ys := w0 :: ws) hsp) fun v H1 e1 ⟨p1, ev1, hp1, hl1⟩ => ?_
    refine ⟨p1, .str (S w0), _, ev1, sq_of hl1, by rw [List.length_map, List.length_map]; omega, fun Dr hDr => ?_⟩
    have x1 : Ex H (upd H1 Dr (.lst ((ws.map S).map V.str))) := e1.trans (.new hDr)
    generalize hH2 : upd H1 Dr (.lst ((ws.map S).map V.str)) = H2 at x1
    have hrows : H2 Dr = some (.lst ((ws.map S).map V.str)) := by rw [← hH2]; exact upd_same
    have wNS : ∀ {D : Ends} {σ : L2.St} {B : Hp}, Ex H B → WE (wTup K (.ref T.a_BadBound) (.ref T.a_BadName) (fun _ _ _ _ _ H => E (.ref T.a_NoStore) none H) (fun cls d _ H => E cls d H) D) σ (.ref T.a_NoStore) none B := fun b => ⟨false, T.m_NoStore, (fun h => nomatch h), fun _ => ke _ b⟩
    have wBB : ∀ {D : Ends} {σ : L2.St} {B : Hp}, Ex H B → WE (wTup K (.ref T.a_BadBound) (.ref T.a_BadName) (fun _ _ _ _ _ H => E (.ref T.a_NoStore) none H) (fun cls d _ H => E cls d H) D) σ (.ref T.a_BadBound) none B := fun b => ⟨true, T.m_BadBound, fun _ _ _ => ke _ b, fun h => nomatch h⟩
    have wBN : ∀ {D : Ends} {σ : L2.St} {B : Hp}, Ex H B → WE (wTup K (.ref T.a_BadBound) (.ref T.a_BadName) (fun _ _ _ _ _ H => E (.ref T.a_NoStore) none H) (fun cls d _ H => E cls d H) D) σ (.ref T.a_BadName) none B := fun b => ⟨true, T.m_BadName, fun _ _ _ => ke _ b, fun h => nomatch h⟩
    show tSeq _ _ _ [some (.str (S a)), some (.str (S w0)), some (.ref Dr), none, none, none, none] H2
    obtain ⟨f0, hf0, hfl0, hfc0⟩ := rmp_asc w0 [98, 111, 117, 110, 100, 32]
    have hf0a : Asc f0 := by
      rcases hfc0 with z | ⟨z, _⟩
      · exact fun c hc => hw0.1 c (by rw [z]; exact List.mem_append_right _ hc)
      · rw [z]
        exact hw0.1
    refine q_seq (q_asgG (eg_makeX T (eg_numX (a := f0) (ea_cons (ev_rmp (K := K) (a := w0) (b := [98, 111, 117, 110, 100, 32]) (by walk_at "ev") (ev_litc (s := "bound ") rfl) (by omega) hf0) ea_nil) hf0a (by omega) fun B b => wNS (x1.trans b)) fun B b => wBB (x1.trans b)) fun v H3 e3 ⟨x, d, bd, kvs, b, ev, hx2, hd2, hb, S3⟩ => ?_)
    subst ev
    have hrows3 := e3.k hrows
    generalize hus : (ws.map S).map V.str = us at hrows hrows3
    have husi : ∀ (i : Nat) (y : V), us[i]? = some y → ∃ r ∈ ws, y = .str (S r) := by
      intro i y hy
      rw [← hus, List.getElem?_map, List.getElem?_map] at hy
      rcases hr : ws[i]? with _ | r
      · rw [hr] at hy
        cases hy
      · rw [hr] at hy
        exact ⟨r, List.mem_of_getElem? hr, (Option.some.inj hy).symm⟩
    show tFor _ _ _ _ [some (.str (S a)), some (.str (S w0)), some (.ref Dr), some (.ref x), none, none, none] H3
    refine s_forL (K := K) (a := Dr) (xs := us) (by walk_at "ev") (sq_of hrows3) (fun i σ' B => ∃ (bd : Addr) (kvs : List (Key × V)) (R' : List Code) (D' : Nat) (ps : List (Int × Int)) (u4 u5 u6 : Option V), Ex H2 B ∧ SA T.a_Store B x d bd kvs b R' D' ps ∧ Good b R' D' ps ∧ VB ps ∧ σ' = [some (.str (S a)), some (.str (S w0)), some (.ref Dr), some (.ref x), u4, u5, u6]) ?_ ?_ ?_ ?_
    · intro B e
      exact ⟨bd, kvs, [(0, 0)], 0, [], none, none, none, e3.trans e, S3.mono e, good_nil, by simp, rfl⟩
    · rintro i σ' B hi ⟨_, _, _, _, _, _, _, _, e, _⟩
      exact sq_of (e.k hrows)
    · rintro i y σ' B hi ⟨bd1, kvs1, R1, D1, ps1, u4, u5, u6, e, S1, G1, V1, rfl⟩
      obtain ⟨r, hr, rfl⟩ := husi i y hi
      show tFor _ _ _ _ [some (.str (S a)), some (.str (S w0)), some (.ref Dr), some (.ref x), some (.str (S r)), u5, u6] B
      refine s_forG (K := K) (eg_thX (a := r) (by walk_at "ea") (hws r hr).1 (hws r hr).2 fun B2 b2 => wNS (x1.trans (e.trans b2))) (fun p xs j σ' B => ∃ (bd : Addr) (kvs : List (Key × V)) (R' : List Code) (D' : Nat) (ps qs : List (Int × Int)) (u5 u6 : Option V), Ex H2 B ∧ SA T.a_Store B x d bd kvs b R' D' ps ∧ Good b R' D' ps ∧ VB ps ∧ B p = some (.lst xs) ∧ PR rpT B xs qs ∧ VB qs ∧ σ' = [some (.str (S a)), some (.str (S w0)), some (.ref Dr), some (.ref x), some (.str (S r)), u5, u6]) ?_ ?_ ?_ ?_
      · intro p xs qs C c hp hpx hq
        exact ⟨bd1, kvs1, R1, D1, ps1, qs, u5, u6, e.trans c, S1.mono c, G1, V1, hp, hpx, hq, rfl⟩
      · rintro p xs j σ' C hj ⟨_, _, _, _, _, _, _, _, _, _, _, _, hp, _⟩
        exact sq_of hp
      · rintro p xs j y σ' C hj ⟨bd2, kvs2, R2, D2, ps2, qs, v5, v6, c, S2, G2, V2, hp, hpx, hq, rfl⟩
        obtain ⟨q, hqj, ⟨t, rfl, ht⟩⟩ := pr_get hpx hj
        refine g_pair ht ?_
        have hqm : q ∈ qs := List.mem_of_getElem? hqj
        show tDrop _ _ [some (.str (S a)), some (.str (S w0)), some (.ref Dr), some (.ref x), some (.str (S r)), some (.int q.1), some (.int q.2)] C
        obtain ⟨dx, ho⟩ := S2.ob
        refine s_dropC (g_methP (p := x) (vs := [.int q.1, .int q.2]) (by walk_at "ev") ho (fl_none (by decide +kernel) (by decide +kernel) (by decide +kernel) (by decide +kernel)) (by walk_at "ea") fun B4 e4 => ?_)
        by_cases hqn : 0 ≤ q.1 ∧ q.1 < 256
        · refine .inl ⟨x, d, bd2, kvs2, b, R2, D2, ps2, q.1, q.2, rfl, S2.mono e4, G2, hb.1, hqn, fun bd' kvs' R' D' B5 x5 S5 G5 => ?_⟩
          exact ⟨bd', kvs', R', D', _, qs, _, _, ex_fresh (c.trans e4) x5 hx2 hd2, S5, G5, vb_ins V2 (hq q hqm), ((S2.mono e4).w x5).keep p _ (e4.k hp) trivial, pr_monoW ((S2.mono e4).w x5) (pr_mono e4 hpx), hq, rfl⟩
        · exact .inr ⟨x, .int q.1, .int q.2, rfl, (S2.mono e4).obj4, .int q.1 hqn, fun B5 b5 => wBN (x1.trans ((c.trans e4).trans b5))⟩
      · rintro p xs σ' C ⟨bd2, kvs2, R2, D2, ps2, qs, v5, v6, c, S2, G2, V2, hp, hpx, hq, rfl⟩
        exact ⟨bd2, kvs2, R2, D2, ps2, _, v5, v6, c, S2, G2, V2, rfl⟩
    · rintro σ' B ⟨bd1, kvs1, R1, D1, ps1, u4, u5, u6, e, S1, G1, V1, rfl⟩
      dsimp only
      have hne := hn b R1 D1 ps1 G1 hb V1
      refine q_when (b := !decide (V.str (wr b ps1) = V.str (S a))) (et_test (ev_op (ev_call (vs := [.ref x]) (by walk_at "ea") (spv_written S1 G1 hb V1)) (by walk_at "ev") (rv_ne rfl))) (fun _ B6 e6 => ?_) fun hb' _ _ => ?_
      · exact ke _ (x1.trans (e.trans e6))
      · rw [decide_eq_false (fun z => hne (V.str.inj z).symm)] at hb'
        cases hb'
end


section
variable {P : Program} {w : World} {K : PySem.W.Frag} {mg : Str → Option Value} {base : Heap} [TabCx]
def rpB : Rp Bool := ⟨fun _ _ v b => v = .bl b, fun _ h => h, fun h _ => h, fun _ _ h => h⟩
def encB : Enc rpB (fun _ => True) := ⟨PyData.bool, fun h => by rw [show _ = V.bl _ from h]; exact .bl _, fun _ => rfl, 0, fun _ => by simp [PyData.depth]⟩
def Zx (C : Addr) (p : Addr × Obj) : Prop := Zc (.ref C) none p.2
def spAlone (j : Nat) (a : Addr) : Sp := fun vs H Q _ => vs = [.ref a, .int (j : Int)] ∧ RetV (.bl true) H Q
theorem four_bools : ∀ j : Nat, j < 4 → PyData.eqv (.list [.bool (decide (j = 0)), .bool (decide (j = 1)), .bool (decide (j = 2)), .bool (decide (j = 3))]) (.list (((List.range 4).map fun i => decide (V.int ((i : Nat) : Int) = V.int (j : Int))).map PyData.bool)) = true := by
  intro j hj
  have e : ∀ i : Nat, decide (V.int ((i : Nat) : Int) = V.int (j : Int)) = decide (j = i) := fun i => by rw [decide_int]; exact decide_eq_decide.mpr (by omega)
  simp only [e]
  rcases (by omega : j = 0 ∨ j = 1 ∨ j = 2 ∨ j = 3) with rfl | rfl | rfl | rfl <;> decide +kernel
set_option maxHeartbeats 1000000 in
theorem ok_l_alone (T : Top K mg) {C : Addr} {j : Nat} (hj : j < 4) (hX : ExcC K C) (h0 : PySem.W.kitOne K (.ref C) (.ref T.a_BadName) = some (decide (j = 0))) (h1 : PySem.W.kitOne K (.ref C) (.ref T.a_BadBound) = some (decide (j = 1))) (h2 : PySem.W.kitOne K (.ref C) (.ref T.a_NoThing) = some (decide (j = 2))) (h3 : PySem.W.kitOne K (.ref C) (.ref T.a_NoStore) = some (decide (j = 3))) (hv : PySem.W.kitOne K (.ref C) (.type "ValueError") = some true) :
    FnH2 P w K mg base CX0 1 T.a_l_alone T.fd_l_alone ["_law_e", "_law_which"] (Zx C) (spAlone j) := by
  obtain ⟨oc, od, kV, doc, pm, an, cdv, ct, osl, hfd, lk, hcd⟩ := T.F_l_alone.ex
  have hfd' : T.fd_l_alone = _ := hfd
  rw [hfd']
  rw [hfd] at lk
  refine fn_ofH2 lk hcd sc_l_alone (fun a vs H Q E h => ?_) fun A outer s H vs Q E p pl hp hot hz hr h => ?_
  · obtain ⟨rfl, _⟩ := h
    rfl
  · obtain ⟨rfl, k⟩ := h
    obtain ⟨hh, vsx, hdx, hvx⟩ := id hot
    have isE := call_isL (X := (cxL CX0 P w K mg base n_l_alone "_law_alone" (defScope s_l_alone) T.a_l_alone cdv A outer s H E pl).nox) (p := p) (D := C) hp hX hz ⟨vsx, hdx⟩
    have hotc : Hot2C (cxL CX0 P w K mg base n_l_alone "_law_alone" (defScope s_l_alone) T.a_l_alone cdv A outer s H E pl).nox := ⟨p, hp, hot⟩
    refine ⟨_, PSs.nox (pss_cons (ps_set (i := 2) sc_l_alone.nd rfl (Or.inl rfl) (pe_lst (pa_cons (pe_callB isE (by rfl) T.z_isinstance (by decide +kernel) (pa_cons (pv 0) (pa_cons (pe_glob (v := .ref T.a_BadName) rfl T.g_BadName rfl) pa_nil))) (pa_cons (pe_callB isE (by rfl) T.z_isinstance (by decide +kernel) (pa_cons (pv 0) (pa_cons (pe_glob (v := .ref T.a_BadBound) rfl T.g_BadBound rfl) pa_nil))) (pa_cons (pe_callB isE (by rfl) T.z_isinstance (by decide +kernel) (pa_cons (pv 0) (pa_cons (pe_glob (v := .ref T.a_NoThing) rfl T.g_NoThing rfl) pa_nil))) (pa_cons (pe_callB isE (by rfl) T.z_isinstance (by decide +kernel) (pa_cons (pv 0) (pa_cons (pe_glob (v := .ref T.a_NoStore) rfl T.g_NoStore rfl) pa_nil))) pa_nil))))))
      (pss_one (ps_ret (pe_and (pe_callB isE (by rfl) T.z_isinstance (by decide +kernel) (pa_cons (pv 0) (pa_cons (pe_bltn (v := .ty "ValueError") (by rfl) T.z_ValueError (by decide +kernel) rfl) pa_nil))) (pe_one (pe_cmpR (r := rEqD K) (op_eqD (by have z := hr.un; show (A.deeper (PyProof.Rows.envOfC "_law_alone" (defScope s_l_alone) s.heap.objs.size T.a_l_alone cdv)).units + 64 < cLine; omega)) (pv 2) (pe_lcR (own := [("_law_k", 3)]) (g := gName 3) (tt := tYes) hotc sc_l_alone.nd (pi_range1R (by rfl) T.z_range (pa_cons pe_int pa_nil)) (blkOk_by (N := n_l_alone) (sc := defScope s_l_alone) (by decide +kernel)) (fun _ _ _ _ _ => pg_name (i := 3) sc_l_alone.nd rfl (Or.inl rfl)) (fun _ _ _ _ _ => pts_nil) (fun _ _ _ _ _ => (pe_cmpR op_eq (pv 3) (pv 1) (nomark _)))) (nomark _))))))), ?_⟩
    have is1 : ∀ (c : V) (cv : Value) (b : Bool) (H : Hp), (∀ u, RelV c u → u = cv) → PySem.W.kitOne K (.ref C) cv = some b → RC (rIsE K C p.1) [.ref p.1, c] H (.bl b) := fun c cv b H h1 h2 A _ Q q => ⟨c, cv, b, rfl, h1, h2, q A (.refl A)⟩
    refine q_asgG (eg_lst (vs := [.bl (decide (j = 0)), .bl (decide (j = 1)), .bl (decide (j = 2)), .bl (decide (j = 3))]) (ea_cons (ev_cb (by walk_at "ea") (is1 (.ref T.a_BadName) (.ref T.a_BadName) _ _ (fun _ h => h) h0)) (ea_cons (ev_cb (by walk_at "ea") (is1 (.ref T.a_BadBound) (.ref T.a_BadBound) _ _ (fun _ h => h) h1)) (ea_cons (ev_cb (by walk_at "ea") (is1 (.ref T.a_NoThing) (.ref T.a_NoThing) _ _ (fun _ h => h) h2)) (ea_cons (ev_cb (by walk_at "ea") (is1 (.ref T.a_NoStore) (.ref T.a_NoStore) _ _ (fun _ h => h) h3)) ea_nil)))) (by show 4 ≤ 100000; decide)) ?_
    rintro v B e ⟨pk, rfl, _, hpk⟩
    show tRet _ _ [some (.ref p.1), some (.int (j : Int)), some (.ref pk), none] B
    refine s_retk (v := .bl true) (ev_is (ev_andV (a := true) (b := true) (ev_cb (by walk_at "ea") (is1 (.ty "ValueError") (.type "ValueError") _ _ (fun _ h => h) hv)) fun _ => ?_) rfl) (k.mono e)
    have hL : EvLR rpB (tLc (iRng1 (tCons (tC (.int 4)) tNil)) (gName 3) tYes (tOp rEq (tVar 3) (tVar 1)) [3]) [some (.ref p.1), some (.int (j : Int)), some (.ref pk), none] B (((List.range 4).filter fun _ => true).map fun i => decide (V.int ((i : Nat) : Int) = V.int (j : Int))) := by
      refine lcRR (r' := rpB) (n := 4) (fun _ => true) (fun i => decide (V.int ((i : Nat) : Int) = V.int (j : Int))) (show EvA _ _ _ [.int 4] by walk_at "ea") (by decide) (fun _ => rfl) ?_ ?_
      · intro i H4 e4 hi
        exact fun H5 e5 Q' q' => q' H5 (.refl H5)
      · intro i H4 F e4 _ hi _
        exact ee_var (v := .bl (decide (V.int ((i : Nat) : Int) = V.int (j : Int)))) (by walk_at "ev") rfl
    rw [List.filter_eq_self.mpr (fun _ _ => rfl)] at hL
    refine ev_opR (ev_var rfl) hL ?_
    rintro A' w' B' a' b' ⟨q, rfl, _, ys, h1, h2⟩ C c Q' k'
    have e0 := four_bools j hj
    refine ⟨.list [.bool (decide (j = 0)), .bool (decide (j = 1)), .bool (decide (j = 2)), .bool (decide (j = 3))], .list (((List.range 4).map fun i => decide (V.int ((i : Nat) : Int) = V.int (j : Int))).map PyData.bool), .lst (sq_of (((a'.trans b').trans c).k hpk)) (.cons (.bl _) (.cons (.bl _) (.cons (.bl _) (.cons (.bl _) .nil)))), .lst (sq_of (c.k h1)) (dp_all encB (pr_mono c h2)), shaped_l encB (show (0 : Nat) ≤ 60 by decide) (as := [decide (j = 0), decide (j = 1), decide (j = 2), decide (j = 3)]) (fun _ _ => trivial), shaped_l encB (show (0 : Nat) ≤ 60 by decide) (fun _ _ => trivial), ?_⟩
    rw [e0]
    exact k' C (.refl C)
end
/-! ### what takes a refusal -/
section
variable {P : Program} {w : World} {K : PySem.W.Frag} {mg : Str → Option Value} {base : Heap} [TabCx]
theorem ev_alone {σ : L2.St} {H : Hp} {a : Addr} {j : Nat} {E : L2.St → XK} {ta : TA} (h : EvA ta σ H [.ref a, .int (j : Int)]) : Ev (tCallS (spAlone j a) E ta) σ H (.bl true) := fun A a Q q => h A a _ fun B b => ⟨rfl, fun C c => q C (b.trans c)⟩
theorem rc_intB1 {H : Hp} {b : Bool} : RC (fun vs H Q => (∃ i, vs = [V.int i] ∧ Q (.int i) H) ∨ ∃ k, vs = [V.bl k] ∧ Q (.int (if k then 1 else 0)) H) [.bl b] H (.int (if b then 1 else 0)) := fun A _ Q q => .inr ⟨b, rfl, q A (.refl A)⟩
abbrev tIntAlone (j : Nat) (i : Nat) (a : Addr) : TE := tCB (fun vs H Q => (∃ i, vs = [V.int i] ∧ Q (.int i) H) ∨ ∃ k, vs = [V.bl k] ∧ Q (.int (if k then 1 else 0)) H) (tCons (tCallS (spAlone j a) (fun _ _ _ _ => False) (tCons (tVar i) (tCons (tC (.int (j : Int))) tNil))) tNil)
theorem takes2N0 {X : Cx} : Takes2 X (fun _ _ _ _ => False) := fun _ _ ⟨_, _, _, _, _, _, _, _, _, _, _, _, _, _, _, _, w⟩ => w.elim
def spRefusedT : Sp := fun vs H Q _ => ∃ a : List Nat, vs = [.str (SX.S a)] ∧ Asc a ∧ a.length ≤ 30000 ∧ NotWr a ∧ RetV (.bl true) H Q
set_option maxHeartbeats 1000000 in
theorem ok_l_refused (T : Top K mg) : FnOk P w K mg base CX0 10 T.a_l_refused T.fd_l_refused ["_law_text_here"] spRefusedT := by
  refine T.F_l_refused.ok sc_l_refused (fun vs H Q E h => ?_) (fun cdv A outer s H vs Q E hr h => ?_)
  · obtain ⟨a, rfl, _⟩ := h
    rfl
  · obtain ⟨a, rfl, ha, hl, hn, k⟩ := h
    refine ⟨_, (pss_cons (ps_set (i := 1) sc_l_refused.nd rfl (Or.inl rfl) pe_int)
      (pss_cons (ps_try_one2 rfl rfl ⟨rfl, by decide, Or.inl T.g_NoStore⟩ takes2N0 (tb := fun W => tDrop (tCallS (spReadX T.a_NoStore) (WE W) (tCons (tVar 0) tNil))) (ts := fun _ _ _ => tAsg (tOp (rI0 fun i j => V.int (i + j)) (tVar 1) (tC (.int 1))) (gName 1))
          (fun W pn xe tk _ => pss_one (ps_expr (pe_callS (okX_read T) (hr.mono (by decide)) rfl T.g_read T.F_read.kp T.b_read (fun σ => passAt2 tk σ) (pa_cons (pv 0) pa_nil))))
          (fun a oe cls d pn _ _ => pss_one (ps_set (i := 1) sc_l_refused.nd rfl (Or.inl rfl) (pe_op op_add (pv 1) pe_int))))
      (pss_cons (ps_try_as2 (i := 2) (tb := fun W => tDrop (tCallS (spReadX T.a_NoStore) (WE W) (tCons (tVar 0) tNil))) (ts := fun a cls d D σ H => (cls = .ref T.a_NoStore ∧ d = none) ∧ tAsg (tOp (rI0 fun i j => V.int (i + j)) (tVar 1) (tIntAlone 3 2 a)) (gName 1) D σ H) (Wout := fun _ _ _ _ => False) rfl rfl sc_l_refused.nd rfl rfl ⟨rfl, by decide, Or.inl T.g_RoomError⟩ takes2N0
          (fun W pn xe tk _ => pss_one (ps_expr (pe_callS (okX_read T) (hr.mono (by decide)) rfl T.g_read T.F_read.kp T.b_read (fun σ => passAt2 tk σ) (pa_cons (pv 0) pa_nil))))
          (fun a oe cls d pn hmem hot hz hf => pss_if fun hcd => pss_one (ps_set (i := 1) sc_l_refused.nd rfl (Or.inl rfl) (pe_op op_add (pv 1) (pe_callTy call_int1 (by rfl) T.z_int (by decide +kernel) (pa_cons (pe_callH2 (p := (a, oe)) (CX := CX0) (E := fun _ _ _ _ => False) (ok_l_alone T (j := 3) (by decide) T.X_NoStore T.k_NoStore_BadName T.k_NoStore_BadBound T.k_NoStore_NoThing T.k_NoStore_NoStore T.k_NoStore_ValueError) ⟨(L2H.roomH_of (hr.mono (by decide : 1 ≤ 9))).dp, (L2H.roomH_of (hr.mono (by decide : 1 ≤ 9))).un⟩ hot hmem (show Zc (.ref T.a_NoStore) none oe from ⟨hcd.1 ▸ hz.1, hcd.2 ▸ hz.2⟩) rfl T.g_l_alone T.F_l_alone.kp T.b_l_alone (fun _ _ _ _ _ _ _ h => h) (pa_cons (pv 2) (pa_cons pe_int pa_nil))) pa_nil))))))
      (pss_one (ps_ret (pe_cmpR op_eq (pv 1) pe_int (nomark _))))))), ?_⟩
    refine q_asg (v := .int 0) (by walk_at "ev") ?_
    intro H1 e1
    refine st_nf (t := tSeq _ _) (σ' := [some (.str (SX.S a)), some (.int 0), none]) rfl ?_
    show tDrop (tCallS (spReadX T.a_NoStore) (WE (wOnly K _ _ _ _)) (tCons (tVar 0) tNil)) _ [some (.str (SX.S a)), some (.int 0), none] H1
    refine xs_drop (xx_call (vs := [.str (SX.S a)]) (by walk_at "ea") fun A _ b => ⟨a, rfl, ha, hl, hn, fun B b2 => ?_⟩)
    refine ⟨true, T.e_NoStore_NoStore, fun _ a1 ha1 => ?_, fun h => nomatch h⟩
    show tAsg (tOp (rI0 fun i j => V.int (i + j)) (tVar 1) (tC (.int 1))) (gName 1) _ [some (.str (SX.S a)), some (.int 0), none] B
    refine s_asg (v := .int 1) (ev_op (x := .int 0) (y := .int 1) (ev_var rfl) ev_c rv_I0) ?_
    intro H3 e3
    have E3 := ((e1.trans b).trans b2).trans e3
    refine st_nf (t := tSeq _ _) (σ' := [some (.str (SX.S a)), some (.int 1), none]) rfl ?_
    show tDrop (tCallS (spReadX T.a_NoStore) (WE (wAs K _ _ _ _ _)) (tCons (tVar 0) tNil)) _ [some (.str (SX.S a)), some (.int 1), none] H3
    refine xs_drop (xx_call (vs := [.str (SX.S a)]) (by walk_at "ea") fun A4 _ a4 => ⟨a, rfl, ha, hl, hn, fun B4 b4 => ?_⟩)
    refine ⟨true, T.e_NoStore_RoomError, fun _ a2 ha2 => ⟨⟨rfl, rfl⟩, ?_⟩, fun h => nomatch h⟩
    refine st_nf (t := tAsg _ _) (σ' := [some (.str (SX.S a)), some (.int 1), some (.ref a2)]) rfl ?_
    refine s_asg (v := .int 2) (ev_op (x := .int 1) (y := .int 1) (ev_var rfl) (ev_is (ev_cb (ea_cons (ev_alone (j := 3) (ea_cons (ev_var rfl) (ea_cons ev_c ea_nil))) ea_nil) rc_intB1) rfl) rv_I0) ?_
    intro H5 e5
    dsimp only
    refine st_nf (t := tRet _) (σ' := [some (.str (SX.S a)), some (.int 2), none]) rfl ?_
    refine s_retk (v := .bl true) (ev_is (ev_op (by walk_at "ev") (by walk_at "ev") (rv_eq rfl)) (by decide +kernel)) ?_
    exact k.mono (((E3.trans a4).trans b4).trans e5)
end


theorem half_mod (m q : Nat) : m % (2 * q) = m % q + q * (m / q % 2) := by rw [Nat.mul_comm 2 q, Nat.mod_mul]
abbrev worths8 : List V := [.int 128, .int 64, .int 32, .int 16, .int 8, .int 4, .int 2, .int 1]
theorem worth_at8 {i : Nat} {x : V} (h : worths8[i]? = some x) : i < 8 ∧ x = .int ((2 ^ (7 - i) : Nat) : Int) := by
  match i, h with
  | 0, h => exact ⟨by decide, (Option.some.inj h).symm⟩
  | 1, h => exact ⟨by decide, (Option.some.inj h).symm⟩
  | 2, h => exact ⟨by decide, (Option.some.inj h).symm⟩
  | 3, h => exact ⟨by decide, (Option.some.inj h).symm⟩
  | 4, h => exact ⟨by decide, (Option.some.inj h).symm⟩
  | 5, h => exact ⟨by decide, (Option.some.inj h).symm⟩
  | 6, h => exact ⟨by decide, (Option.some.inj h).symm⟩
  | 7, h => exact ⟨by decide, (Option.some.inj h).symm⟩
  | i + 8, h => exact absurd h (by simp [worths8])
section
open SX
variable {P : Program} {w : World} {K : PySem.W.Frag} {mg : Str → Option Value} {base : Heap} [TabCx]
def spSgL : Sp := fun vs H Q _ => ∃ n : Int, vs = [.int n] ∧ 0 ≤ n ∧ n < 256 ∧ RetV (.str (sig n)) H Q
theorem spv_sgL {n : Int} {H : Hp} (h0 : 0 ≤ n) (h1 : n < 256) : SpV spSgL [.int n] H (.str (sig n)) := fun A e Q q E => ⟨n, rfl, h0, h1, q⟩
theorem ok_l_signs (T : Top K mg) : FnOk P w K mg base CX0 1 T.a_l_signs T.fd_l_signs ["_law_name"] spSgL := by
  refine T.F_l_signs.ok sc_l_signs (fun vs H Q E h => ?_) (fun cdv A outer s H vs Q E hr h => ?_)
  · obtain ⟨n, rfl, _⟩ := h
    rfl
  · obtain ⟨n, rfl, h0, h1, k⟩ := h
    refine ⟨_, (pss_cons (ps_set (i := 1) sc_l_signs.nd rfl (Or.inl rfl) (pe_op op_mod (pe_op op_add (pe_op op_mul pe_int (pv 0)) pe_int) pe_int))
      (pss_cons (ps_set (i := 2) sc_l_signs.nd rfl (Or.inl rfl) pe_str)
      (pss_cons (ps_for PassesOwn.never rfl (pi_list (pe_lst (pa_cons pe_int (pa_cons pe_int (pa_cons pe_int (pa_cons pe_int (pa_cons pe_int (pa_cons pe_int (pa_cons pe_int (pa_cons pe_int pa_nil)))))))))) (pg_name (i := 3) sc_l_signs.nd rfl (Or.inl rfl)) (pss_cons (ps_set (i := 2) sc_l_signs.nd rfl (Or.inl rfl) (pe_op op_add_str (pv 2) (pe_callTy call_str_int (by rfl) T.z_str (by decide +kernel) (pa_cons (pe_callTy call_int1 (by rfl) T.z_int (by decide +kernel) (pa_cons (pe_cmpR op_ge (pv 1) (pv 3) (nomark _)) pa_nil)) pa_nil))))
      (pss_one (ps_set (i := 1) sc_l_signs.nd rfl (Or.inl rfl) (pe_op op_sub (pv 1) (pe_op op_mul (pv 3) (pe_callTy call_int1 (by rfl) T.z_int (by decide +kernel) (pa_cons (pe_cmpR op_ge (pv 1) (pv 3) (nomark _)) pa_nil))))))))
      (pss_one (ps_ret (pv 2)))))), ?_⟩
    have hmx : (171 * n + 37) % 256 = ((mx n : Nat) : Int) := by
      obtain ⟨j, rfl⟩ := Int.eq_ofNat_of_zero_le h0
      exact mix_int j
    have hml : mx n < 256 := by omega
    refine q_asg (v := .int ((mx n : Nat) : Int)) (ev_is (v := .int ((171 * n + 37) % 256)) (by walk_at "ev") (congrArg V.int hmx)) fun H1 e1 => ?_
    refine q_asg (v := .str (bt (0, 0))) (ev_is ev_c rfl) fun H2 e2 => ?_
    have hsig : sig n = bt (8, mx n) := rfl
    generalize mx n = m at *
    show tSeq _ _ _ [some (.int n), some (.int (m : Int)), some (.str (bt (0, 0))), none] H2
    refine q_forNL (K := K) (xs := worths8) (eg_lst (by walk_at "ea") (by decide)) (fun p i σ' B => Ex H B ∧ B p = some (.lst worths8) ∧ ∃ u, σ' = [some (.int n), some (.int ((m % 2 ^ (8 - i) : Nat) : Int)), some (.str (bt (i, m / 2 ^ (8 - i)))), u]) ?_ ?_ ?_ ?_
    · intro p B e hp
      refine ⟨(e1.trans e2).trans e, hp, none, ?_⟩
      rw [Nat.sub_zero, Nat.mod_eq_of_lt (show m < 2 ^ 8 from hml), Nat.div_eq_of_lt (show m < 2 ^ 8 from hml)]
    · rintro p i σ' B hi ⟨_, hp, _⟩
      exact sq_of hp
    · rintro p i x σ' B hi ⟨e, hp, u, rfl⟩
      obtain ⟨hi8, rfl⟩ := worth_at8 hi
      have hq2 : 2 ^ (8 - i) = 2 * 2 ^ (7 - i) := by rw [show 8 - i = (7 - i) + 1 by omega, Nat.pow_succ, Nat.mul_comm]
      have hqp := Nat.two_pow_pos (7 - i)
      have hqe : 8 - (i + 1) = 7 - i := by omega
      rw [hqe]
      rw [hq2]
      generalize 2 ^ (7 - i) = q at hqp ⊢
      have hh := half_mod m q
      have hr := Nat.mod_lt m hqp
      have hd : m / (2 * q) = m / q / 2 := by rw [Nat.mul_comm, Nat.div_div_eq_div_mul]
      have hs := bl_snoc i (m / q)
      rw [← hd] at hs
      have hbit : (if decide (((m % (2 * q) : Nat) : Int) ≥ ((q : Nat) : Int)) = true then (1 : Int) else 0) = ((m / q % 2 : Nat) : Int) := by
        rcases Nat.mod_two_eq_zero_or_one (m / q) with hb | hb
        · rw [hb] at hh ⊢
          rw [decide_eq_false (by omega)]
          rfl
        · rw [hb] at hh ⊢
          rw [decide_eq_true (by omega)]
          rfl
      have hstr : ∀ b : Nat, b < 2 → (Str.ofString (toString (b : Int))) = S [48 + b] := by
        intro b hb
        rw [num_S, TL.numL_lt (by omega)]
      have hb2 := Nat.mod_lt (m / q) (by decide : 0 < 2)
      have hcat : bt (i, m / (2 * q)) ++ S [48 + m / q % 2] = bt (i + 1, m / q) := by
        show S (bl i (m / (2 * q))) ++ S [48 + m / q % 2] = S (bl (i + 1) (m / q))
        rw [S_cat, hs]
      have hl : ((m % (2 * q) : Nat) : Int) - (q : Int) * ((m / q % 2 : Nat) : Int) = ((m % q : Nat) : Int) := by
        rw [hh, Int.natCast_add, Int.natCast_mul]
        omega
      generalize m / q % 2 = b at *
      generalize hl1 : m % (2 * q) = l1 at *
      have hbl := bt_len (i, m / (2 * q))
      show tSeq _ _ _ [some (.int n), some (.int (l1 : Int)), some (.str (bt (i, m / (2 * q)))), some (.int (q : Int))] B
      refine q_asg (v := .str (bt (i + 1, m / q))) (ev_is (ev_op (x := .str (bt (i, m / (2 * q)))) (y := .str (S [48 + b])) (by walk_at "ev") (ev_is (ev_cb (ea_cons (ev_is (ev_cb (ea_cons (ev_op (by walk_at "ev") (by walk_at "ev") rv_I0) ea_nil) rc_intB) (congrArg V.int hbit)) ea_nil) (rc_strI (i := (b : Int)) ?_)) (congrArg V.str (hstr b hb2))) (rv_add_str ?_)) (congrArg V.str hcat)) fun B1 b1 => ?_
      · rcases (show b = 0 ∨ b = 1 by omega) with rfl | rfl <;> decide
      · rw [hbl, S_len]
        show i + 1 ≤ 100000
        omega
      · refine s_asg (v := .int ((m % q : Nat) : Int)) (ev_is (ev_op (x := .int (l1 : Int)) (y := .int ((q : Int) * (b : Int))) (by walk_at "ev") (ev_op (x := .int (q : Int)) (y := .int (b : Int)) (by walk_at "ev") (ev_is (ev_cb (ea_cons (ev_op (by walk_at "ev") (by walk_at "ev") rv_I0) ea_nil) rc_intB) (congrArg V.int hbit)) (rv_I (show CMul _ _ from Or.inr (by omega)))) rv_I0) (congrArg V.int hl)) fun B2 b2 => ?_
        exact ⟨(e.trans b1).trans b2, b2.k (b1.k hp), _, rfl⟩
    · rintro p σ' B ⟨e, hp, u, rfl⟩
      refine s_retk (v := .str (sig n)) (ev_is (v := .str (bt (8, m / 2 ^ (8 - 8)))) (by walk_at "ev") ?_) (k.mono e)
      rw [hsig, Nat.sub_self, Nat.pow_zero, Nat.div_one]
end
section
open SX
variable {P : Program} {w : World} {K : PySem.W.Frag} {mg : Str → Option Value} {base : Heap} [TabCx]
theorem log60 {i : Int} (hl : i.natAbs < 10 ^ 60) : i.natAbs.log2 < 1920 := by
  by_cases h0 : i.natAbs = 0
  · rw [h0]; decide
  · exact Nat.lt_trans ((Nat.log2_lt h0).mpr (Nat.lt_of_lt_of_le hl (by decide : 10 ^ 60 ≤ 2 ^ 200))) (by decide)
theorem ev_strZ {σ : L2.St} {H : Hp} {te : TE} {i : Int} (h : Ev te σ H (.int i)) (hl : i.natAbs < 10 ^ 60) : Ev (tCB (fun vs H Q => ∃ i, vs = [V.int i] ∧ i.natAbs.log2 < 1920 ∧ Q (.str (toString i)) H) (tCons te tNil)) σ H (.str (S (numZ i))) :=
  ev_is (ev_cb (ea_cons h ea_nil) (rc_strI (log60 hl))) (congrArg V.str (numZ_S i))
theorem ev_addB {σ : L2.St} {H : Hp} {ta tb : TE} {a b : List Nat} (ha : Ev ta σ H (.str (S a))) (hb : Ev tb σ H (.str (S b))) (hl : a.length + b.length ≤ 10000000) : Ev (tOp rAddS ta tb) σ H (.str (S (a ++ b))) := fun A e Q q =>
  ha A e _ fun B e1 => hb B (e.trans e1) _ fun C e2 => ⟨S a, S b, rfl, rfl, by rw [S_len, S_len]; exact Nat.le_trans hl (by decide), by rw [S_cat]; exact q C (e1.trans e2)⟩
end
section
open SX
variable {P : Program} {w : World} {K : PySem.W.Frag} {mg : Str → Option Value} {base : Heap} [TabCx]
abbrev rpSg : Rp (Str × (Int × Int)) := rpP rpStr rpT
abbrev rpWt : Rp (Code × List (Str × (Int × Int))) := rpP rpC (rpL rpSg)
/-- a room that waits: its things with their signs -/
def insd (ps : List (Int × Int)) (c : Code) : List (Str × (Int × Int)) := (thg ps c).map fun p => (sig p.1, p)
def wtd (ps : List (Int × Int)) (c : Code) : Code × List (Str × (Int × Int)) := (c, insd ps c)
theorem nxs_dec0 {c : Code} {p : Int × Int} (hb : c.1 < 8) (h : inn c p = true) : decide (V.str (nxs c.1 p.1) = V.str "0") = !inn (c1 c) p := by
  have e := nxs_dec hb h
  have hb2 := Nat.mod_lt (mx p.1 / 2 ^ (8 - 1 - c.1)) (by decide : 0 < 2)
  unfold nxs at e ⊢
  generalize mx p.1 / 2 ^ (8 - 1 - c.1) % 2 = z at *
  rw [← e]
  rcases (show z = 0 ∨ z = 1 by omega) with rfl | rfl
  · rfl
  · rfl
theorem insd_half0 (ps : List (Int × Int)) {c : Code} (hb : c.1 < 8) : ((insd ps c).filter fun a => !inn (c1 c) a.2) = insd ps (c0 c) := by
  unfold insd
  rw [List.filter_map, ← thg_half0 ps hb]
  rfl
theorem insd_half1 (ps : List (Int × Int)) {c : Code} (hb : c.1 < 8) : ((insd ps c).filter fun a => inn (c1 c) a.2) = insd ps (c1 c) := by
  unfold insd
  rw [List.filter_map, ← thg_half1 ps hb]
  rfl
theorem prSg_any {H : Hp} {F G : Addr → Prop} : ∀ {xs : List V} {as : List (Str × (Int × Int))}, PRF rpSg F H xs as → PRF rpSg G H xs as
  | _, _, .nil => .nil
  | _, _, .cons a t => .cons a (prSg_any t)
theorem cano_pos (b : Nat) (ps : List (Int × Int)) : ∀ (f : Nat) (c : Code), 1 ≤ (cano b ps f c).length
  | 0, c => Nat.le_refl 1
  | f + 1, c => by
    rw [cano]
    split
    · exact Nat.le_refl 1
    · rw [List.length_append]
      have := cano_pos b ps f (c0 c)
      omega
theorem flat_ge {α β : Type} (f : α → List β) (h : ∀ a, 1 ≤ (f a).length) : ∀ l : List α, l.length ≤ (l.flatMap f).length
  | [] => Nat.le_refl 0
  | a :: l => by
    rw [List.flatMap_cons, List.length_append, List.length_cons]
    have := flat_ge f h l
    have := h a
    omega
theorem cano_len (b : Nat) (ps : List (Int × Int)) : ∀ (f : Nat) (c : Code), (cano b ps f c).length ≤ 2 ^ f
  | 0, c => Nat.le_refl 1
  | f + 1, c => by
    rw [cano]
    split
    · exact Nat.two_pow_pos _
    · rw [List.length_append, Nat.pow_succ]
      have := cano_len b ps f (c0 c)
      have := cano_len b ps f (c1 c)
      omega
/-- the measure of what waits -/
def wms : List Code → Nat
  | [] => 0
  | c :: t => (2 ^ (9 - c.1) - 1) + wms t
theorem wms_two {c : Code} (h : c.1 < 8) (t : List Code) : wms (c0 c :: c1 c :: t) < wms (c :: t) := by
  show (2 ^ (9 - (c.1 + 1)) - 1) + ((2 ^ (9 - (c.1 + 1)) - 1) + wms t) < (2 ^ (9 - c.1) - 1) + wms t
  have e : 2 ^ (9 - c.1) = 2 * 2 ^ (9 - (c.1 + 1)) := by rw [show 9 - c.1 = (9 - (c.1 + 1)) + 1 by omega, Nat.pow_succ, Nat.mul_comm]
  have := Nat.two_pow_pos (9 - (c.1 + 1))
  omega
theorem wms_pop {c : Code} (h : c.1 ≤ 8) (t : List Code) : wms t < wms (c :: t) := by
  show wms t < (2 ^ (9 - c.1) - 1) + wms t
  have : 2 ^ 1 ≤ 2 ^ (9 - c.1) := Nat.pow_le_pow_right (by decide) (by omega)
  omega
theorem eg_tailV {σ : L2.St} {H : Hp} {te : TE} {tl : TO} {x : V} {xs : List V} {p : Addr} (h : Ev te σ H (.ref p)) (hp : H p = some (.lst (x :: xs))) (hl : EvO tl σ H (some 1)) : EvG (tSl (rSlL K) te tl tNoPart) σ H (NewL xs) := fun A a Q q =>
  h A a _ fun B b => hl B (a.trans b) _ fun C c => ⟨p, x :: xs, rfl, sq_of (((a.trans b).trans c).k hp), fun l hl => by
    rw [cutV_1]
    exact q _ _ ((b.trans c).trans (.new hl)) ⟨l, rfl, fresh_back (b.trans c) hl, upd_same⟩⟩
theorem el_twoF {β : Type} {r : Rp β} {F : Addr → Prop} {σ : L2.St} {H : Hp} {ta tb : TE} {a b : β} (ha : EvE r F ta σ H a) (hb : EvE r F tb σ H b) : EvG (tLst (tCons ta (tCons tb tNil))) σ H (fun A v B => ∃ p ys, v = .ref p ∧ B p = some (.lst ys) ∧ PRF r F B ys [a, b]) := fun A aa Q q =>
  ha A aa _ fun v B b1 hv => hb B (aa.trans b1) _ fun u C c hu => ⟨by show 2 ≤ sizeLine; decide, fun p hp => q _ _ ((b1.trans c).trans (.new hp)) ⟨p, _, rfl, upd_same, .cons (r.mo (c.trans (.new hp)) hv) (.cons (r.mo (.new hp) hu) .nil)⟩⟩
theorem ev_catF {β : Type} {r : Rp β} {F : Addr → Prop} {σ : L2.St} {H : Hp} {ta tb : TE} {as bs : List β} {p' : Addr} {zs : List V} (ha : EvG ta σ H (fun A v B => ∃ p ys, v = .ref p ∧ B p = some (.lst ys) ∧ PRF r F B ys as)) (hb : Ev tb σ H (.ref p')) (h1 : H p' = some (.lst zs)) (h2 : PRF r F H zs bs) (hz : as.length + bs.length ≤ 100000) :
    EvG (tOp rCat ta tb) σ H (fun A v B => ∃ p ys, v = .ref p ∧ A p = none ∧ B p = some (.lst ys) ∧ PRF r F B ys (as ++ bs)) := fun A a Q q =>
  ha A a _ fun v B b ⟨p, ys, ev, hp, hpx⟩ => hb B (a.trans b) _ fun C c => by
    have x1 := (a.trans b).trans c
    refine ⟨p, p', ys, zs, ev, rfl, c.k hp, x1.k h1, ?_, fun l hl => ?_⟩
    · rw [hpx.length, h2.length]
      exact sz_of hz
    · exact q _ _ ((b.trans c).trans (.new hl)) ⟨l, _, rfl, fresh_back (b.trans c) hl, upd_same, pr_mono (Ex.new hl) (pr_app (pr_mono c hpx) (pr_mono x1 h2))⟩
theorem el_oneF {β : Type} {r : Rp β} {F : Addr → Prop} {σ : L2.St} {H : Hp} {te : TE} {b : β} (h : EvE r F te σ H b) : EvG (tLst (tCons te tNil)) σ H (fun A v B => ∃ p ys, v = .ref p ∧ A p = none ∧ B p = some (.lst ys) ∧ PRF r F B ys [b]) := fun A a Q q =>
  h A a _ fun v B b hv => ⟨by show 1 ≤ sizeLine; decide, fun p hp => q _ _ (b.trans (.new hp)) ⟨p, _, rfl, fresh_back b hp, upd_same, .cons (r.mo (.new hp) hv) .nil⟩⟩
theorem wtd_ok (ps : List (Int × Int)) (W : List Code) : ∀ a ∈ W.map (wtd ps), (True ∧ ∀ x ∈ a.2, PyData.strOk x.1 = true ∧ True) := fun a ha => by
  obtain ⟨c, _, rfl⟩ := List.mem_map.mp ha
  refine ⟨trivial, fun x hx => ?_⟩
  obtain ⟨p, _, rfl⟩ := List.mem_map.mp hx
  exact ⟨bt_ok _, trivial⟩
theorem el_sortTV {σ : L2.St} {H : Hp} {te : TE} {as : List (Int × Int)} {q : Addr} (h : Ev te σ H (.ref q)) (hl : LR rpT H q as) : EvG (tCB (rSortedPO K) (tCons te tNil)) σ H (fun A v B => ∃ p rs, v = .ref p ∧ A p = none ∧ LR rpT B p rs ∧ rs.Perm as ∧ rs.Pairwise (fun a b => a.1 ≤ b.1)) := fun A a Q qq =>
  h A a _ fun B b => by
    obtain ⟨xs, h1, h2⟩ := hl.mono (a.trans b)
    obtain ⟨e1, e2⟩ := kH_all h2
    refine ⟨q, xs, kH B, rfl, sq_of h1, e2, fun ys p' srt stb hp' => ?_⟩
    refine qq _ _ (b.trans (.new hp')) ⟨p', ys.map (kH B), rfl, fresh_back b hp', ⟨ys, upd_same, pr_mono (.new hp') (kH_pr fun x hx => e2 x (stb.perm.mem_iff.mp hx))⟩, ?_, ?_⟩
    · rw [← e1]
      exact stb.perm.map _
    · rw [List.pairwise_map]
      exact srt.imp fun {x y} hxy => lex_le hxy
def rowsV (b : Nat) (ps : List (Int × Int)) (Fl : List Code) : List V := ((((boundL ++ numZ b) :: Fl.map fun c => rowL c (thg ps c)).map S).map V.str)
theorem prStr_eq {H : Hp} {F : Addr → Prop} : ∀ {xs : List V} {ss : List Str}, PRF rpStr F H xs ss → xs = ss.map V.str
  | _, _, .nil => rfl
  | _, _, .cons a t => by rw [show _ = V.str _ from a, prStr_eq t]; rfl
theorem sum_le {n : Nat} : ∀ (l : List (List Nat)), (∀ x ∈ l, x.length ≤ n) → (l.map (·.length)).sum ≤ n * l.length
  | [], _ => Nat.zero_le _
  | x :: l, h => by
    rw [List.map_cons, List.sum_cons, List.length_cons, Nat.mul_succ]
    have h1 := sum_le l fun y hy => h y (List.mem_cons_of_mem _ hy)
    have h2 := h x List.mem_cons_self
    omega
theorem cano_le8 (b : Nat) (ps : List (Int × Int)) : ∀ (f : Nat) (c : Code), c.1 + f ≤ 8 → ∀ d ∈ cano b ps f c, d.1 ≤ 8
  | 0, c, h, d, hd => by
    rw [cano, List.mem_singleton] at hd
    rw [hd]
    omega
  | f + 1, c, h, d, hd => by
    rw [cano] at hd
    split at hd
    · rw [List.mem_singleton.mp hd]
      omega
    · rcases List.mem_append.mp hd with z | z
      · exact cano_le8 b ps f (c0 c) (by show c.1 + 1 + f ≤ 8; omega) d z
      · exact cano_le8 b ps f (c1 c) (by show c.1 + 1 + f ≤ 8; omega) d z
def spTextL : Sp := fun vs H Q _ => ∃ (l : Addr) (b : Nat) (qs ps : List (Int × Int)), vs = [.ref l, .int (b : Int)] ∧ LR rpT H l qs ∧ ps.Perm qs ∧ Names ps ∧ VB ps ∧ (1 ≤ b ∧ b ≤ 64) ∧ RetV (.str (wr b ps)) H Q
theorem spv_textL {H : Hp} {l : Addr} {b : Nat} {qs ps : List (Int × Int)} (h : LR rpT H l qs) (hp : ps.Perm qs) (hn : Names ps) (hv : VB ps) (hb : 1 ≤ b ∧ b ≤ 64) : SpV spTextL [.ref l, .int (b : Int)] H (.str (wr b ps)) := fun A e Q q E => ⟨l, b, qs, ps, rfl, h.mono e, hp, hn, hv, hb, q⟩
set_option maxHeartbeats 1000000 in
theorem ok_l_text (T : Top K mg) : FnOk P w K mg base CX0 2 T.a_l_text T.fd_l_text ["_law_plain", "_law_bound"] spTextL := by
  refine T.F_l_text.ok sc_l_text (fun vs H Q E h => ?_) (fun cdv A outer s H vs Q E hr h => ?_)
  · obtain ⟨l, b, qs, ps, rfl, _⟩ := h
    rfl
  · obtain ⟨l, b, qs, ps, rfl, hLq, hpq, hn, hv, hb, k⟩ := h
    refine ⟨_, (pss_cons (ps_set (i := 2) sc_l_text.nd rfl (Or.inl rfl) (pe_lst (pa_cons (pe_op op_add_str pe_str (pe_callTy call_str_int (by rfl) T.z_str (by decide +kernel) (pa_cons (pv 1) pa_nil))) pa_nil)))
      (pss_cons (ps_set (i := 3) sc_l_text.nd rfl (Or.inl rfl) (pe_lst (pa_cons (pe_tup (pa_cons pe_str (pa_cons (pe_lc (own := [("_law_one", 8)]) (g := gName 8) (tt := tYes) rfl sc_l_text.nd (pi_list (pe_callB (cr_sortedPO) (by rfl) T.z_sorted (by decide +kernel) (pa_cons (pv 0) pa_nil))) (blkOk_by (N := n_l_text) (sc := defScope s_l_text) (by decide +kernel)) (fun _ _ _ _ _ => pg_name (i := 8) sc_l_text.nd rfl (Or.inl rfl)) (fun _ _ _ _ _ => by exact pts_nil) (fun _ _ _ _ _ => by exact (pe_tup (pa_cons (pe_call (ok_l_signs T) (hr.mono (by decide)) rfl T.g_l_signs T.F_l_signs.kp T.b_l_signs .nil pass0 (pa_cons (pe_ix (r := rIxT K) ix_tup (pv 8) pe_int (fun _ _ => rfl)) pa_nil)) (pa_cons (pv 8) pa_nil))))) pa_nil))) pa_nil)))
      (pss_cons (ps_while PassesOwn.never (pt_cmpR (r := rNeD K) (op_neD hr.units) (pv 3) (pe_lst pa_nil) (nomark _)) (pss_cons (ps_set (i := 4) sc_l_text.nd rfl (Or.inr rfl) (pe_ix (r := rIxT K) ix_tup (pe_ix (r := rIxL K) ix_list (pv 3) pe_int (fun _ _ => rfl)) pe_int (fun _ _ => rfl)))
      (pss_cons (ps_set (i := 5) sc_l_text.nd rfl (Or.inl rfl) (pe_ix (r := rIxT K) ix_tup (pe_ix (r := rIxL K) ix_list (pv 3) pe_int (fun _ _ => rfl)) pe_int (fun _ _ => rfl)))
      (pss_cons (ps_set (i := 3) sc_l_text.nd rfl (Or.inl rfl) (pe_slice (r := rSlL K) sl_list (pv 3) (po_some pe_int) po_none))
      (pss_one (ps_if (pt_cmpR op_le (pe_callB (r := rLen K) call_len_seq (by rfl) T.z_len (by decide +kernel) (pa_cons (pv 5) pa_nil)) (pv 1) (nomark _)) (pss_one (ps_expr (pe_bm PySem.F.plainAttrs_list PySem.F.slot_list_append PySem.F.type_list_append mt_append (pv 2) (pa_cons (pe_join pe_str (pe_op op_cat (pe_lst (pa_cons (pe_op op_add_str (pv 4) pe_str) pa_nil)) (pe_lc (own := [("_law_one", 8)]) (g := gName 8) (tt := tYes) rfl sc_l_text.nd (pi_list (pv 5)) (blkOk_by (N := n_l_text) (sc := defScope s_l_text) (by decide +kernel)) (fun _ _ _ _ _ => pg_name (i := 8) sc_l_text.nd rfl (Or.inl rfl)) (fun _ _ _ _ _ => by exact pts_nil) (fun _ _ _ _ _ => by exact (pe_op op_add_str (pe_op op_add_str (pe_callTy call_str_int (by rfl) T.z_str (by decide +kernel) (pa_cons (pe_ix (r := rIxT K) ix_tup (pe_ix (r := rIxT K) ix_tup (pv 8) pe_int (fun _ _ => rfl)) pe_int (fun _ _ => rfl)) pa_nil)) pe_str) (pe_callTy call_str_int (by rfl) T.z_str (by decide +kernel) (pa_cons (pe_ix (r := rIxT K) ix_tup (pe_ix (r := rIxT K) ix_tup (pv 8) pe_int (fun _ _ => rfl)) pe_int (fun _ _ => rfl)) pa_nil))))))) pa_nil)))) (pss_cons (ps_setLc (i := 6) (own := [("_law_one", 8)]) (g := gName 8) rfl sc_l_text.nd rfl rfl (sw_true rfl rfl rfl (by decide +kernel)) (pi_list (pv 5)) (blkOk_by (N := n_l_text) (sc := defScope s_l_text) (by decide +kernel)) (fun _ _ _ _ _ => pg_name (i := 8) sc_l_text.nd rfl (Or.inl rfl)) (fun _ _ _ _ _ => by exact (pts_one (pt_cmpR op_eq (pe_ix ix_str (pe_ix (r := rIxT K) ix_tup (pv 8) pe_int (fun _ _ => rfl)) (pe_callB call_len_str (by rfl) T.z_len (by decide +kernel) (pa_cons (pv 4) pa_nil)) (fun _ _ => rfl)) pe_str (nomark _)))) (fun _ _ _ _ _ => by exact (pv 8)))
      (pss_cons (ps_setLc (i := 7) (own := [("_law_one", 8)]) (g := gName 8) rfl sc_l_text.nd rfl rfl (sw_true rfl rfl rfl (by decide +kernel)) (pi_list (pv 5)) (blkOk_by (N := n_l_text) (sc := defScope s_l_text) (by decide +kernel)) (fun _ _ _ _ _ => pg_name (i := 8) sc_l_text.nd rfl (Or.inl rfl)) (fun _ _ _ _ _ => by exact (pts_one (pt_cmpR op_eq (pe_ix ix_str (pe_ix (r := rIxT K) ix_tup (pv 8) pe_int (fun _ _ => rfl)) (pe_callB call_len_str (by rfl) T.z_len (by decide +kernel) (pa_cons (pv 4) pa_nil)) (fun _ _ => rfl)) pe_str (nomark _)))) (fun _ _ _ _ _ => by exact (pv 8)))
      (pss_one (ps_set (i := 3) sc_l_text.nd rfl (Or.inl rfl) (pe_op op_cat (pe_lst (pa_cons (pe_tup (pa_cons (pe_op op_add_str (pv 4) pe_str) (pa_cons (pv 6) pa_nil))) (pa_cons (pe_tup (pa_cons (pe_op op_add_str (pv 4) pe_str) (pa_cons (pv 7) pa_nil))) pa_nil))) (pv 3))))))))))))
      (pss_one (ps_ret (pe_join pe_str (pv 2))))))), ?_⟩
    have hnl := hn.len
    have nl := numZ_len (i := (b : Int)) (k := 3) (by decide) (by omega)
    refine q_asgG (eg_lst (vs := [.str (S (boundL ++ numZ b))]) (ea_cons (ev_addB (a := boundL) (b := numZ b) (ev_litc (s := "bound ") rfl) (ev_strZ (i := (b : Int)) (by walk_at "ev") (by omega)) (by rw [show boundL.length = 6 from rfl]; omega)) ea_nil) (by show 1 ≤ 100000; decide)) ?_
    rintro v0 H1 e1 ⟨pf, rfl, hpf, hf0⟩
    have hpf_new := hpf
    show tSeq _ _ _ [some (.ref l), some (.int (b : Int)), some (.ref pf), none, none, none, none, none, none] H1
    have hsrt : EvLR rpT (tCB (rSortedPO K) (tCons (tVar 0) tNil)) [some (.ref l), some (.int (b : Int)), some (.ref pf), none, none, none, none, none, none] H1 ps := (el_sortTV (ev_var rfl) (hLq.mono e1)).imp fun A v B _ _ ⟨q, rs, ev, hq, hl, hp1, hp2⟩ => by
      rw [mem_perm_sorted hn.up hp2 (hp1.trans hpq.symm)] at hl
      exact ⟨q, ev, hq, hl⟩
    have hff : ∀ {B : Hp} {o : HO}, B pf = some o → ∀ y, F1 pf y → B y ≠ none := fun h y z => by rw [show y = pf from z, h]; intro w; cases w
    have hins : EvLR rpSg (tLc (iList K (tCB (rSortedPO K) (tCons (tVar 0) tNil))) (gName 8) tYes (tTup (tCons (tCall spSgL [] E0 (tCons (tOp (rIxT K) (tVar 8) (tC (.int 0))) tNil)) (tCons (tVar 8) tNil))) [8]) [some (.ref l), some (.int (b : Int)), some (.ref pf), none, none, none, none, none, none] H1 (((ps.filter fun _ => true)).map fun p => (sig p.1, p)) := by
      refine lcG (K := K) (P := fun _ v C => ∃ q, v = .ref q ∧ LR rpT C q ps) (hsrt.imp fun A v B _ _ ⟨q, e, _, l⟩ => ⟨q, e, l⟩) ?_
      rintro A v B a0 e0 ⟨q, rfl, ⟨xs, hx, hpx⟩⟩
      refine (lcLR (K := K) (r := rpT) (r' := rpSg) (fun _ => true) (fun p => (sig p.1, p)) ev_c (sq_of hx) hpx (by omega) (fun _ => rfl) ?_ ?_).imp ?_
      · rintro x p H3 F e3 _ ⟨t, rfl, ht⟩
        exact fun H8 e8 Q' q' => q' H8 (.refl H8)
      · rintro x p H3 F e3 _ hm ⟨t, rfl, ht⟩ _
        have hr := hn.all p hm
        exact ee_P (ee_var (v := .str (sig p.1)) (ev_call (vs := [.int p.1]) (by walk_at "ea") (spv_sgL hr.1 hr.2)) rfl) (ee_var (v := .ref t) (by walk_at "ev") ⟨t, rfl, ht⟩)
      · rintro A2 v C a2 _ ⟨q2, rfl, hq, hl⟩
        exact ⟨q2, rfl, fresh_back (e0.trans a2) hq, hl⟩
    rw [List.filter_eq_self.mpr (fun _ _ => rfl)] at hins
    have hroot : thg ps (0, 0) = ps := by
      unfold thg
      refine List.filter_eq_self.mpr fun p _ => ?_
      unfold inn
      rw [inB_iff]
      refine ⟨Nat.zero_le _, ?_⟩
      exact Nat.div_eq_of_lt (mx_lt _)
    have hwt : EvE rpWt (F1 pf) (tTup (tCons (tC (.str (Str.ofString ""))) (tCons (tLc (iList K (tCB (rSortedPO K) (tCons (tVar 0) tNil))) (gName 8) tYes (tTup (tCons (tCall spSgL [] E0 (tCons (tOp (rIxT K) (tVar 8) (tC (.int 0))) tNil)) (tCons (tVar 8) tNil))) [8]) tNil))) [some (.ref l), some (.int (b : Int)), some (.ref pf), none, none, none, none, none, none] H1 (wtd ps (0, 0)) := by
      have e0 : wtd ps (0, 0) = ((0, 0), ps.map fun p => (sig p.1, p)) := by
        unfold wtd insd
        rw [hroot]
      rw [e0]
      exact ee_P (ee_var (v := .str (bt (0, 0))) (ev_is ev_c rfl) rfl) (ee_L hins (hff hf0) fun B ys _ h => prSg_any h)
    refine q_asgG (el_oneF hwt) ?_
    rintro v H2 e2 ⟨pw, ws0, rfl, hpw, hws0, hpws0⟩
    have hpwf : pw ≠ pf := fun z => by rw [z, hf0] at hpw; cases hpw
    show tSeq _ _ _ [some (.ref l), some (.int (b : Int)), some (.ref pf), some (.ref pw), none, none, none, none, none] H2
    refine q_while (fun m σ' B => ∃ (Fl W : List Code) (ws : List V) (pw : Addr) (u4 u5 u6 u7 : Option V), m = wms W ∧ Fl ++ W.flatMap (fun c => cano b ps (8 - c.1) c) = canon b ps ∧ (∀ c ∈ W, c.1 ≤ 8) ∧ Ex H B ∧ B pf = some (.lst (rowsV b ps Fl)) ∧ B pw = some (.lst ws) ∧ PRF rpWt (F1 pf) B ws (W.map (wtd ps)) ∧ pw ≠ pf ∧ σ' = [some (.ref l), some (.int (b : Int)), some (.ref pf), some (.ref pw), u4, u5, u6, u7, none]) (m := wms [(0, 0)]) ?_ ?_
    · refine ⟨[], [(0, 0)], ws0, pw, none, none, none, none, rfl, ?_, by simp, e1.trans e2, e2.k hf0, hws0, hpws0, hpwf, rfl⟩
      rw [List.nil_append, List.flatMap_singleton]
      rfl
    · rintro m σ' B ⟨Fl, W, ws, pw, u4, u5, u6, u7, rfl, hcan, hW8, e, hf, hw, hpw, hne, rfl⟩
      refine ⟨!(W.map (wtd ps)).isEmpty, et_test (ev_neNil (encP encC (encL (encP encStr encT))) (show (4 : Nat) ≤ 60 by decide) (by walk_at "ev") ⟨ws, hw, pr_0 hpw⟩ (wtd_ok ps W)), fun hb' B1 b1 => ?_, fun hb' B1 b1 => ?_⟩
      · rcases W with _ | ⟨c, W⟩
        · cases hb'
        clear hb'
        have hc8 := hW8 c List.mem_cons_self
        have hf1 := b1.k hf
        have hw1 := b1.k hw
        have hpw1 := pr_mono b1 hpw
        have hwl := hpw1.length
        obtain ⟨x0, ws', rfl, hx0, hpw'⟩ : ∃ x0 ws', ws = x0 :: ws' ∧ rpWt.R (F1 pf) B1 x0 (wtd ps c) ∧ PRF rpWt (F1 pf) B1 ws' (W.map (wtd ps)) := by
          cases hpw1 with
          | cons a t => exact ⟨_, _, rfl, a, t⟩
        obtain ⟨t0, y0, y1, rfl, ht0, rfl, li, zs, rfl, hlif, hzs, hpz⟩ := hx0
        have hlif : li ≠ pf := hlif
        have hpz : PRF rpSg (F1 pf) B1 zs (insd ps c) := hpz
        have hzl := hpz.length
        have hil : (insd ps c).length = cnt ps c := by
          unfold insd cnt
          rw [List.length_map]
        have hcl : cnt ps c ≤ 256 := (hn.fil (inn c)).len
        have hcan' : Fl ++ (cano b ps (8 - c.1) c ++ W.flatMap (fun c => cano b ps (8 - c.1) c)) = canon b ps := by rw [List.flatMap_cons] at hcan; exact hcan
        show tSeq _ _ _ [some (.ref l), some (.int (b : Int)), some (.ref pf), some (.ref pw), u4, u5, u6, u7, none] B1
        refine q_asg (v := .str (bt c)) (ev_op (ev_op (by walk_at "ev") ev_c (rv_ixL (sq_of hw1) (atI_nat (j := 0) rfl))) ev_c (rv_ixT (st_of ht0) (atI_nat (j := 0) rfl))) fun B2 b2 => ?_
        refine q_asg (v := .ref li) (ev_op (ev_op (by walk_at "ev") ev_c (rv_ixL (sq_of (b2.k hw1)) (atI_nat (j := 0) rfl))) ev_c (rv_ixT (st_of (b2.k ht0)) (atI_nat (j := 1) rfl))) fun B3 b3 => ?_
        refine q_asgG (eg_tailV (by walk_at "ev") (b3.k (b2.k hw1)) (eo_some (i := 1) ev_c)) ?_
        rintro v B4 b4 ⟨pw2, rfl, hpw2, hw4⟩
        have x4 := (b2.trans b3).trans b4
        have hf4 := x4.k hf1
        have hne2 : pw2 ≠ pf := fun z => by rw [z, b3.k (b2.k hf1)] at hpw2; cases hpw2
        have hpw4 := pr_mono x4 hpw'
        have hzs4 := x4.k hzs
        have hpz4 := pr_mono x4 hpz
        have e4 : Ex H B4 := e.trans (b1.trans x4)
        show tIfS _ _ _ _ [some (.ref l), some (.int (b : Int)), some (.ref pf), some (.ref pw2), some (.str (bt c)), some (.ref li), u6, u7, none] B4
        refine s_if (b := decide ((cnt ps c : Int) ≤ (b : Int))) (et_test (ev_op (x := .int (cnt ps c : Int)) (y := .int (b : Int)) (ev_is (ev_cb (by walk_at "ea") (rc_len (sq_of hzs4))) (by rw [hzl]; exact congrArg V.int (congrArg Nat.cast hil))) (by walk_at "ev") rv_I0)) (fun hb5 B5 b5 => ?_) fun hb5 B5 b5 => ?_
        · have hle : cnt ps c ≤ b := by have := of_decide_eq_true hb5; omega
          have hcn : cano b ps (8 - c.1) c = [c] := by
            rcases h8 : 8 - c.1 with _ | f
            · rfl
            · rw [cano, if_pos hle]
          have hf5 := b5.k hf4
          have hcl2 : (Fl ++ [c]).length ≤ 256 := by
            have h1 := congrArg List.length hcan'
            have h2 := cano_len b ps 8 (0, 0)
            rw [hcn, List.length_append, List.length_append] at h1
            rw [List.length_append]
            have h3 : (canon b ps).length ≤ 256 := h2
            omega
          have hnew : Ev (tM1 (fun x xs H Q => ∃ a p, ∃ ys : List Str, x = .str a ∧ xs = [.ref p] ∧ (SqL K H p (ys.map V.str) ∨ SqT K H p (ys.map V.str)) ∧ (ys.map (·.length)).sum + ys.length * a.length ≤ 16777216 ∧ Q (.str (Txt.join a ys)) H) (tC (.str (Str.ofString " "))) (tOp rCat (tLst (tCons (tOp rAddS (tVar 4) (tC (.str (Str.ofString ":")))) tNil)) (tLc (iList K (tVar 5)) (gName 8) tYes (tOp rAddS (tOp rAddS (tCB (fun vs H Q => ∃ i, vs = [V.int i] ∧ i.natAbs.log2 < 1920 ∧ Q (.str (toString i)) H) (tCons (tOp (rIxT K) (tOp (rIxT K) (tVar 8) (tC (.int 1))) (tC (.int 0))) tNil)) (tC (.str (Str.ofString "=")))) (tCB (fun vs H Q => ∃ i, vs = [V.int i] ∧ i.natAbs.log2 < 1920 ∧ Q (.str (toString i)) H) (tCons (tOp (rIxT K) (tOp (rIxT K) (tVar 8) (tC (.int 1))) (tC (.int 1))) tNil))) [8]))) [some (.ref l), some (.int (b : Int)), some (.ref pf), some (.ref pw2), some (.str (bt c)), some (.ref li), u6, u7, none] B5 (.str (S (rowL c (thg ps c)))) := by
            have hall : ∀ p ∈ thg ps c, (0 ≤ p.1 ∧ p.1 < 256) ∧ p.2.natAbs < 10 ^ 60 := fun p hp => ⟨hn.all p (List.mem_filter.mp hp).1, hv p (List.mem_filter.mp hp).1⟩
            have hin2 : EvLR rpStr (tLc (iList K (tVar 5)) (gName 8) tYes (tOp rAddS (tOp rAddS (tCB (fun vs H Q => ∃ i, vs = [V.int i] ∧ i.natAbs.log2 < 1920 ∧ Q (.str (toString i)) H) (tCons (tOp (rIxT K) (tOp (rIxT K) (tVar 8) (tC (.int 1))) (tC (.int 0))) tNil)) (tC (.str (Str.ofString "=")))) (tCB (fun vs H Q => ∃ i, vs = [V.int i] ∧ i.natAbs.log2 < 1920 ∧ Q (.str (toString i)) H) (tCons (tOp (rIxT K) (tOp (rIxT K) (tVar 8) (tC (.int 1))) (tC (.int 1))) tNil))) [8]) [some (.ref l), some (.int (b : Int)), some (.ref pf), some (.ref pw2), some (.str (bt c)), some (.ref li), u6, u7, none] B5 (((insd ps c).filter fun _ => true).map fun a => S (word0 a.2)) := by
              refine lcLR (K := K) (r := rpSg) (r' := rpStr) (fun _ => true) (fun a => S (word0 a.2)) (by walk_at "ev") (sq_of (b5.k hzs4)) (pr_0 (pr_mono b5 hpz4)) (by omega) (fun _ => rfl) ?_ ?_
              · rintro x a H3 F e3 _ _
                exact fun H8 e8 Q' q' => q' H8 (.refl H8)
              · rintro x a H3 F e3 _ hm ⟨t, x1, y1, rfl, ht, hx1, ⟨t2, rfl, ht2⟩⟩ _
                obtain ⟨p, hp, rfl⟩ := List.mem_map.mp hm
                obtain ⟨h1, h2⟩ := hall p hp
                have h8 : ∀ (σ : L2.St), σ[8]? = some (some (.ref t)) → ∀ (k : Nat) (z : V), [V.int p.1, V.int p.2][k]? = some z → Ev (tOp (rIxT K) (tOp (rIxT K) (tVar 8) (tC (.int 1))) (tC (.int (k : Int)))) σ H3 z := fun σ hσ k z hz => ev_op (ev_op (x := .ref t) (y := .int 1) (ev_var hσ) ev_c (rv_ixT (st_of ht) (atI_nat (j := 1) rfl))) ev_c (rv_ixT (st_of ht2) (atI_nat hz))
                have w0 := word0_len h1 h2
                unfold word0 at w0
                rw [List.length_append, List.length_cons] at w0
                refine ee_var (v := .str (S (word0 p))) (ev_is (ev_addB (a := numZ p.1 ++ [61]) (b := numZ p.2) (ev_addB (a := numZ p.1) (b := [61]) (ev_strZ (i := p.1) (h8 _ rfl 0 _ rfl) (by omega)) (ev_litc (s := "=") rfl) (by rw [List.length_singleton]; omega)) (ev_strZ (i := p.2) (h8 _ rfl 1 _ rfl) h2) (by rw [List.length_append, List.length_singleton]; omega)) ?_) rfl
                unfold word0
                rw [List.append_assoc]
                rfl
            rw [List.filter_eq_self.mpr (fun _ _ => rfl)] at hin2
            have hmm : ((insd ps c).map fun a => S (word0 a.2)) = ((thg ps c).map word0).map S := by
              unfold insd
              rw [List.map_map, List.map_map]
              rfl
            rw [hmm] at hin2
            have hbl : (bl c.1 c.2).length = c.1 := bl_len c.1 c.2
            have h1 : EvLR rpStr (tLst (tCons (tOp rAddS (tVar 4) (tC (.str (Str.ofString ":")))) tNil)) [some (.ref l), some (.int (b : Int)), some (.ref pf), some (.ref pw2), some (.str (bt c)), some (.ref li), u6, u7, none] B5 [S (bl c.1 c.2 ++ [58])] := by
              refine (eg_lst (vs := [.str (S (bl c.1 c.2 ++ [58]))]) (ea_cons (ev_addB (a := bl c.1 c.2) (b := [58]) (ev_var rfl) (ev_litc (s := ":") rfl) (by rw [hbl, List.length_singleton]; omega)) ea_nil) (by show 1 ≤ 100000; decide)).imp fun A v B _ _ ⟨q, ev, hq, hB⟩ => ⟨q, ev, hq, _, hB, .cons rfl .nil⟩
            have h2 := ev_catLR h1 hin2 (by rw [List.length_map, List.length_map, List.length_singleton]; have := hcl; unfold cnt at this; omega)
            rw [rowL_join]
            refine ev_join (K := K) (s := [32]) (ys := (bl c.1 c.2 ++ [58]) :: (thg ps c).map word0) (ev_litc (s := " ") rfl) (h2.imp fun A v B _ _ ⟨q, ev, _, xs, hB, hpx⟩ => ⟨q, ev, by rw [hB, prStr_eq hpx]; rfl⟩) ?_
            have hs := sum_le (n := 66) ((thg ps c).map word0) fun x hx => by
              obtain ⟨p, hp, rfl⟩ := List.mem_map.mp hx
              exact word0_len (hall p hp).1 (hall p hp).2
            rw [List.map_cons, List.sum_cons, List.length_append, List.length_singleton, hbl, List.length_cons, List.length_singleton]
            rw [List.length_map] at hs ⊢
            have h3 : (thg ps c).length ≤ 256 := hcl
            omega
          refine s_app (P := fun _ v _ => v = .str (S (rowL c (thg ps c)))) hf5 (by walk_at "ev") (hnew.g fun _ _ _ _ => rfl) (by unfold rowsV; rw [List.length_map, List.length_map, List.length_cons, List.length_map]; rw [List.length_append] at hcl2; omega) fun A1 v B6 a1 b6 hv => ?_
          subst hv
          have x6 := a1.trans b6
          have hf6 := x6.k hf5
          refine ⟨wms W, wms_pop hc8 W, Fl ++ [c], W, ws', pw2, _, _, u6, u7, rfl, ?_, fun d hd => hW8 d (List.mem_cons_of_mem _ hd), (e4.trans (b5.trans x6)).mut hpf_new hf6, ?_, ?_, ?_, hne2, rfl⟩
          · rw [← hcan', hcn, List.append_assoc]
          · rw [upd_same]
            unfold rowsV
            rw [List.map_append, List.map_cons, List.map_cons, List.map_cons, List.map_cons, List.map_append, List.map_append]
            rfl
          · rw [upd_ne hne2]
            exact x6.k (b5.k hw4)
          · exact pr_lst (F := F1 pf) (show F1 pf pf from rfl) hf6 (pr_mono (b5.trans x6) hpw4)
        · have hgt : ¬ cnt ps c ≤ b := by have := of_decide_eq_false hb5; omega
          have hlt : c.1 < 8 := by
            rcases Nat.lt_or_ge c.1 8 with h | h
            · exact h
            · have := cnt_8 (c := c) (by omega) hn
              omega
          have hcn : cano b ps (8 - c.1) c = cano b ps (8 - (c0 c).1) (c0 c) ++ cano b ps (8 - (c1 c).1) (c1 c) := by
            have h8 : 8 - c.1 = (8 - (c.1 + 1)) + 1 := by omega
            rw [h8, cano, if_neg hgt]
            rfl
          have hb2 : bt c = S (bl c.1 c.2) := rfl
          have hsgn : ∀ (u6 u7 : Option V) (G : Hp) (x : V) (a : Str × (Int × Int)) (F : Addr → Prop), Ex B4 G → a ∈ insd ps c → rpSg.R F G x a → Ev (tOp rIxS (tOp (rIxT K) (tVar 8) (tC (.int 0))) (tCB (fun xs H Q => ∃ z : Str, xs = [V.str z] ∧ z.length ≤ sizeLine ∧ Q (V.int z.length) H) (tCons (tVar 4) tNil))) [some (.ref l), some (.int (b : Int)), some (.ref pf), some (.ref pw2), some (.str (bt c)), some (.ref li), u6, u7, some x] G (.str (nxs c.1 a.2.1)) := by
            rintro u6 u7 G x a F eG hm ⟨t, x1, y1, rfl, ht, rfl, _⟩
            obtain ⟨q, hq, rfl⟩ := List.mem_map.mp hm
            refine ev_op (x := .str (sig q.1)) (y := .int (c.1 : Int)) (ev_op (by walk_at "ev") ev_c (rv_ixT (st_of ht) (atI_nat (j := 0) rfl))) (ev_is (ev_cb (by walk_at "ea") (rc_lenS (s := bt c) (by rw [bt_len]; omega))) (by rw [bt_len])) (rv_ixS (by show (bt (8, mx q.1)).length ≤ 100000; rw [bt_len]; show 8 ≤ 100000; decide) (atI_nat ?_))
            exact bl_get (mx q.1) hlt
          have hinn : ∀ a ∈ insd ps c, inn c a.2 = true := by
            intro a ha
            obtain ⟨q, hq, rfl⟩ := List.mem_map.mp ha
            exact (List.mem_filter.mp hq).2
          have hf5 := b5.k hf4
          show tSeq _ _ _ [some (.ref l), some (.int (b : Int)), some (.ref pf), some (.ref pw2), some (.str (bt c)), some (.ref li), u6, u7, none] B5
          refine q_asgLR (lcLR (K := K) (r := rpSg) (r' := rpSg) (fun a => !inn (c1 c) a.2) (fun a => a) (by walk_at "ev") (sq_of (b5.k hzs4)) (pr_0 (pr_mono b5 hpz4)) (by omega) (fun _ => rfl) ?_ ?_) ?_
          · rintro x a G F eG hm hx
            exact et_is (et_test (ev_op (hsgn _ _ G x a F (b5.trans eG) hm hx) ev_c (rv_eq rfl))) (nxs_dec0 hlt (hinn a hm))
          · rintro x a G F eG _ hm hx _
            exact ee_var (by walk_at "ev") hx
          rintro pl B6 hpl b6 hL6
          rw [List.map_id', insd_half0 ps hlt] at hL6
          obtain ⟨y6, hy6, hpy6⟩ := hL6
          have hplf : pl ≠ pf := fun z => by rw [z, hf5] at hpl; cases hpl
          show tSeq _ _ _ [some (.ref l), some (.int (b : Int)), some (.ref pf), some (.ref pw2), some (.str (bt c)), some (.ref li), some (.ref pl), u7, none] B6
          refine q_asgLR (lcLR (K := K) (r := rpSg) (r' := rpSg) (fun a => inn (c1 c) a.2) (fun a => a) (by walk_at "ev") (sq_of (b6.k (b5.k hzs4))) (pr_0 (pr_mono (b5.trans b6) hpz4)) (by omega) (fun _ => rfl) ?_ ?_) ?_
          · rintro x a G F eG hm hx
            exact et_is (et_test (ev_op (hsgn _ _ G x a F ((b5.trans b6).trans eG) hm hx) ev_c (rv_eq rfl))) (nxs_dec hlt (hinn a hm))
          · rintro x a G F eG _ hm hx _
            exact ee_var (by walk_at "ev") hx
          rintro ph B7 hph b7 hL7
          rw [List.map_id', insd_half1 ps hlt] at hL7
          obtain ⟨y7, hy7, hpy7⟩ := hL7
          have hphf : ph ≠ pf := fun z => by rw [z, b6.k hf5] at hph; cases hph
          have x7 := (b5.trans b6).trans b7
          show tAsg _ _ _ [some (.ref l), some (.int (b : Int)), some (.ref pf), some (.ref pw2), some (.str (bt c)), some (.ref li), some (.ref pl), some (.ref ph), none] B7
          have hWl : W.length ≤ 1000 := by
            have h1 := congrArg List.length hcan'
            have h2 : (canon b ps).length ≤ 256 := cano_len b ps 8 (0, 0)
            have h3 := flat_ge (fun c => cano b ps (8 - c.1) c) (fun c => cano_pos b ps _ c) W
            rw [List.length_append, List.length_append] at h1
            omega
          have h4 : Ev (tVar 4) [some (.ref l), some (.int (b : Int)), some (.ref pf), some (.ref pw2), some (.str (bt c)), some (.ref li), some (.ref pl), some (.ref ph), none] B7 (.str (bt c)) := by walk_at "ev"
          have h6 : Ev (tVar 6) [some (.ref l), some (.int (b : Int)), some (.ref pf), some (.ref pw2), some (.str (bt c)), some (.ref li), some (.ref pl), some (.ref ph), none] B7 (.ref pl) := by walk_at "ev"
          have h7 : Ev (tVar 7) [some (.ref l), some (.int (b : Int)), some (.ref pf), some (.ref pw2), some (.str (bt c)), some (.ref li), some (.ref pl), some (.ref ph), none] B7 (.ref ph) := by walk_at "ev"
          have h3 : Ev (tVar 3) [some (.ref l), some (.int (b : Int)), some (.ref pf), some (.ref pw2), some (.str (bt c)), some (.ref li), some (.ref pl), some (.ref ph), none] B7 (.ref pw2) := by walk_at "ev"
          have hE0 : EvE rpWt (F1 pf) (tTup (tCons (tOp rAddS (tVar 4) (tC (.str "0"))) (tCons (tVar 6) tNil))) [some (.ref l), some (.int (b : Int)), some (.ref pf), some (.ref pw2), some (.str (bt c)), some (.ref li), some (.ref pl), some (.ref ph), none] B7 (c0 c, insd ps (c0 c)) :=
            ee_P (r := rpC) (r' := rpL rpSg) (ee_var (v := .str (bt (c0 c))) (ev_b0 h4 (by omega)) rfl) (ee_var (v := .ref pl) h6 ⟨pl, y6, rfl, hplf, b7.k hy6, prSg_any (pr_mono b7 hpy6)⟩)
          have hE1 : EvE rpWt (F1 pf) (tTup (tCons (tOp rAddS (tVar 4) (tC (.str "1"))) (tCons (tVar 7) tNil))) [some (.ref l), some (.int (b : Int)), some (.ref pf), some (.ref pw2), some (.str (bt c)), some (.ref li), some (.ref pl), some (.ref ph), none] B7 (c1 c, insd ps (c1 c)) :=
            ee_P (r := rpC) (r' := rpL rpSg) (ee_var (v := .str (bt (c1 c))) (ev_b1 h4 (by omega)) rfl) (ee_var (v := .ref ph) h7 ⟨ph, y7, rfl, hphf, hy7, prSg_any hpy7⟩)
          have hcatE := ev_catF (el_twoF hE0 hE1) h3 (x7.k hw4) (pr_mono x7 hpw4) (by rw [List.length_map]; show 2 + W.length ≤ 100000; omega)
          refine s_asgG hcatE ?_
          rintro v B8 b8 ⟨pw3, ws3, rfl, hpw3, hw8, hpw8⟩
          have x8 := x7.trans b8
          refine ⟨wms (c0 c :: c1 c :: W), wms_two hlt W, Fl, c0 c :: c1 c :: W, ws3, pw3, _, _, _, _, rfl, ?_, ?_, e4.trans x8, x8.k hf4, hw8, hpw8, ?_, rfl⟩
          · rw [List.flatMap_cons, List.flatMap_cons, ← List.append_assoc (cano b ps _ (c0 c)), ← hcn]
            exact hcan'
          · intro d hd
            rcases List.mem_cons.mp hd with rfl | hd
            · exact hlt
            · rcases List.mem_cons.mp hd with rfl | hd
              · exact hlt
              · exact hW8 d (List.mem_cons_of_mem _ hd)
          · exact fun z => by rw [z, x7.k hf4] at hpw3; cases hpw3
      · have hWn : W = [] := by
          rcases W with _ | ⟨c, t⟩
          · rfl
          · cases hb'
        subst hWn
        rw [List.flatMap_nil, List.append_nil] at hcan
        show tRet _ _ [some (.ref l), some (.int (b : Int)), some (.ref pf), some (.ref pw), u4, u5, u6, u7, none] B1
        have hf1 := b1.k hf
        have hwr : wr b ps = S (TL.joinL [10] ((boundL ++ numZ b) :: Fl.map fun c => rowL c (thg ps c))) := by
          unfold wr textL linesL roomsT
          rw [List.map_map, ← hcan]
          rfl
        rw [hwr] at k
        have hFl : Fl.length ≤ 256 := by
          rw [hcan]
          exact cano_len b ps 8 (0, 0)
        refine s_retk (ev_join (K := K) (s := [10]) (ys := (boundL ++ numZ b) :: Fl.map fun c => rowL c (thg ps c)) (ev_litc (s := "\n") rfl) (Ev.g (v := .ref pf) (by walk_at "ev") fun A B a' b' => ⟨pf, rfl, (a'.trans b').k hf1⟩) ?_) (k.mono (e.trans b1))
        have hs := sum_le (n := 17200) (Fl.map fun c => rowL c (thg ps c)) fun x hx => by
          obtain ⟨c, hc, rfl⟩ := List.mem_map.mp hx
          have hcan8 : c ∈ canon b ps := by rw [← hcan]; exact hc
          exact rowL_len (cano_le8 b ps 8 (0, 0) (by decide) c hcan8) (hn.fil (inn c)) fun p hp => hv p (List.mem_filter.mp hp).1
        rw [List.map_cons, List.sum_cons, List.length_append, show boundL.length = 6 from rfl, List.length_cons, List.length_singleton]
        rw [List.length_map] at hs ⊢
        omega
end


/-! ### the law's own numbers -/
section
open SX
def hasD (a : List Nat) : Bool := a.all fun c => decide (48 ≤ c) && decide (c ≤ 57)
def figL (a : List Nat) : List Nat := if a.take 1 = [45] then a.drop 1 else a
def lawNum (a : List Nat) : Option Int := if figL a = [] ∨ 60 < (figL a).length ∨ ((figL a)[0]? = some 48 ∧ a ≠ [48]) then none else if hasD (figL a) then PySem.intText? (S a) else none
theorem hasD_all {a : List Nat} (h : hasD a = true) : PySem.NumText.AllDigits a := fun c hc => by
  have := List.all_eq_true.mp h c hc
  rw [Bool.and_eq_true, decide_eq_true_eq, decide_eq_true_eq] at this
  exact this
theorem lawNum_some {a : List Nat} (hc : ¬ (figL a = [] ∨ 60 < (figL a).length ∨ ((figL a)[0]? = some 48 ∧ a ≠ [48]))) (hd : hasD (figL a) = true) : a.length ≤ 61 ∧ ∃ i : Int, PySem.intText? (S a) = some i ∧ i.natAbs < 10 ^ 60 ∧ lawNum a = some i := by
  have e : lawNum a = PySem.intText? (S a) := by
    unfold lawNum
    rw [if_neg hc, if_pos hd]
  rw [e]
  have hne : figL a ≠ [] := fun z => hc (.inl z)
  have hl : (figL a).length ≤ 60 := by
    have : ¬ 60 < (figL a).length := fun z => hc (.inr (.inl z))
    omega
  have hal := hasD_all hd
  have hv := digitsVal_lt (figL a).length (figL a) rfl hal
  have hv2 : PySem.NumText.digitsVal (figL a) < 10 ^ 60 := Nat.lt_of_lt_of_le hv (Nat.pow_le_pow_right (by decide) hl)
  by_cases h : a.take 1 = [45]
  · have ef : figL a = a.drop 1 := by unfold figL; rw [if_pos h]
    have ea : a = 45 :: figL a := by
      have := List.take_append_drop 1 a
      rw [h] at this
      rw [ef]
      exact this.symm
    have hal2 : a.length = (figL a).length + 1 := congrArg List.length ea
    refine ⟨by omega, _, PySem.intText_neg (x := S a) (cs := figL a) ea hal hne (by rw [S_len]; omega), ?_, ?_⟩
    · omega
    · exact PySem.intText_neg (x := S a) (cs := figL a) ea hal hne (by rw [S_len]; omega)
  · have ef : figL a = a := by unfold figL; rw [if_neg h]
    rw [ef] at hl hal hne hv2
    refine ⟨by omega, _, PySem.intText_digits (x := S a) hal hne (by rw [S_len]; omega), ?_, PySem.intText_digits (x := S a) hal hne (by rw [S_len]; omega)⟩
    have e2 : (S a).cps.toList = a := rfl
    rw [e2]
    omega
theorem lawNum_lt {a : List Nat} {i : Int} (h : lawNum a = some i) : i.natAbs < 10 ^ 60 := by
  by_cases hc : figL a = [] ∨ 60 < (figL a).length ∨ ((figL a)[0]? = some 48 ∧ a ≠ [48])
  · unfold lawNum at h
    rw [if_pos hc] at h
    cases h
  · cases hd : hasD (figL a) with
    | true =>
      obtain ⟨_, j, _, h2, h3⟩ := lawNum_some hc hd
      rw [h] at h3
      cases h3
      exact h2
    | false =>
      unfold lawNum at h
      rw [if_neg hc, hd] at h
      cases h
theorem numL_head (n : Nat) : 0 < n → (TL.numL n)[0]? ≠ some 48 := by
  induction n using Nat.strongRecOn with
  | _ n ih =>
    intro h e
    by_cases h10 : n < 10
    · rw [TL.numL_lt h10] at e
      have : 48 + n = 48 := Option.some.inj e
      omega
    · rw [TL.numL_step (by omega), List.getElem?_append_left (List.length_pos_iff.mpr (TL.numL_ne _))] at e
      exact ih (n / 10) (by omega) (by omega) e
theorem hasD_num (n : Nat) : hasD (TL.numL n) = true := List.all_eq_true.mpr fun c hc => by
  have := TL.numL_digits n c hc
  rw [Bool.and_eq_true, decide_eq_true_eq, decide_eq_true_eq]
  exact this
theorem lawNum_numZ {i : Int} (h : i.natAbs < 10 ^ 60) : lawNum (numZ i) = some i := by
  have hi := int_numZ h
  have hl := TL.numL_len (n := i.natAbs) (k := 60) (by decide) h
  have hne := TL.numL_ne i.natAbs
  have hfig : figL (numZ i) = TL.numL i.natAbs ∧ ((TL.numL i.natAbs)[0]? = some 48 → numZ i = [48]) := by
    unfold numZ
    split
    · rename_i h0
      have hz : i.toNat = i.natAbs := by omega
      rw [hz]
      refine ⟨?_, fun e => ?_⟩
      · unfold figL
        rw [if_neg]
        intro e
        have : (45 : Nat) ∈ TL.numL i.natAbs := List.mem_of_mem_take (i := 1) (by rw [e]; exact List.mem_cons_self)
        exact TL.numL_free (by omega) this
      · rcases Nat.eq_zero_or_pos i.natAbs with z | z
        · rw [z, TL.numL_lt (by decide)]
        · exact absurd e (numL_head _ z)
    · rename_i h0
      refine ⟨rfl, fun e => absurd e (numL_head _ (by omega))⟩
  unfold lawNum
  rw [hfig.1, if_neg, if_pos (hasD_num _), hi]
  rintro (z | z | ⟨z1, z2⟩)
  · exact hne z
  · omega
  · exact z2 (hfig.2 z1)
end
section
open SX
variable {P : Program} {w : World} {K : PySem.W.Frag} {mg : Str → Option Value} {base : Heap} [TabCx]
def spNumL : Sp := fun vs H Q _ => ∃ a : List Nat, vs = [.str (S a)] ∧ Asc a ∧ a.length ≤ 30000 ∧ RetV (vOpt (lawNum a)) H Q
theorem spv_numL {a : List Nat} {H : Hp} (h : Asc a) (hl : a.length ≤ 30000) : SpV spNumL [.str (S a)] H (vOpt (lawNum a)) := fun A e Q q E => ⟨a, rfl, h, hl, q⟩
theorem cutS_from (a : List Nat) (j : Nat) : cutS (S a) (some (j : Int)) none = S (a.drop j) := by
  unfold cutS
  rw [HT.sIx_none, HT.sIx_nat, S_len]
  show (⟨((a.drop (min j a.length)).take (a.length - min j a.length)).toArray⟩ : Str) = ⟨(a.drop j).toArray⟩
  rcases Nat.le_total j a.length with h | h
  · rw [Nat.min_eq_left h, List.take_of_length_le (by rw [List.length_drop]; exact Nat.le_refl _)]
  · rw [Nat.min_eq_right h, List.drop_eq_nil_of_le h, List.drop_length, List.take_nil]
theorem cutS_to (a : List Nat) (j : Nat) : cutS (S a) none (some (j : Int)) = S (a.take j) := by
  unfold cutS
  rw [HT.sIx_none, HT.sIx_nat, S_len]
  show (⟨((a.drop 0).take (min j a.length - 0)).toArray⟩ : Str) = ⟨(a.take j).toArray⟩
  rw [List.drop_zero, Nat.sub_zero]
  rcases Nat.le_total j a.length with h | h
  · rw [Nat.min_eq_left h]
  · rw [Nat.min_eq_right h, List.take_length, List.take_of_length_le h]
theorem asc_take {a : List Nat} (h : Asc a) (n : Nat) : Asc (a.take n) := fun c hc => h c (List.mem_of_mem_take hc)
theorem asc_drop {a : List Nat} (h : Asc a) (n : Nat) : Asc (a.drop n) := fun c hc => h c (List.mem_of_mem_drop hc)
theorem asc_fig {a : List Nat} (h : Asc a) : Asc (figL a) := by
  unfold figL
  split
  · exact asc_drop h 1
  · exact h
theorem fig_len (a : List Nat) : (figL a).length ≤ a.length := by
  unfold figL
  split
  · rw [List.length_drop]
    omega
  · exact Nat.le_refl _
theorem dig_in : ∀ c, c < 128 → (!(!(Builtin.Str.occurrences (Str.ofString "0123456789") ⟨#[c]⟩ 0 (Str.ofString "0123456789").length 1).isEmpty)) = !(decide (48 ≤ c) && decide (c ≤ 57)) := by decide +kernel
theorem str_dec {a b : List Nat} : decide (V.str (S a) = V.str (S b)) = decide (a = b) := by
  by_cases h : a = b
  · rw [h, decide_eq_true rfl, decide_eq_true rfl]
  · rw [decide_eq_false h, decide_eq_false]
    intro z
    exact h (congrArg (fun s : Str => s.cps.toList) (V.str.inj z))
theorem ok_l_number (T : Top K mg) : FnOk P w K mg base CX0 1 T.a_l_number T.fd_l_number ["_law_word"] spNumL := by
  refine T.F_l_number.ok sc_l_number (fun vs H Q E h => ?_) (fun cdv A outer s H vs Q E hr h => ?_)
  · obtain ⟨a, rfl, _⟩ := h
    rfl
  · obtain ⟨a, rfl, ha, hl, k⟩ := h
    refine ⟨_, (pss_cons (ps_set (i := 1) sc_l_number.nd rfl (Or.inl rfl) (pe_slice sl_str (pv 0) (po_some (pe_callTy call_int1 (by rfl) T.z_int (by decide +kernel) (pa_cons (pe_cmpR op_eq (pe_slice sl_str (pv 0) po_none (po_some pe_int)) pe_str (nomark _)) pa_nil))) po_none))
      (pss_cons (ps_if (PW.pt (pw_or (pt_cmpR op_eq (pv 1) pe_str (nomark _)) (pw_or (pt_cmpR op_gt (pe_callB call_len_str (by rfl) T.z_len (by decide +kernel) (pa_cons (pv 1) pa_nil)) pe_int (nomark _)) (pw_or1 (PW.pt (pw_and (pt_cmpR op_eq (pe_ix ix_str (pv 1) pe_int (fun _ _ => rfl)) pe_str (nomark _)) (pw_and1 (pt_cmpR op_ne (pv 0) pe_str (nomark _))))))))) (pss_one (ps_ret pe_non)) pss_nil)
      (pss_cons (ps_for PassesOwn.never rfl (pi_str (pv 1)) (pg_name (i := 2) sc_l_number.nd rfl (Or.inl rfl)) (pss_one (ps_if (pt_cmpR op_notin_str (pv 2) pe_str (by rfl)) (pss_one (ps_ret pe_non)) pss_nil)))
      (pss_one (ps_ret (pe_callTy call_int_str (by rfl) T.z_int (by decide +kernel) (pa_cons (pv 0) pa_nil))))))), ?_⟩
    have hfig : S (a.drop (if decide (a.take 1 = [45]) = true then 1 else 0)) = S (figL a) := by
      unfold figL
      by_cases h : a.take 1 = [45]
      · rw [if_pos h, if_pos (decide_eq_true h)]
      · rw [if_neg h, if_neg (by rw [decide_eq_false h]; decide), List.drop_zero]
    have hfa := asc_fig ha
    have hfl := fig_len a
    have hlo : Ev (tCB (fun vs H Q => (∃ i, vs = [V.int i] ∧ Q (.int i) H) ∨ ∃ k, vs = [V.bl k] ∧ Q (.int (if k then 1 else 0)) H) (tCons (tOp rEq (tSl rSlS (tVar 0) tNoPart (tPart (tC (.int 1)))) (tC (.str (Str.ofString "-")))) tNil)) [some (.str (S a)), none, none] H (.int ((if decide (a.take 1 = [45]) = true then 1 else 0 : Nat) : Int)) := by
      refine ev_is (ev_cb (ea_cons (ev_is (ev_op (x := .str (S (a.take 1))) (y := .str (S [45])) (ev_is (ev_slS (s := S a) (lo := none) (hi := some ((1 : Nat) : Int)) (ev_var rfl) eo_none (eo_some (i := ((1 : Nat) : Int)) ev_c) (by rw [S_len]; omega)) (congrArg V.str (cutS_to a 1))) (ev_litc (s := "-") rfl) (rv_eq rfl)) (congrArg V.bl str_dec)) ea_nil) rc_intB1) (congrArg V.int ?_)
      split <;> rfl
    refine q_asg (v := .str (S (figL a))) (ev_is (ev_slS (s := S a) (hi := none) (ev_var rfl) (eo_some hlo) eo_none (by rw [S_len]; omega)) (congrArg V.str ((cutS_from a _).trans hfig))) fun H1 e1 => ?_
    show tSeq _ _ _ [some (.str (S a)), some (.str (S (figL a))), none] H1
    refine q_when (b := decide (figL a = []) || (decide ((60 : Int) < ((figL a).length : Int)) || (decide ((figL a)[0]? = some 48) && !decide (a = [48])))) (et_or (et_is (et_test (ev_op (x := .str (S (figL a))) (y := .str (S [])) (ev_var rfl) (ev_litc (s := "") rfl) (rv_eq rfl))) str_dec) fun hz => et_or (et_test (ev_op (ev_lenS (ev_var rfl) (by omega)) ev_c rv_I0)) fun _ => et_and ?_ fun _ => et_is (et_test (ev_op (x := .str (S a)) (y := .str (S [48])) (ev_var rfl) (ev_litc (s := "0") rfl) (rv_ne rfl))) (by rw [str_dec])) (fun hb B b => ?_) fun hb B b => ?_
    · have hne : figL a ≠ [] := of_decide_eq_false hz
      rcases hf : figL a with _ | ⟨c, r⟩
      · exact absurd hf hne
      · refine et_is (et_test (ev_op (x := .str (S [c])) (y := .str (S [48])) (ev_op (x := .str (S (c :: r))) (y := .int 0) (by rw [← hf]; exact ev_var rfl) ev_c (rv_ixS (by rw [S_len, ← hf]; omega) (atI_nat (j := 0) rfl))) (ev_litc (s := "0") rfl) (rv_eq rfl))) ?_
        rw [str_dec]
        refine decide_eq_decide.mpr ⟨fun z => ?_, fun z => ?_⟩
        · rw [(List.cons.inj z).1]
          rfl
        · rw [show c = 48 from Option.some.inj z]
    · have hnone : lawNum a = none := by
        unfold lawNum
        rw [if_pos]
        rw [Bool.or_eq_true, Bool.or_eq_true, Bool.and_eq_true, decide_eq_true_eq, decide_eq_true_eq, decide_eq_true_eq] at hb
        rcases hb with z | z | ⟨z1, z2⟩
        · exact .inl z
        · exact .inr (.inl (by omega))
        · refine .inr (.inr ⟨z1, fun y => ?_⟩)
          rw [y] at z2
          cases z2
      rw [hnone] at k
      exact s_retk (v := .non) ev_c (k.mono (e1.trans b))
    · have hc : ¬ (figL a = [] ∨ 60 < (figL a).length ∨ ((figL a)[0]? = some 48 ∧ a ≠ [48])) := by
        rintro (z | z | ⟨z1, z2⟩)
        · rw [decide_eq_true z] at hb
          cases hb
        · rw [decide_eq_true (show (60 : Int) < ((figL a).length : Int) by omega), Bool.true_or, Bool.or_true] at hb
          cases hb
        · rw [decide_eq_true z1, decide_eq_false z2, Bool.not_false, Bool.and_true, Bool.or_true, Bool.or_true] at hb
          cases hb
      have xB := e1.trans b
      show tSeq _ _ _ [some (.str (S a)), some (.str (S (figL a))), none] B
      refine q_forS (s := S (figL a)) (ev_var rfl) (fun i σ' C => Ex H C ∧ (∀ c ∈ (figL a).take i, (decide (48 ≤ c) && decide (c ≤ 57)) = true) ∧ ∃ u, σ' = [some (.str (S a)), some (.str (S (figL a))), u]) (fun C c => ⟨xB.trans c, by simp, none, rfl⟩) ?_ ?_
      · rintro i c σ' C hi ⟨x, hd, u, rfl⟩
        have hci : (figL a)[i]? = some c := by
          rw [← hi, ← Array.getElem?_toList]
        have hcm : c ∈ figL a := List.mem_of_getElem? hci
        show tIfS _ _ _ _ [some (.str (S a)), some (.str (S (figL a))), some (.str ⟨#[c]⟩)] C
        refine s_when (b := !(decide (48 ≤ c) && decide (c ≤ 57))) (et_is (et_test (ev_op (x := .str ⟨#[c]⟩) (y := .str (Str.ofString "0123456789")) (ev_var rfl) ev_c fun A _ Q q => ⟨_, _, rfl, rfl, q A (.refl A)⟩)) (dig_in c (hfa c hcm))) (fun hb2 C2 c2 => ?_) fun hb2 C2 c2 => ?_
        · have hnone : lawNum a = none := by
            unfold lawNum
            rw [if_neg hc, if_neg]
            intro z
            have := List.all_eq_true.mp z c hcm
            rw [this] at hb2
            cases hb2
          rw [hnone] at k
          exact s_retk (v := .non) ev_c (k.mono (x.trans c2))
        · refine ⟨x.trans c2, fun d hdm => ?_, _, rfl⟩
          rw [take_snoc hci] at hdm
          rcases List.mem_append.mp hdm with z | z
          · exact hd d z
          · rw [List.mem_singleton.mp z]
            cases hz : (decide (48 ≤ c) && decide (c ≤ 57)) with
            | true => rfl
            | false =>
              rw [hz] at hb2
              cases hb2
      · rintro σ' C ⟨x, hd, u, rfl⟩
        have hsz : (S (figL a)).cps.size = (figL a).length := by
          show (figL a).toArray.size = _
          rw [List.size_toArray]
        rw [hsz, List.take_length] at hd
        obtain ⟨h61, n, h1, h2, h3⟩ := lawNum_some hc (List.all_eq_true.mpr hd)
        rw [h3] at k
        show tRet _ _ [some (.str (S a)), some (.str (S (figL a))), u] C
        exact s_retk (v := .int n) (ev_intS (ev_var rfl) (by omega) h1) (k.mono x)
end


/-! ### the law's own reading, as a function -/
section
open SX
def rdW (acc : List (Int × Int)) (w : List Nat) : Option (List (Int × Int)) :=
  match TL.spl [61] 0 [] w with
  | [x, y] => (match lawNum x, lawNum y with
    | some n, some v => if n < 0 ∨ 255 < n ∨ n ∈ acc.map (·.1) then none else some (acc ++ [(n, v)])
    | _, _ => none)
  | _ => none
def rdWs : List (Int × Int) → List (List Nat) → Option (List (Int × Int))
  | acc, [] => some acc
  | acc, w :: ws => (rdW acc w).bind fun acc => rdWs acc ws
def rdRows : List (Int × Int) → List (List Nat) → Option (List (Int × Int))
  | acc, [] => some acc
  | acc, r :: rs => (rdWs acc (TL.spl [32] 0 [] r).tail).bind fun acc => rdRows acc rs
structure AccOk (acc : List (Int × Int)) : Prop where
  rg : ∀ p ∈ acc, 0 ≤ p.1 ∧ p.1 < 256
  nd : acc.Pairwise fun a b => a.1 ≠ b.1
  vb : VB acc
theorem acc_nil : AccOk [] := ⟨by simp, .nil, by simp⟩
theorem AccOk.snoc {acc : List (Int × Int)} (h : AccOk acc) {n v : Int} (h1 : 0 ≤ n ∧ n < 256) (h2 : n ∉ acc.map (·.1)) (h3 : v.natAbs < 10 ^ 60) : AccOk (acc ++ [(n, v)]) := by
  refine ⟨fun p hp => ?_, List.pairwise_append.mpr ⟨h.nd, List.pairwise_singleton .., fun a ha b hb => ?_⟩, fun p hp => ?_⟩
  · rcases List.mem_append.mp hp with z | z
    · exact h.rg p z
    · rw [List.mem_singleton.mp z]
      exact h1
  · rw [List.mem_singleton.mp hb]
    exact fun z => h2 (List.mem_map.mpr ⟨a, ha, z⟩)
  · rcases List.mem_append.mp hp with z | z
    · exact h.vb p z
    · rw [List.mem_singleton.mp z]
      exact h3
theorem names_nil : Names ([] : List (Int × Int)) := ⟨.nil, by simp⟩
theorem AccOk.names {acc : List (Int × Int)} (h : AccOk acc) : Names (insAll [] acc) := insAll_names h.rg names_nil
theorem AccOk.perm {acc : List (Int × Int)} (h : AccOk acc) : (insAll [] acc).Perm acc := by
  have h1 : (insAll [] acc).Nodup := h.names.up.imp fun z e => by rw [e] at z; omega
  have h2 : acc.Nodup := h.nd.imp fun z e => z (by rw [e])
  refine (List.perm_ext_iff_of_nodup h1 h2).mpr fun q => ?_
  rw [mem_insAll h.rg h.nd names_nil (by simp)]
  simp
theorem AccOk.vbI {acc : List (Int × Int)} (h : AccOk acc) : VB (insAll [] acc) := fun p hp => h.vb p (h.perm.mem_iff.mp hp)
theorem AccOk.len {acc : List (Int × Int)} (h : AccOk acc) : acc.length ≤ 256 := by
  rw [← h.perm.length_eq]
  exact h.names.len
def lawRead (a : List Nat) : Option (Nat × List (Int × Int)) :=
  match TL.spl [10] 0 [] a with
  | [] => none
  | r0 :: rs => (match lawNum (r0.drop 6) with
    | none => none
    | some b => if r0.take 6 ≠ boundL ∨ b < 1 ∨ 64 < b then none else (rdRows [] rs).bind fun acc => if wr b.toNat (insAll [] acc) ≠ S a then none else some (b.toNat, insAll [] acc))
end


section
open SX
variable {P : Program} {w : World} {K : PySem.W.Frag} {mg : Str → Option Value} {base : Heap} [TabCx]
def spReadL : Sp := fun vs H Q _ => ∃ a : List Nat, vs = [.str (S a)] ∧ Asc a ∧ a.length ≤ 30000 ∧ (lawRead a = none → RetV .non H Q) ∧ ∀ b ps, lawRead a = some (b, ps) → ∀ (t l : Addr) (B : Hp), Ex H B → B t = some (.tup [.int (b : Int), .ref l]) → LR rpT B l ps → Q (.ref t) B
theorem q_forNM {xs : List V} {tl : TE} {g : TG} {tu tz : TS} {D : Ends} {σ : L2.St} {H : Hp} (h : EvG tl σ H (NewL xs)) (W : Addr → Nat → L2.St → Hp → Prop) (h0 : ∀ p B, H p = none → Ex H B → B p = some (.lst xs) → W p 0 σ B) (hl : ∀ p i σ' B, i ≤ xs.length → W p i σ' B → SqL K B p xs)
    (hs : ∀ p i x σ' B, xs[i]? = some x → W p i σ' B → g x σ' B fun σ2 C => tu { D with nx := W p (i + 1), ct := W p (i + 1), bk := tz D } σ2 C) (hd : ∀ p σ' B, W p xs.length σ' B → tz D σ' B) : tSeq (tFor (iList K tl) g tu) tz D σ H :=
  h H (.refl H) _ fun v B e ⟨p, ev, hn, hp⟩ => ⟨p, ev, ⟨xs, sq_of hp⟩, for_list (D := { D with nx := tz D }) (W p) (h0 p B hn e hp) (hl p) (hs p) (hd p)⟩
theorem s_forNL {xs : List V} {tl : TE} {g : TG} {tu : TS} {D : Ends} {σ : L2.St} {H : Hp} (h : EvG tl σ H (NewL xs)) (W : Addr → Nat → L2.St → Hp → Prop) (h0 : ∀ p B, H p = none → Ex H B → B p = some (.lst xs) → W p 0 σ B) (hl : ∀ p i σ' B, i ≤ xs.length → W p i σ' B → SqL K B p xs)
    (hs : ∀ p i x σ' B, xs[i]? = some x → W p i σ' B → g x σ' B fun σ2 C => tu { D with nx := W p (i + 1), ct := W p (i + 1), bk := D.nx } σ2 C) (hd : ∀ p σ' B, W p xs.length σ' B → D.nx σ' B) : tFor (iList K tl) g tu D σ H :=
  h H (.refl H) _ fun v B e ⟨p, ev, hn, hp⟩ => ⟨p, ev, ⟨xs, sq_of hp⟩, for_list (D := D) (W p) (h0 p B hn e hp) (hl p) (hs p) (hd p)⟩
theorem flat_ints (ns : List Int) : (ns.map V.int).all flatV = true := by
  rw [List.all_map]
  exact List.all_eq_true.mpr fun _ _ => rfl
theorem in_ints (n : Int) : ∀ ns : List Int, inV (.int n) (ns.map V.int) = decide (n ∈ ns)
  | [] => by simp [inV]
  | a :: t => by
    have ih := in_ints n t
    unfold inV at ih ⊢
    rw [List.map_cons, List.any_cons, ih]
    show ((a == n) || _) = _
    by_cases h : a = n
    · subst h
      simp
    · have h2 : ¬ n = a := fun z => h z.symm
      rw [beq_false_of_ne h, Bool.false_or]
      exact decide_eq_decide.mpr ⟨List.mem_cons_of_mem _, fun z => (List.mem_cons.mp z).elim (fun z => absurd z h2) id⟩
theorem at_str {ws : List (List Nat)} {i : Nat} {x : V} (h : ((ws.map S).map V.str)[i]? = some x) : ∃ w, ws[i]? = some w ∧ x = .str (S w) := by
  rw [List.getElem?_map, List.getElem?_map] at h
  rcases hr : ws[i]? with _ | r
  · rw [hr] at h
    cases h
  · rw [hr] at h
    exact ⟨r, rfl, (Option.some.inj h).symm⟩
theorem drop_at {α : Type} {l : List α} {i : Nat} {x : α} (h : l[i]? = some x) : l.drop i = x :: l.drop (i + 1) := by
  obtain ⟨hi, e⟩ := List.getElem?_eq_some_iff.mp h
  rw [List.drop_eq_getElem_cons hi, e]
theorem lawNum_int {a : List Nat} {i : Int} (h : lawNum a = some i) : a.length ≤ 61 ∧ PySem.intText? (S a) = some i := by
  by_cases hc : figL a = [] ∨ 60 < (figL a).length ∨ ((figL a)[0]? = some 48 ∧ a ≠ [48])
  · unfold lawNum at h
    rw [if_pos hc] at h
    cases h
  · cases hd : hasD (figL a) with
    | true =>
      obtain ⟨h1, j, h2, _, h3⟩ := lawNum_some hc hd
      rw [h] at h3
      cases h3
      exact ⟨h1, h2⟩
    | false =>
      unfold lawNum at h
      rw [if_neg hc, hd] at h
      cases h
set_option maxHeartbeats 1000000 in
theorem ok_l_read (T : Top K mg) : FnOk P w K mg base CX0 3 T.a_l_read T.fd_l_read ["_law_text_here"] spReadL := by
  refine T.F_l_read.ok sc_l_read (fun vs H Q E h => ?_) (fun cdv A outer s H vs Q E hr h => ?_)
  · obtain ⟨a, rfl, _⟩ := h
    rfl
  · obtain ⟨a, rfl, ha, hl, kn, ks⟩ := h
    refine ⟨_, (pss_cons (ps_set (i := 1) sc_l_read.nd rfl (Or.inl rfl) (pe_split (pv 0) pe_str))
      (pss_cons (ps_set (i := 2) sc_l_read.nd rfl (Or.inl rfl) (pe_call (ok_l_number T) (hr.mono (by decide)) rfl T.g_l_number T.F_l_number.kp T.b_l_number .nil pass0 (pa_cons (pe_slice sl_str (pe_ix (r := rIxL K) ix_list (pv 1) pe_int (fun _ _ => rfl)) (po_some pe_int) po_none) pa_nil)))
      (pss_cons (ps_if (PW.pt (pw_or (pt_cmpR op_ne (pe_slice sl_str (pe_ix (r := rIxL K) ix_list (pv 1) pe_int (fun _ _ => rfl)) po_none (po_some pe_int)) pe_str (nomark _)) (pw_or (pt_cmpR op_isN (pv 2) pe_non (nomark _)) (pw_or (pt_cmpR op_lt (pv 2) pe_int (nomark _)) (pw_or1 (pt_cmpR op_gt (pv 2) pe_int (nomark _))))))) (pss_one (ps_ret pe_non)) pss_nil)
      (pss_cons (ps_set (i := 3) sc_l_read.nd rfl (Or.inl rfl) (pe_lst pa_nil))
      (pss_cons (ps_for PassesOwn.never rfl (pi_list (pe_slice (r := rSlL K) sl_list (pv 1) (po_some pe_int) po_none)) (pg_name (i := 4) sc_l_read.nd rfl (Or.inl rfl)) (pss_one (ps_for PassesOwn.never rfl (pi_list (pe_slice (r := rSlL K) sl_list (pe_split (pv 4) pe_str) (po_some pe_int) po_none)) (pg_name (i := 5) sc_l_read.nd rfl (Or.inl rfl)) (pss_cons (ps_set (i := 6) sc_l_read.nd rfl (Or.inl rfl) (pe_split (pv 5) pe_str))
      (pss_cons (ps_if (PW.pt (pw_or (pt_cmpR op_ne (pe_callB (r := rLen K) call_len_seq (by rfl) T.z_len (by decide +kernel) (pa_cons (pv 6) pa_nil)) pe_int (nomark _)) (pw_or (pt_cmpR op_isN (pe_call (ok_l_number T) (hr.mono (by decide)) rfl T.g_l_number T.F_l_number.kp T.b_l_number .nil pass0 (pa_cons (pe_ix (r := rIxL K) ix_list (pv 6) pe_int (fun _ _ => rfl)) pa_nil)) pe_non (nomark _)) (pw_or1 (pt_cmpR op_isN (pe_call (ok_l_number T) (hr.mono (by decide)) rfl T.g_l_number T.F_l_number.kp T.b_l_number .nil pass0 (pa_cons (pe_ix (r := rIxL K) ix_list (pv 6) pe_int (fun _ _ => rfl)) pa_nil)) pe_non (nomark _)))))) (pss_one (ps_ret pe_non)) pss_nil)
      (pss_cons (ps_if (PW.pt (pw_or (pt_cmpR op_lt (pe_callTy call_int_str (by rfl) T.z_int (by decide +kernel) (pa_cons (pe_ix (r := rIxL K) ix_list (pv 6) pe_int (fun _ _ => rfl)) pa_nil)) pe_int (nomark _)) (pw_or (pt_cmpR op_gt (pe_callTy call_int_str (by rfl) T.z_int (by decide +kernel) (pa_cons (pe_ix (r := rIxL K) ix_list (pv 6) pe_int (fun _ _ => rfl)) pa_nil)) pe_int (nomark _)) (pw_or1 (pt_cmpR (r := rIn K false) op_in_seq (pe_callTy call_int_str (by rfl) T.z_int (by decide +kernel) (pa_cons (pe_ix (r := rIxL K) ix_list (pv 6) pe_int (fun _ _ => rfl)) pa_nil)) (pe_lc (own := [("_law_one", 7)]) (g := gName 7) (tt := tYes) rfl sc_l_read.nd (pi_list (pv 3)) (blkOk_by (N := n_l_read) (sc := defScope s_l_read) (by decide +kernel)) (fun _ _ _ _ _ => pg_name (i := 7) sc_l_read.nd rfl (Or.inl rfl)) (fun _ _ _ _ _ => by exact pts_nil) (fun _ _ _ _ _ => by exact (pe_ix (r := rIxT K) ix_tup (pv 7) pe_int (fun _ _ => rfl)))) (by rfl)))))) (pss_one (ps_ret pe_non)) pss_nil)
      (pss_one (ps_expr (pe_bm PySem.F.plainAttrs_list PySem.F.slot_list_append PySem.F.type_list_append mt_append (pv 3) (pa_cons (pe_tup (pa_cons (pe_callTy call_int_str (by rfl) T.z_int (by decide +kernel) (pa_cons (pe_ix (r := rIxL K) ix_list (pv 6) pe_int (fun _ _ => rfl)) pa_nil)) (pa_cons (pe_callTy call_int_str (by rfl) T.z_int (by decide +kernel) (pa_cons (pe_ix (r := rIxL K) ix_list (pv 6) pe_int (fun _ _ => rfl)) pa_nil)) pa_nil))) pa_nil))))))))))
      (pss_cons (ps_if (PW.pt (pw_or (pt_cmpR op_gt (pe_callB (r := rLen K) call_len_seq (by rfl) T.z_len (by decide +kernel) (pa_cons (pv 3) pa_nil)) pe_int (nomark _)) (pw_or1 (pt_cmpR op_ne (pe_call (ok_l_text T) (hr.mono (by decide)) rfl T.g_l_text T.F_l_text.kp T.b_l_text .nil pass0 (pa_cons (pv 3) (pa_cons (pv 2) pa_nil))) (pv 0) (nomark _))))) (pss_one (ps_ret pe_non)) pss_nil)
      (pss_one (ps_ret (pe_tup (pa_cons (pv 2) (pa_cons (pe_callB (cr_sortedPO) (by rfl) T.z_sorted (by decide +kernel) (pa_cons (pv 3) pa_nil)) pa_nil))))))))))), ?_⟩
    obtain ⟨r0, rs, hs, hw, hwl⟩ := spl_ok [10] ha hl
    have hsp : Txt.split (S a) (S [10]) = S r0 :: rs.map S := by
      rw [split_S (by decide) (by decide), hs]
      rfl
    have hr0 := hw r0 List.mem_cons_self
    have hrs := fun x hx => hw x (List.mem_cons_of_mem _ hx)
    have hlr : lawRead a = (match lawNum (r0.drop 6) with
      | none => none
      | some b => if r0.take 6 ≠ boundL ∨ b < 1 ∨ 64 < b then none else (rdRows [] rs).bind fun acc => if wr b.toNat (insAll [] acc) ≠ S a then none else some (b.toNat, insAll [] acc)) := by
      unfold lawRead
      rw [hs]
      all_goals rfl
    rw [hlr] at kn ks
    show tSeq _ _ _ [some (.str (S a)), none, none, none, none, none, none, none] H
    refine q_asgG (eg_split (a := a) (b := [10]) (ev_var rfl) (ev_litc (s := "\n") rfl) rfl (by omega) (ys := r0 :: rs) hsp) fun v H1 e1 ⟨p1, ev1, _, hp1⟩ => ?_
    subst ev1
    show tSeq _ _ _ [some (.str (S a)), some (.ref p1), none, none, none, none, none, none] H1
    have row0 : ∀ {σ : L2.St} {B : Hp}, Ex H1 B → σ[1]? = some (some (.ref p1)) → Ev (tOp (rIxL K) (tVar 1) (tC (.int 0))) σ B (.str (S r0)) := fun e h => ev_op (x := .ref p1) (y := .int 0) (ev_var h) ev_c (rv_ixL (sq_of (e.k hp1)) (atI_nat (j := 0) rfl))
    refine q_asg (v := vOpt (lawNum (r0.drop 6))) (ev_call (vs := [.str (S (r0.drop 6))]) (ea_cons (ev_is (ev_slS (s := S r0) (hi := none) (row0 (.refl H1) rfl) (eo_some (i := ((6 : Nat) : Int)) ev_c) eo_none (by rw [S_len]; omega)) (congrArg V.str (cutS_from r0 6))) ea_nil) (spv_numL (asc_drop hr0.1 6) (by rw [List.length_drop]; omega))) fun H2 e2 => ?_
    have x2 := e1.trans e2
    have hd6 : ∀ {σ : L2.St} {B : Hp}, Ex H1 B → σ[1]? = some (some (.ref p1)) → EvT (tTest (tOp rNe (tSl rSlS (tOp (rIxL K) (tVar 1) (tC (.int 0))) tNoPart (tPart (tC (.int 6)))) (tC (.str (Str.ofString "bound "))))) σ B (!decide (r0.take 6 = boundL)) := fun e h =>
      et_is (et_test (ev_op (x := .str (S (r0.take 6))) (y := .str (S boundL)) (ev_is (ev_slS (s := S r0) (lo := none) (row0 e h) eo_none (eo_some (i := ((6 : Nat) : Int)) ev_c) (by rw [S_len]; omega)) (congrArg V.str (cutS_to r0 6))) (ev_litc (s := "bound ") rfl) (rv_ne rfl))) (by rw [str_dec])
    rcases hb : lawNum (r0.drop 6) with _ | b
    · rw [hb] at kn
      show tSeq _ _ _ [some (.str (S a)), some (.ref p1), some .non, none, none, none, none, none] H2
      refine q_when (b := (!decide (r0.take 6 = boundL)) || (true || false)) (et_or (hd6 e2 rfl) fun _ => et_or (et_is (et_test (ev_op (x := .non) (y := .non) (ev_var rfl) ev_c rv_isN)) (decide_eq_true rfl)) fun h => nomatch h) (fun _ B b => s_retk (v := .non) ev_c ((kn rfl).mono (x2.trans b))) fun hb' => ?_
      rw [Bool.true_or, Bool.or_true] at hb'
      cases hb'
    rw [hb] at kn ks
    show tSeq _ _ _ [some (.str (S a)), some (.ref p1), some (.int b), none, none, none, none, none] H2
    refine q_when (b := (!decide (r0.take 6 = boundL)) || (false || (decide (b < 1) || decide (64 < b)))) (et_or (hd6 e2 rfl) fun _ => et_or (et_is (et_test (ev_op (x := .int b) (y := .non) (ev_var rfl) ev_c rv_isN)) (decide_eq_false (fun z => nomatch z))) fun _ => et_or (et_test (ev_op (x := .int b) (y := .int 1) (ev_var rfl) ev_c rv_I0)) fun _ => et_test (ev_op (x := .int b) (y := .int 64) (ev_var rfl) ev_c rv_I0)) (fun hb' B c => s_retk (v := .non) ev_c (RetV.mono (x2.trans c) (kn ?_))) fun hb' H3 e3 => ?_
    · rw [Bool.false_or, Bool.or_eq_true, Bool.or_eq_true, decide_eq_true_eq, decide_eq_true_eq] at hb'
      have hc : r0.take 6 ≠ boundL ∨ b < 1 ∨ 64 < b := by
        rcases hb' with z | z
        · left
          intro y
          rw [decide_eq_true y] at z
          cases z
        · exact .inr z
      show (if _ then _ else _) = _
      rw [if_pos hc]
    have hc : ¬ (r0.take 6 ≠ boundL ∨ b < 1 ∨ 64 < b) := by
      rw [Bool.false_or, Bool.or_eq_false_iff, Bool.or_eq_false_iff, decide_eq_false_iff_not, decide_eq_false_iff_not] at hb'
      rintro (z | z | z)
      · have := hb'.1
        rw [decide_eq_false z] at this
        cases this
      · exact hb'.2.1 z
      · exact hb'.2.2 z
    have kn : ((rdRows [] rs).bind fun acc => if wr b.toNat (insAll [] acc) ≠ S a then none else some (b.toNat, insAll [] acc)) = none → RetV .non H Q := fun h => kn (by show (if _ then _ else _) = _; rw [if_neg hc]; exact h)
    have ks : ∀ b' ps, ((rdRows [] rs).bind fun acc => if wr b.toNat (insAll [] acc) ≠ S a then none else some (b.toNat, insAll [] acc)) = some (b', ps) → _ := fun b' ps h => ks b' ps (by show (if _ then _ else _) = _; rw [if_neg hc]; exact h)
    have hbr : 1 ≤ b ∧ b ≤ 64 := by
      have h1 : ¬ b < 1 := fun z => hc (.inr (.inl z))
      have h2 : ¬ 64 < b := fun z => hc (.inr (.inr z))
      omega
    obtain ⟨n, rfl⟩ := Int.eq_ofNat_of_zero_le (show 0 ≤ b by omega)
    rw [Int.toNat_natCast] at kn ks
    have x3 := x2.trans e3
    have x13 := e2.trans e3
    show tSeq _ _ _ [some (.str (S a)), some (.ref p1), some (.int (n : Int)), none, none, none, none, none] H3
    refine q_asgLR (r' := rpT) (bs := []) el_nil fun pl H4 hpl e4 ⟨ys4, hy4, hpy4⟩ => ?_
    have hpl0 : H pl = none := x3.dom pl hpl
    have x14 := x13.trans e4
    have x4 := x3.trans e4
    cases hpy4
    have hne1 : p1 ≠ pl := fun z => by rw [← z, x13.k hp1] at hpl; cases hpl
    show tSeq _ _ _ [some (.str (S a)), some (.ref p1), some (.int (n : Int)), some (.ref pl), none, none, none, none] H4
    refine q_forNM (K := K) (eg_tailV (ev_var rfl) (x14.k hp1) (eo_some (i := 1) ev_c)) (fun p i σ' B => ∃ (acc : List (Int × Int)) (ys : List V) (u4 u5 u6 : Option V), Ex H B ∧ B p = some (.lst ((rs.map S).map V.str)) ∧ p ≠ pl ∧ B pl = some (.lst ys) ∧ PRF rpT F0 B ys acc ∧ AccOk acc ∧ rdRows [] rs = rdRows acc (rs.drop i) ∧ σ' = [some (.str (S a)), some (.ref p1), some (.int (n : Int)), some (.ref pl), u4, u5, u6, none]) ?_ ?_ ?_ ?_
    · intro p B hpn e hp
      exact ⟨[], [], none, none, none, x4.trans e, hp, (fun z => by rw [z, hy4] at hpn; cases hpn), e.k hy4, .nil, acc_nil, by rw [List.drop_zero], rfl⟩
    · rintro p i σ' B hi ⟨_, _, _, _, _, _, hp, _⟩
      exact sq_of hp
    · rintro p i y σ' B hi ⟨acc, ys, u4, u5, u6, x, hp, hne, hy, hpy, hok, hrd, rfl⟩
      obtain ⟨r, hr, rfl⟩ := at_str hi
      have hrm := hrs r (List.mem_of_getElem? hr)
      rw [drop_at hr] at hrd
      obtain ⟨w0, ws, hs2, hw2, hwl2⟩ := spl_ok [32] hrm.1 hrm.2
      have hsp2 : Txt.split (S r) (S [32]) = S w0 :: ws.map S := by
        rw [split_S (by decide) (by decide), hs2]
        rfl
      have hrd : rdRows [] rs = (rdWs acc ws).bind fun acc => rdRows acc (rs.drop (i + 1)) := by
        rw [hrd]
        show (rdWs acc (TL.spl [32] 0 [] r).tail).bind _ = _
        rw [hs2]
        rfl
      show tFor _ _ _ _ [some (.str (S a)), some (.ref p1), some (.int (n : Int)), some (.ref pl), some (.str (S r)), u5, u6, none] B
      refine s_forNL (K := K) (eg_tail (K := K) (eg_split (a := r) (b := [32]) (ev_var rfl) (ev_litc (s := " ") rfl) rfl (by omega) (ys := w0 :: ws) hsp2) fun B _ => eo_some (i := 1) ev_c) (fun q j σ' C => ∃ (acc : List (Int × Int)) (ys : List V) (u5 u6 : Option V), Ex H C ∧ C p = some (.lst ((rs.map S).map V.str)) ∧ C q = some (.lst ((ws.map S).map V.str)) ∧ q ≠ pl ∧ C pl = some (.lst ys) ∧ PRF rpT F0 C ys acc ∧ AccOk acc ∧ (rdRows [] rs = (rdWs acc (ws.drop j)).bind fun acc => rdRows acc (rs.drop (i + 1))) ∧ σ' = [some (.str (S a)), some (.ref p1), some (.int (n : Int)), some (.ref pl), some (.str (S r)), u5, u6, none]) ?_ ?_ ?_ ?_
      · intro q C hqn c hq
        exact ⟨acc, ys, u5, u6, x.trans c, c.k hp, hq, (fun z => by rw [z, hy] at hqn; cases hqn), c.k hy, pr_mono c hpy, hok, by rw [List.drop_zero]; exact hrd, rfl⟩
      · rintro q j σ' C hj ⟨_, _, _, _, _, _, hq, _⟩
        exact sq_of hq
      · rintro q j y σ' C hj ⟨acc, ys, u5, u6, x, hp, hq, hqne, hy, hpy, hok, hrd, rfl⟩
        obtain ⟨wd, hwd, rfl⟩ := at_str hj
        have hwm := hw2 wd (List.mem_cons_of_mem _ (List.mem_of_getElem? hwd))
        rw [drop_at hwd] at hrd
        have hrd : rdRows [] rs = ((rdW acc wd).bind fun acc => rdWs acc (ws.drop (j + 1))).bind fun acc => rdRows acc (rs.drop (i + 1)) := hrd
        have bad : rdW acc wd = none → RetV .non H Q := fun z => kn (by rw [hrd, z]; rfl)
        obtain ⟨x0, xs, hs3, hw3, hwl3⟩ := spl_ok [61] hwm.1 hwm.2
        have hsp3 : Txt.split (S wd) (S [61]) = S x0 :: xs.map S := by
          rw [split_S (by decide) (by decide), hs3]
          rfl
        show tSeq _ _ _ [some (.str (S a)), some (.ref p1), some (.int (n : Int)), some (.ref pl), some (.str (S r)), some (.str (S wd)), u6, none] C
        refine q_asgG (eg_split (a := wd) (b := [61]) (ev_var rfl) (ev_litc (s := "=") rfl) rfl (by omega) (ys := x0 :: xs) hsp3) fun v C1 c1 ⟨p6, ev6, hp6n, hp6⟩ => ?_
        subst ev6
        have hne6 : p6 ≠ pl := fun z => by rw [z, hy] at hp6n; cases hp6n
        have xC1 := x.trans c1
        show tSeq _ _ _ [some (.str (S a)), some (.ref p1), some (.int (n : Int)), some (.ref pl), some (.str (S r)), some (.str (S wd)), some (.ref p6), none] C1
        have w3 : ∀ z ∈ x0 :: xs, Asc z ∧ z.length ≤ 30000 := hw3
        have at6 : ∀ {σ : L2.St} {B : Hp} (k : Nat) (z : List Nat), Ex C1 B → σ[6]? = some (some (.ref p6)) → (x0 :: xs)[k]? = some z → Ev (tOp (rIxL K) (tVar 6) (tC (.int (k : Int)))) σ B (.str (S z)) := fun k z e h hz => ev_op (x := .ref p6) (y := .int (k : Int)) (ev_var h) ev_c (rv_ixL (sq_of (e.k hp6)) (atI_nat (by rw [List.getElem?_map, List.getElem?_map, hz]; rfl)))
        have nm : ∀ {σ : L2.St} {B : Hp} (k : Nat) (z : List Nat), Ex C1 B → σ[6]? = some (some (.ref p6)) → (x0 :: xs)[k]? = some z → EvT (tTest (tOp (fun x y H Q => y = .non ∧ Q (.bl (decide (x = .non))) H) (tCall spNumL [] E0 (tCons (tOp (rIxL K) (tVar 6) (tC (.int (k : Int)))) tNil)) (tC .non))) σ B (decide (lawNum z = none)) := fun {σ B} k z e h hz => by
          have hzm := w3 z (List.mem_of_getElem? hz)
          refine et_is (et_test (ev_op (x := vOpt (lawNum z)) (y := .non) (ev_call (ea_cons (at6 k z e h hz) ea_nil) (spv_numL hzm.1 hzm.2)) ev_c rv_isN)) ?_
          cases lawNum z with
          | none => rfl
          | some i => exact decide_eq_decide.mpr ⟨fun z => (nomatch z), fun z => (nomatch z)⟩
        have lenE : ∀ {σ : L2.St} {B : Hp}, Ex C1 B → σ[6]? = some (some (.ref p6)) → EvT (tTest (tOp rNe (tCB (rLen K) (tCons (tVar 6) tNil)) (tC (.int 2)))) σ B (!decide ((x0 :: xs).length = 2)) := fun e h => et_is (et_test (ev_op (ev_cb (ea_cons (ev_var h) ea_nil) (rc_len (sq_of (e.k hp6)))) ev_c (rv_ne rfl))) (by
          rw [List.length_map, List.length_map, decide_int]
          refine congrArg not (decide_eq_decide.mpr ?_)
          omega)
        by_cases h2 : (x0 :: xs).length = 2
        · obtain ⟨y0, rfl⟩ : ∃ y0, xs = [y0] := by
            rcases xs with _ | ⟨y0, _ | ⟨z0, xs⟩⟩
            · cases h2
            · exact ⟨y0, rfl⟩
            · rw [List.length_cons, List.length_cons, List.length_cons] at h2
              omega
          have hW : rdW acc wd = (match lawNum x0, lawNum y0 with
            | some n, some v => if n < 0 ∨ 255 < n ∨ n ∈ acc.map (·.1) then none else some (acc ++ [(n, v)])
            | _, _ => none) := by
            unfold rdW
            rw [hs3]
            all_goals rfl
          refine q_when (b := false || (decide (lawNum x0 = none) || decide (lawNum y0 = none))) (et_or (et_is (lenE (.refl C1) rfl) (by rw [decide_eq_true h2]; rfl)) fun _ => et_or (nm 0 x0 (.refl C1) rfl rfl) fun _ => nm 1 y0 (.refl C1) rfl rfl) (fun hb2 C2 c2 => s_retk (v := .non) ev_c (RetV.mono (xC1.trans c2) (bad ?_))) fun hb2 C2 c2 => ?_
          · rw [hW]
            rw [Bool.false_or, Bool.or_eq_true, decide_eq_true_eq, decide_eq_true_eq] at hb2
            rcases hb2 with z | z
            · rw [z]
            · rw [z]
              cases lawNum x0 <;> rfl
          rw [Bool.false_or, Bool.or_eq_false_iff, decide_eq_false_iff_not, decide_eq_false_iff_not] at hb2
          obtain ⟨n0, hn0⟩ := Option.ne_none_iff_exists'.mp hb2.1
          obtain ⟨v0, hv0⟩ := Option.ne_none_iff_exists'.mp hb2.2
          rw [hn0, hv0] at hW
          have hW : rdW acc wd = if n0 < 0 ∨ 255 < n0 ∨ n0 ∈ acc.map (·.1) then none else some (acc ++ [(n0, v0)]) := hW
          obtain ⟨l0, t0⟩ := lawNum_int hn0
          obtain ⟨l1, t1⟩ := lawNum_int hv0
          have i0 : ∀ {σ : L2.St} {B : Hp}, Ex C1 B → σ[6]? = some (some (.ref p6)) → Ev (tCB (fun xs H Q => ∃ a n, xs = [V.str a] ∧ PySem.intText? a = some n ∧ a.length ≤ 640 ∧ Q (V.int n) H) (tCons (tOp (rIxL K) (tVar 6) (tC (.int ((0 : Nat) : Int)))) tNil)) σ B (.int n0) := fun e h => ev_intS (at6 0 x0 e h rfl) (by omega) t0
          have i1 : ∀ {σ : L2.St} {B : Hp}, Ex C1 B → σ[6]? = some (some (.ref p6)) → Ev (tCB (fun xs H Q => ∃ a n, xs = [V.str a] ∧ PySem.intText? a = some n ∧ a.length ≤ 640 ∧ Q (V.int n) H) (tCons (tOp (rIxL K) (tVar 6) (tC (.int ((1 : Nat) : Int)))) tNil)) σ B (.int v0) := fun e h => ev_intS (at6 1 y0 e h rfl) (by omega) t1
          have hy2 := (c1.trans c2).k hy
          have hpy2 := pr_mono (c1.trans c2) hpy
          have hal := hok.len
          have hyl := hpy.length
          show tSeq _ _ _ [some (.str (S a)), some (.ref p1), some (.int (n : Int)), some (.ref pl), some (.str (S r)), some (.str (S wd)), some (.ref p6), none] C2
          have nmsE : EvLR rpInt (tLc (iList K (tVar 3)) (gName 7) tYes (tOp (rIxT K) (tVar 7) (tC (.int 0))) [7]) [some (.str (S a)), some (.ref p1), some (.int (n : Int)), some (.ref pl), some (.str (S r)), some (.str (S wd)), some (.ref p6), none] C2 ((acc.filter fun _ => true).map (·.1)) := by
            refine lcLR (K := K) (r := rpT) (r' := rpInt) (fun _ => true) (·.1) (ev_var rfl) (sq_of hy2) hpy2 (by omega) (fun _ => rfl) ?_ ?_
            · rintro x p H3 F e3 _ _
              exact fun H8 e8 Q' q' => q' H8 (.refl H8)
            · rintro x p H3 F e3 _ hm ⟨t, rfl, ht⟩ _
              exact ee_var (v := .int p.1) (ev_op (x := .ref t) (y := .int 0) (ev_var rfl) ev_c (rv_ixT (st_of ht) (atI_nat (j := 0) rfl))) rfl
          rw [List.filter_eq_self.mpr (fun _ _ => rfl)] at nmsE
          refine q_when (b := decide (n0 < 0) || (decide (255 < n0) || decide (n0 ∈ acc.map (·.1)))) (et_or (et_test (ev_op (x := .int n0) (y := .int 0) (i0 c2 rfl) ev_c rv_I0)) fun _ => et_or (et_test (ev_op (x := .int n0) (y := .int 255) (i0 c2 rfl) ev_c rv_I0)) fun _ => et_test (ev_opR (i0 c2 rfl) nmsE fun A1 w1 B1 _ _ ⟨q1, ew, _, zs, hz, hpz⟩ => ?_)) (fun hb3 C3 c3 => s_retk (v := .non) ev_c (RetV.mono ((xC1.trans c2).trans c3) (bad ?_))) fun hb3 C3 c3 => ?_
          · subst ew
            rw [pr_ints_eq hpz] at hz
            intro A2 a2 Q2 q2
            refine rv_in (neg := false) (.inl (sq_of hz)) rfl (flat_ints _) A2 a2 Q2 fun B2 b2 => ?_
            rw [if_neg (by decide), in_ints]
            exact q2 B2 b2
          · rw [Bool.or_eq_true, Bool.or_eq_true, decide_eq_true_eq, decide_eq_true_eq, decide_eq_true_eq] at hb3
            rw [hW, if_pos hb3]
          have hcn : ¬ (n0 < 0 ∨ 255 < n0 ∨ n0 ∈ acc.map (·.1)) := by
            rw [Bool.or_eq_false_iff, Bool.or_eq_false_iff, decide_eq_false_iff_not, decide_eq_false_iff_not, decide_eq_false_iff_not] at hb3
            rintro (z | z | z)
            · exact hb3.1 z
            · exact hb3.2.1 z
            · exact hb3.2.2 z
          rw [if_neg hcn] at hW
          have hy3 := c3.k hy2
          refine s_app (P := NewT [.int n0, .int v0]) hy3 (ev_var rfl) (eg_tup (ea_cons (i0 (c2.trans c3) rfl) (ea_cons (i1 (c2.trans c3) rfl) ea_nil)) (by show 2 ≤ 100000; decide)) (by omega) fun A1 v1 B1 a1 b1 ⟨t, ev, _, ht⟩ => ?_
          subst ev
          have x5 := ((c1.trans c2).trans c3).trans (a1.trans b1)
          have hy5 := x5.k hy
          have q0 : PRF rpT F0 B1 ys acc := pr_mono x5 hpy
          have q1 : PRF rpT (F1 pl) B1 ys acc := q0
          have ry : rpT.R (F1 pl) B1 (.ref t) (n0, v0) := ⟨t, rfl, ht⟩
          have q5 : PRF rpT (F1 pl) (upd B1 pl (.lst (ys ++ [.ref t]))) (ys ++ [.ref t]) (acc ++ [(n0, v0)]) := pr_lst (show F1 pl pl from rfl) hy5 (pr_app q1 (.cons ry .nil))
          have q6 : PRF rpT F0 (upd B1 pl (.lst (ys ++ [.ref t]))) (ys ++ [.ref t]) (acc ++ [(n0, v0)]) := q5
          refine ⟨acc ++ [(n0, v0)], ys ++ [.ref t], _, _, (x.trans x5).mut hpl0 hy5, by rw [upd_ne hne]; exact x5.k hp, by rw [upd_ne hqne]; exact x5.k hq, hqne, upd_same, q6, hok.snoc ?_ (fun z => hcn (.inr (.inr z))) (lawNum_lt hv0), ?_, rfl⟩
          · have h1 : ¬ n0 < 0 := fun z => hcn (.inl z)
            have h2 : ¬ 255 < n0 := fun z => hcn (.inr (.inl z))
            omega
          · rw [hrd, hW]
            rfl
        · refine q_when (b := true || false) (et_or (et_is (lenE (.refl C1) rfl) (by rw [decide_eq_false h2]; rfl)) fun z => nomatch z) (fun _ C2 c2 => s_retk (v := .non) ev_c (RetV.mono (xC1.trans c2) (bad ?_))) fun z => nomatch z
          unfold rdW
          rw [hs3]
          rcases xs with _ | ⟨y0, _ | ⟨z0, xs⟩⟩
          · rfl
          · exact absurd rfl h2
          · rfl
      · rintro q σ' C ⟨acc, ys, u5, u6, x, hp, hq, hqne, hy, hpy, hok, hrd, rfl⟩
        rw [List.length_map, List.length_map, List.drop_length] at hrd
        exact ⟨acc, ys, _, u5, u6, x, hp, hne, hy, hpy, hok, hrd, rfl⟩
    · rintro p σ' B ⟨acc, ys, u4, u5, u6, x, hp, hne, hy, hpy, hok, hrd, rfl⟩
      rw [List.length_map, List.length_map, List.drop_length] at hrd
      rw [hrd] at kn ks
      have hlen := hok.len
      have hyl := hpy.length
      show tSeq _ _ _ [some (.str (S a)), some (.ref p1), some (.int (n : Int)), some (.ref pl), u4, u5, u6, none] B
      refine q_when (b := decide ((256 : Int) < (ys.length : Int)) || (!decide (V.str (wr n (insAll [] acc)) = V.str (S a)))) (et_or (et_test (ev_op (ev_cb (ea_cons (ev_var rfl) ea_nil) (rc_len (sq_of hy))) ev_c rv_I0)) fun _ => et_test (ev_op (ev_call (vs := [.ref pl, .int (n : Int)]) (ea_cons (ev_var rfl) (ea_cons (ev_var rfl) ea_nil)) (spv_textL ⟨ys, hy, hpy⟩ hok.perm hok.names hok.vbI (by omega))) (ev_var rfl) (rv_ne rfl))) (fun hb2 C c => s_retk (v := .non) ev_c (RetV.mono (x.trans c) (kn ?_))) fun hb2 C c => ?_
      · rw [decide_eq_false (by omega), Bool.false_or] at hb2
        show (if _ then _ else _) = _
        rw [if_pos]
        intro z
        rw [z, decide_eq_true rfl] at hb2
        cases hb2
      · rw [decide_eq_false (by omega), Bool.false_or] at hb2
        have hwr : wr n (insAll [] acc) = S a := by
          have : decide (V.str (wr n (insAll [] acc)) = V.str (S a)) = true := by
            cases hz : decide (V.str (wr n (insAll [] acc)) = V.str (S a)) with
            | true => rfl
            | false =>
              rw [hz] at hb2
              cases hb2
          exact V.str.inj (of_decide_eq_true this)
        have hk := ks n (insAll [] acc) (by show (if _ then _ else _) = _; rw [if_neg (fun z => z hwr)])
        show tRet _ _ [some (.str (S a)), some (.ref p1), some (.int (n : Int)), some (.ref pl), u4, u5, u6, none] C
        refine s_retG (P := fun _ v B2 => ∃ t l, v = .ref t ∧ B2 t = some (.tup [.int (n : Int), .ref l]) ∧ LR rpT B2 l (insAll [] acc)) (fun A2 a2 Q2 q2 => ⟨_, rfl, el_sortTV (K := K) (ev_var rfl) (show LR rpT C pl acc from ⟨ys, c.k hy, pr_mono c hpy⟩) A2 a2 _ fun v B2 b2 ⟨l, qs, ev, _, hl2, h1, h2⟩ => ⟨by show 2 ≤ sizeLine; decide, fun t ht => q2 _ _ (b2.trans (.new ht)) ⟨t, l, rfl, by rw [upd_same, ev], ?_⟩⟩⟩) fun v B2 b2 ⟨t, l, ev, ht, hl2⟩ => ?_
        · rw [mem_perm_sorted hok.names.up h2 (h1.trans hok.perm.symm)] at hl2
          exact hl2.mono (.new ht)
        · subst ev
          exact hk t l B2 ((x.trans c).trans b2) ht hl2
end


/-! ### the law's reading of a text that is written -/
section
open SX
variable [TabCx]
theorem put_ex {b : Nat} (hb : 1 ≤ b) {ps : List (Int × Int)} {n : Int} : ∀ (f : Nat) (R : List Code) (D : Nat), PutS b R D ps n → 8 - (roomC R n).1 ≤ f → ∃ R' D', Good b R' D' ps
  | f, R, D, h, hf => by
    by_cases hc : cnt ps (roomC R n) ≤ b
    · exact ⟨R, D, h.done hc⟩
    · obtain ⟨h8, h2, h3⟩ := h.part hb (by omega)
      cases f with
      | zero => omega
      | succ f => exact put_ex hb f _ _ h2 (by omega)
theorem good_all {b : Nat} (hb : 1 ≤ b) : ∀ (L : List (Int × Int)) (R : List Code) (D : Nat) (ps : List (Int × Int)), (∀ p ∈ L, 0 ≤ p.1 ∧ p.1 < 256) → Good b R D ps → ∃ R' D', Good b R' D' (insAll ps L)
  | [], R, D, ps, _, h => ⟨R, D, h⟩
  | p :: L, R, D, ps, hr, h => by
    obtain ⟨R1, D1, h1⟩ := put_ex hb 8 _ _ (h.put p.2 (hr p List.mem_cons_self).1 (hr p List.mem_cons_self).2) (by omega)
    exact good_all hb L R1 D1 _ (fun q hq => hr q (List.mem_cons_of_mem _ hq)) h1
theorem good_ex {b : Nat} (hb : 1 ≤ b) {ps : List (Int × Int)} (hn : Names ps) : ∃ R D, Good b R D ps := by
  obtain ⟨R, D, h⟩ := good_all hb ps [(0, 0)] 0 [] hn.all good_nil
  rw [insAll_perm hn (List.Perm.refl ps)] at h
  exact ⟨R, D, h⟩
theorem rdW_word {acc : List (Int × Int)} {p : Int × Int} (h1 : 0 ≤ p.1 ∧ p.1 < 256) (h2 : p.2.natAbs < 10 ^ 60) (h3 : p.1 ∉ acc.map (fun p : Int × Int => p.1)) : rdW acc (word0 p) = some (acc ++ [p]) := by
  have hs : TL.spl [61] 0 [] (word0 p) = [numZ p.1, numZ p.2] := spl_join (c := 61) (sep := []) (parts := [numZ p.1, numZ p.2]) (List.cons_ne_nil _ _) (by
    intro x hx hm
    rcases List.mem_cons.mp hx with rfl | hx
    · exact numZ_free (by omega) hm
    · rw [List.mem_singleton.mp hx] at hm
      exact numZ_free (by omega) hm)
  have hn : lawNum (numZ p.1) = some p.1 := lawNum_numZ (Nat.lt_of_lt_of_le (show p.1.natAbs < 256 by omega) (Nat.le_of_ble_eq_true rfl))
  have hv : lawNum (numZ p.2) = some p.2 := lawNum_numZ h2
  unfold rdW
  rw [hs]
  show (match lawNum (numZ p.1), lawNum (numZ p.2) with
    | some n, some v => if n < 0 ∨ 255 < n ∨ n ∈ acc.map (fun p : Int × Int => p.1) then none else some (acc ++ [(n, v)])
    | _, _ => none) = _
  rw [hn, hv]
  show (if _ then _ else _) = _
  rw [if_neg]
  rintro (z | z | z)
  · omega
  · omega
  · exact h3 z
theorem rdWs_words : ∀ (qs acc : List (Int × Int)), (∀ p ∈ qs, 0 ≤ p.1 ∧ p.1 < 256) → VB qs → (acc ++ qs).Pairwise (fun a b : Int × Int => a.1 ≠ b.1) → rdWs acc (qs.map word0) = some (acc ++ qs)
  | [], acc, _, _, _ => by rw [List.append_nil]; rfl
  | p :: qs, acc, hr, hv, hd => by
    have hp : p.1 ∉ acc.map (fun p : Int × Int => p.1) := fun z => by
      obtain ⟨q, hq, e⟩ := List.mem_map.mp z
      exact (List.pairwise_append.mp hd).2.2 q hq p List.mem_cons_self e
    show (rdW acc (word0 p)).bind _ = _
    rw [rdW_word (hr p List.mem_cons_self) (hv p List.mem_cons_self) hp]
    show rdWs (acc ++ [p]) (qs.map word0) = _
    have e : acc ++ p :: qs = (acc ++ [p]) ++ qs := by rw [List.append_assoc]; rfl
    rw [e] at hd ⊢
    exact rdWs_words qs _ (fun q hq => hr q (List.mem_cons_of_mem _ hq)) (fun q hq => hv q (List.mem_cons_of_mem _ hq)) hd
theorem spl_row (c : Code) (qs : List (Int × Int)) : TL.spl [32] 0 [] (rowL c qs) = (bl c.1 c.2 ++ [58]) :: qs.map word0 := by
  rw [rowL_join]
  exact spl_join (c := 32) (sep := []) (parts := (bl c.1 c.2 ++ [58]) :: qs.map word0) (List.cons_ne_nil _ _) (by
    intro x hx hm
    rcases List.mem_cons.mp hx with rfl | hx
    · rcases List.mem_append.mp hm with e | e
      · exact bl_free (by omega) e
      · exact absurd e (by decide)
    · obtain ⟨p, _, rfl⟩ := List.mem_map.mp hx
      exact word0_free (by omega) hm)
theorem rdRows_rows : ∀ (rs : List (Code × List (Int × Int))) (acc : List (Int × Int)), (∀ p ∈ rs.flatMap (fun r : Code × List (Int × Int) => r.2), 0 ≤ p.1 ∧ p.1 < 256) → VB (rs.flatMap (fun r : Code × List (Int × Int) => r.2)) → (acc ++ rs.flatMap (fun r : Code × List (Int × Int) => r.2)).Pairwise (fun a b : Int × Int => a.1 ≠ b.1) → rdRows acc (rs.map fun r : Code × List (Int × Int) => rowL r.1 r.2) = some (acc ++ rs.flatMap (fun r : Code × List (Int × Int) => r.2))
  | [], acc, _, _, _ => by rw [List.flatMap_nil, List.append_nil]; rfl
  | r :: rs, acc, hr, hv, hd => by
    rw [List.flatMap_cons] at hr hv hd ⊢
    rw [← List.append_assoc] at hd ⊢
    show (rdWs acc (TL.spl [32] 0 [] (rowL r.1 r.2)).tail).bind _ = _
    rw [spl_row]
    show (rdWs acc (r.2.map word0)).bind _ = _
    rw [rdWs_words r.2 acc (fun q hq => hr q (List.mem_append_left _ hq)) (fun q hq => hv q (List.mem_append_left _ hq)) (List.pairwise_append.mp hd).1]
    exact rdRows_rows rs _ (fun q hq => hr q (List.mem_append_right _ hq)) (fun q hq => hv q (List.mem_append_right _ hq)) hd
theorem lawRead_wr {b : Nat} {R : List Code} {D : Nat} {ps : List (Int × Int)} (G : Good b R D ps) (hb : 1 ≤ b ∧ b ≤ 64) (hv : VB ps) {a : List Nat} (h : S a = wr b ps) : lawRead a = some (b, ps) := by
  have ha : a = textL b (roomsT b ps) := congrArg (fun s : Str => s.cps.toList) h
  have hfl : (roomsT b ps).flatMap (fun r : Code × List (Int × Int) => r.2) = (canon b ps).flatMap (thg ps) := by
    unfold roomsT
    rw [List.flatMap_map]
  have hpm : ((roomsT b ps).flatMap (fun r : Code × List (Int × Int) => r.2)).Perm ps := by
    rw [hfl]
    exact ((G.perm hb.1).symm.flatMap_right _).trans (flat_perm G.cov G.nd G.nm)
  have hs : TL.spl [10] 0 [] a = linesL b (roomsT b ps) := by
    rw [ha]
    exact spl_join (List.cons_ne_nil _ _) lines_free
  have hd6 : (boundL ++ numZ b).drop 6 = numZ b := rfl
  have ht6 : (boundL ++ numZ b).take 6 = boundL := rfl
  have hnb : lawNum (numZ (b : Int)) = some (b : Int) := lawNum_numZ (Nat.lt_of_le_of_lt (show (b : Int).natAbs ≤ 64 by omega) (Nat.le_of_ble_eq_true rfl))
  have hrd : rdRows [] ((roomsT b ps).map fun r : Code × List (Int × Int) => rowL r.1 r.2) = some ((roomsT b ps).flatMap (fun r : Code × List (Int × Int) => r.2)) := rdRows_rows _ [] (fun p hp => G.nm.all p (hpm.mem_iff.mp hp)) (fun p hp => hv p (hpm.mem_iff.mp hp)) ((hpm.pairwise_iff fun z => Ne.symm z).mpr (G.nm.up.imp fun z => by omega))
  have hall : insAll [] ((roomsT b ps).flatMap (fun r : Code × List (Int × Int) => r.2)) = ps := insAll_perm G.nm hpm
  unfold lawRead
  rw [hs]
  show (match lawNum ((boundL ++ numZ b).drop 6) with
    | none => none
    | some b' => if (boundL ++ numZ b).take 6 ≠ boundL ∨ b' < 1 ∨ 64 < b' then none else (rdRows [] ((roomsT b ps).map fun r : Code × List (Int × Int) => rowL r.1 r.2)).bind fun acc => if wr b'.toNat (insAll [] acc) ≠ S a then none else some (b'.toNat, insAll [] acc)) = _
  rw [hd6, ht6, hnb, hrd]
  show (if _ then _ else if wr (b : Int).toNat (insAll [] ((roomsT b ps).flatMap (fun r : Code × List (Int × Int) => r.2))) ≠ S a then _ else some ((b : Int).toNat, insAll [] ((roomsT b ps).flatMap (fun r : Code × List (Int × Int) => r.2)))) = _
  rw [hall, Int.toNat_natCast, if_neg, if_neg]
  · exact fun z => z h.symm
  · rintro (z | z | z)
    · exact z rfl
    · omega
    · omega
theorem rdW_ok {acc acc' : List (Int × Int)} {w : List Nat} (h : AccOk acc) (e : rdW acc w = some acc') : AccOk acc' := by
  unfold rdW at e
  split at e
  · split at e
    · next n v hn hv =>
      split at e
      · cases e
      · next hc =>
        cases e
        refine h.snoc ⟨?_, ?_⟩ (fun z => hc (.inr (.inr z))) (lawNum_lt hv)
        · rcases Int.lt_or_le n 0 with z | z
          · exact absurd (.inl z) hc
          · exact z
        · rcases Int.lt_or_le 255 n with z | z
          · exact absurd (.inr (.inl z)) hc
          · omega
    · cases e
  · cases e
theorem rdWs_ok : ∀ {ws : List (List Nat)} {acc acc' : List (Int × Int)}, AccOk acc → rdWs acc ws = some acc' → AccOk acc'
  | [], acc, acc', h, e => Option.some.inj e ▸ h
  | w :: ws, acc, acc', h, e => by
    obtain ⟨x, h1, h2⟩ := Option.bind_eq_some_iff.mp e
    exact rdWs_ok (rdW_ok h h1) h2
theorem rdRows_ok : ∀ {rs : List (List Nat)} {acc acc' : List (Int × Int)}, AccOk acc → rdRows acc rs = some acc' → AccOk acc'
  | [], acc, acc', h, e => Option.some.inj e ▸ h
  | r :: rs, acc, acc', h, e => by
    obtain ⟨x, h1, h2⟩ := Option.bind_eq_some_iff.mp e
    exact rdRows_ok (rdWs_ok h h1) h2
theorem lawRead_some {a : List Nat} {b : Nat} {ps : List (Int × Int)} (h : lawRead a = some (b, ps)) : S a = wr b ps ∧ (1 ≤ b ∧ b ≤ 64) ∧ VB ps ∧ Names ps := by
  unfold lawRead at h
  split at h
  · cases h
  · split at h
    · cases h
    · next i hi =>
      split at h
      · cases h
      · next hc =>
        obtain ⟨acc, h1, h2⟩ := Option.bind_eq_some_iff.mp h
        have hok := rdRows_ok acc_nil h1
        split at h2
        · cases h2
        · next hw =>
          cases h2
          refine ⟨(Classical.not_not.mp hw).symm, ?_, hok.vbI, hok.names⟩
          have e1 : ¬ i < 1 := fun z => hc (.inr (.inl z))
          have e2 : ¬ 64 < i := fun z => hc (.inr (.inr z))
          omega
theorem lawRead_none {a : List Nat} (h : lawRead a = none) : NotWr a := fun b R D ps G hb hv e => by
  rw [lawRead_wr G hb hv e] at h
  cases h
end


section
variable {X : L2.Cx}
def rMulS : L2.R2 := fun x y H Q => ∃ (c : Nat) (n : Int), x = .str ⟨#[c]⟩ ∧ y = .int n ∧ 2 ≤ n ∧ n ≤ 1000 ∧ Q (.str ⟨(List.replicate n.toNat c).toArray⟩) H
theorem rep_one (c : Nat) : ∀ (n : Nat) (acc : Array Nat), (List.replicate n #[c]).foldl (· ++ ·) acc = acc ++ (List.replicate n c).toArray
  | 0, acc => by simp
  | n + 1, acc => by
    rw [List.replicate_succ, List.foldl_cons, rep_one c n, List.replicate_succ]
    apply Array.ext'
    rw [Array.toList_append, Array.toList_append, Array.toList_append]
    simp
theorem op_mul_str : L2.OpR X (PySem.binaryOp .Mult) rMulS := by
  intro pins s σ H x y v u Q I rx ry h
  obtain ⟨c, n, rfl, rfl, h1, h2, q⟩ := h
  obtain ⟨t, rfl⟩ := rx
  obtain ⟨t', rfl⟩ := ry
  have hn1 : (n == 1 || (⟨#[c]⟩ : Str).length == 0) = false := by
    rw [Bool.or_eq_false_iff]
    exact ⟨beq_eq_false_iff_ne.mpr (by omega), rfl⟩
  have hlen : (⟨#[c]⟩ : Str).length = 1 := rfl
  refine PySem.P.mul_str (by rw [decide_eq_false (by omega), decide_eq_false (by omega)]; rfl) (fun _ _ => ?_) (fun _ _ => ?_) ?_
  · rw [hlen]
    have : (1 : Int) ≤ (2 ^ 63 - 1) / n := (Int.le_ediv_iff_mul_le (by omega)).mpr (by omega)
    omega
  · rw [hlen, Nat.one_mul]
    unfold PySem.Builtin.Str.tooLong
    rw [sizeLine_eq]
    exact decide_eq_false (by omega)
  · rw [if_neg (by omega), if_neg (by rw [hn1]; exact Bool.false_ne_true), rep_one c n.toNat #[], show (#[] ++ (List.replicate n.toNat c).toArray : Array Nat) = (List.replicate n.toNat c).toArray by simp]
    refine ⟨?_, ⟨.str ⟨(List.replicate n.toNat c).toArray⟩, H, I.tok _, ⟨_, rfl⟩, q⟩⟩
    show ((List.replicate n.toNat c).toArray).size ≤ _
    rw [sizeLine_eq]
    simp
    omega
end
section
open SX
variable {P : Program} {w : World} {K : PySem.W.Frag} {mg : Str → Option Value} {base : Heap} [TabCx]
def rpTx : Rp (List Nat) := ⟨fun _ _ v s => v = .str (S s), fun _ h => h, fun h _ => h, fun _ _ h => h⟩
theorem pr_tx {H : Hp} {F : Addr → Prop} : ∀ ss : List (List Nat), PRF rpTx F H ((ss.map S).map V.str) ss
  | [] => .nil
  | s :: ss => .cons rfl (pr_tx ss)
theorem prTx_eq {H : Hp} {F : Addr → Prop} : ∀ {xs : List V} {ss : List (List Nat)}, PRF rpTx F H xs ss → xs = (ss.map S).map V.str
  | _, _, .nil => rfl
  | _, _, .cons a t => by rw [show _ = V.str (S _) from a, prTx_eq t]; rfl
theorem lrTx {H : Hp} {p : Addr} {ss : List (List Nat)} (h : LR rpTx H p ss) : H p = some (.lst ((ss.map S).map V.str)) := by
  obtain ⟨xs, h1, h2⟩ := h
  rw [prTx_eq h2] at h1
  exact h1
theorem el_lits {ta : TA} {σ : L2.St} {H : Hp} (ys : List (List Nat)) (h : EvA ta σ H ((ys.map S).map V.str)) (hl : ys.length ≤ 100000) : EvLR rpTx (tLst ta) σ H ys := fun A a Q q =>
  eg_lst h (by rw [List.length_map, List.length_map]; exact hl) A a Q fun v B b ⟨p, ev, hn, hp⟩ => q v B b ⟨p, ev, hn, _, hp, pr_tx ys⟩
def tx (s : String) : List Nat := s.toList.map Char.toNat
theorem ev_tx {s : String} {σ : L2.St} {H : Hp} : Ev (tC (.str (Str.ofString s))) σ H (.str (S (tx s))) := ev_litc rfl
theorem ev_nines {σ : L2.St} {H : Hp} {te : TE} {n : Int} (h : Ev te σ H (.int n)) (h1 : 2 ≤ n ∧ n ≤ 1000) : Ev (tOp rMulS (tC (.str (Str.ofString "9"))) te) σ H (.str (S (List.replicate n.toNat 57))) :=
  ev_op (x := .str ⟨#[57]⟩) (y := .int n) (ev_is (ev_litc (s := "9") (l := [57]) rfl) rfl) h fun A e Q q => ⟨57, n, rfl, rfl, h1.1, h1.2, q A (.refl A)⟩
def odd1 : List (List Nat) := [tx "", tx "bound 1", tx "bound 1\n", tx "bound 1\n:", tx "bound 64\n: 0=0 255=-1", tx "bound 1\n:\n", tx " bound 1\n:"]
def odd2 : List (List Nat) := [tx "bound 1\n: 0=0 0=0", tx "bound 2\n: 1=2 0=3", tx "bound 65\n:", tx "bound 0\n:", tx "bound 01\n:", tx "Bound 1\n:"]
def odd3 : List (List Nat) := [tx "bound 3\n: 7=" ++ List.replicate 60 57, tx "bound 3\n: 7=" ++ List.replicate 61 57, tx "bound 3\n: 7=-0", tx "bound 3\n: 7=+1"]
def odd4 : List (List Nat) := [tx "bound 3\n: -" ++ tx "0=5"]
theorem odd_ok : ∀ a ∈ odd1 ++ odd2 ++ odd3 ++ odd4, a.length ≤ 100 ∧ ∀ c ∈ a, c < 128 := by decide +kernel
theorem mod_b (i : Int) {m : Int} (h : 0 < m) : 0 ≤ i % m ∧ i % m < m := ⟨Int.emod_nonneg _ (by omega), Int.emod_lt_of_pos _ h⟩
def spOddL : Sp := fun vs H Q _ => ∃ i : Int, vs = [.int i] ∧ ∀ a, Asc a → a.length ≤ 30000 → RetV (.str (S a)) H Q
set_option maxHeartbeats 1000000 in
theorem ok_l_odd (T : Top K mg) : FnOk P w K mg base CX0 1 T.a_l_odd T.fd_l_odd ["_law_cell"] spOddL := by
  refine T.F_l_odd.ok sc_l_odd (fun vs H Q E h => ?_) (fun cdv A outer s H vs Q E hr h => ?_)
  · obtain ⟨i, rfl, _⟩ := h
    rfl
  · obtain ⟨i, rfl, k⟩ := h
    refine ⟨_, (pss_cons (ps_set (i := 1) sc_l_odd.nd rfl (Or.inl rfl) (pe_lst (pa_cons pe_str (pa_cons pe_str (pa_cons pe_str (pa_cons pe_str (pa_cons pe_str (pa_cons pe_str (pa_cons pe_str pa_nil)))))))))
      (pss_cons (ps_set (i := 1) sc_l_odd.nd rfl (Or.inl rfl) (pe_op op_cat (pv 1) (pe_lst (pa_cons pe_str (pa_cons pe_str (pa_cons pe_str (pa_cons pe_str (pa_cons pe_str (pa_cons pe_str pa_nil)))))))))
      (pss_cons (ps_set (i := 1) sc_l_odd.nd rfl (Or.inl rfl) (pe_op op_cat (pv 1) (pe_lst (pa_cons (pe_op op_add_str pe_str (pe_op op_mul_str pe_str pe_int)) (pa_cons (pe_op op_add_str pe_str (pe_op op_mul_str pe_str pe_int)) (pa_cons pe_str (pa_cons pe_str pa_nil)))))))
      (pss_cons (ps_expr (pe_bm PySem.F.plainAttrs_list PySem.F.slot_list_append PySem.F.type_list_append mt_append (pv 1) (pa_cons (pe_op op_add_str pe_str pe_str) pa_nil)))
      (pss_one (ps_ret (pe_ix (r := rIxL K) ix_list (pv 1) (pe_op op_mod (pv 0) pe_int) (fun _ _ => rfl)))))))), ?_⟩
    refine q_asgLR (r' := rpTx) (el_lits odd1 (ea_cons ev_tx (ea_cons ev_tx (ea_cons ev_tx (ea_cons ev_tx (ea_cons ev_tx (ea_cons ev_tx (ea_cons ev_tx ea_nil))))))) (by decide)) fun p1 H1 n1 e1 L1 => ?_
    show tSeq _ _ _ [some (.int i), some (.ref p1)] H1
    refine q_asgLR (r' := rpTx) (ev_catVN (ev_var rfl) L1 (el_lits odd2 (ea_cons ev_tx (ea_cons ev_tx (ea_cons ev_tx (ea_cons ev_tx (ea_cons ev_tx (ea_cons ev_tx ea_nil)))))) (by decide)) (by decide)) fun p2 H2 n2 e2 L2 => ?_
    show tSeq _ _ _ [some (.int i), some (.ref p2)] H2
    refine q_asgLR (r' := rpTx) (ev_catVN (ev_var rfl) L2 (el_lits odd3 (ea_cons (ev_addB ev_tx (ev_nines ev_c (by decide)) (by decide +kernel)) (ea_cons (ev_addB ev_tx (ev_nines ev_c (by decide)) (by decide +kernel)) (ea_cons ev_tx (ea_cons ev_tx ea_nil)))) (by decide)) (by decide)) fun p3 H3 n3 e3 L3 => ?_
    show tSeq _ _ _ [some (.int i), some (.ref p3)] H3
    refine q_app (P := fun _ v _ => v = .str (S (tx "bound 3\n: -" ++ tx "0=5"))) (lrTx L3) (ev_var rfl) (Ev.g (ev_addB ev_tx ev_tx (by decide +kernel)) fun _ _ _ _ => rfl) (by decide) fun A1 v B1 a1 b1 ev => ?_
    subst ev
    show tRet _ _ [some (.int i), some (.ref p3)] _
    have hm := mod_b i (m := 18) (by decide)
    obtain ⟨j, hj⟩ : ∃ j : Nat, i % 18 = (j : Int) := Int.eq_ofNat_of_zero_le hm.1
    have hjl : j < (odd1 ++ odd2 ++ odd3 ++ odd4).length := by show j < 18; omega
    have hok := odd_ok _ (List.getElem_mem hjl)
    have x0 : Ex H (upd B1 p3 (.lst (((odd1 ++ odd2 ++ odd3).map S).map V.str ++ [.str (S (tx "bound 3\n: -" ++ tx "0=5"))]))) := ((e1.trans e2).trans (e3.trans (a1.trans b1))).mut ((e1.trans e2).dom p3 n3) ((a1.trans b1).k (lrTx L3))
    have hpx : (upd B1 p3 (.lst (((odd1 ++ odd2 ++ odd3).map S).map V.str ++ [.str (S (tx "bound 3\n: -" ++ tx "0=5"))]))) p3 = some (.lst (((odd1 ++ odd2 ++ odd3 ++ odd4).map S).map V.str)) := by
      rw [upd_same]
      rfl
    exact s_retk (v := .str (S ((odd1 ++ odd2 ++ odd3 ++ odd4)[j]))) (ev_op (x := .ref p3) (y := .int (j : Int)) (ev_var rfl) (ev_is (ev_op (x := .int i) (y := .int 18) (ev_var rfl) ev_c (rv_I (show (0 : Int) < 18 by decide))) (congrArg V.int hj)) (rv_ixL (sq_of hpx) (atI_nat (by rw [List.getElem?_map, List.getElem?_map, List.getElem?_eq_getElem hjl]; rfl)))) (RetV.mono x0 (k _ hok.2 (by omega)))
end


section
open SX
variable {P : Program} {w : World} {K : PySem.W.Frag} {mg : Str → Option Value} {base : Heap} [TabCx]
structure TxOk (n : Nat) (zs : List (List Nat)) : Prop where
  asc : ∀ x ∈ zs, Asc x
  len : (zs.map (·.length)).sum + zs.length ≤ n
theorem spl_tot (b : List Nat) : ∀ (a : List Nat) (k : Nat) (acc : List Nat), ((TL.spl b k acc a).map (·.length)).sum + (TL.spl b k acc a).length ≤ acc.length + a.length + 1
  | [], k, acc => by
    rw [TL.spl_nil]
    simp
  | x :: r, 0, acc => by
    unfold TL.spl
    rw [List.length_cons]
    split
    · have := spl_tot b r (b.length - 1) []
      rw [List.length_nil] at this
      rw [List.map_cons, List.sum_cons, List.length_cons]
      omega
    · have := spl_tot b r 0 (acc ++ [x])
      rw [List.length_append, List.length_singleton] at this
      omega
  | x :: r, k + 1, acc => by
    unfold TL.spl
    have := spl_tot b r k acc
    rw [List.length_cons]
    omega
theorem TxOk.sub {n : Nat} {zs ys : List (List Nat)} (h : TxOk n ys) (s : zs.Sublist ys) : TxOk n zs := by
  refine ⟨fun x hx => h.asc x (s.subset hx), Nat.le_trans ?_ h.len⟩
  clear h
  induction s with
  | slnil => exact Nat.le_refl _
  | cons a s ih =>
    rw [List.map_cons, List.sum_cons, List.length_cons]
    omega
  | cons_cons a s ih =>
    rw [List.map_cons, List.sum_cons, List.length_cons, List.map_cons, List.sum_cons, List.length_cons]
    omega
theorem TxOk.app {n m : Nat} {xs ys : List (List Nat)} (h : TxOk n xs) (g : TxOk m ys) : TxOk (n + m) (xs ++ ys) := by
  refine ⟨fun x hx => (List.mem_append.mp hx).elim (h.asc x) (g.asc x), ?_⟩
  have h1 := h.len
  have h2 := g.len
  rw [List.map_append, List.sum_append, List.length_append]
  omega
theorem TxOk.elt {n : Nat} {ys : List (List Nat)} (h : TxOk n ys) {x : List Nat} (hx : x ∈ ys) : x.length ≤ n := by
  have := (h.sub (List.singleton_sublist.mpr hx)).len
  simp at this
  omega
theorem TxOk.set : ∀ {ys : List (List Nat)} {n : Nat} (_ : TxOk n ys) {x : List Nat} (_ : Asc x) (i : Nat), TxOk (n + x.length) (ys.set i x)
  | [], n, h, x, hx, i => ⟨by simp, by simp⟩
  | y :: ys, n, h, x, hx, 0 => by
    have := h.len
    rw [List.map_cons, List.sum_cons, List.length_cons] at this
    refine ⟨fun z hz => ?_, ?_⟩
    · rcases List.mem_cons.mp hz with e | e
      · rw [e]
        exact hx
      · exact h.asc z (List.mem_cons_of_mem _ e)
    · show ((x :: ys).map (·.length)).sum + (x :: ys).length ≤ _
      rw [List.map_cons, List.sum_cons, List.length_cons]
      omega
  | y :: ys, n, h, x, hx, i + 1 => by
    have h0 := h.len
    rw [List.map_cons, List.sum_cons, List.length_cons] at h0
    have ih := TxOk.set (n := (ys.map (·.length)).sum + ys.length) (ys := ys) ⟨fun z hz => h.asc z (List.mem_cons_of_mem _ hz), Nat.le_refl _⟩ hx i
    have := ih.len
    refine ⟨fun z hz => ?_, ?_⟩
    · rcases List.mem_cons.mp hz with e | e
      · rw [e]
        exact h.asc y List.mem_cons_self
      · exact ih.asc z e
    · show ((y :: ys.set i x).map (·.length)).sum + (y :: ys.set i x).length ≤ _
      rw [List.map_cons, List.sum_cons, List.length_cons]
      omega
theorem asc_app {a b : List Nat} (ha : Asc a) (hb : Asc b) : Asc (a ++ b) := fun c hc => (List.mem_append.mp hc).elim (ha c) (hb c)
theorem TxOk.join : ∀ {zs : List (List Nat)} {n : Nat}, TxOk n zs → Asc (TL.joinL [10] zs) ∧ (TL.joinL [10] zs).length ≤ n
  | [], n, h => ⟨fun c hc => absurd hc List.not_mem_nil, Nat.zero_le _⟩
  | x :: xs, n, h => by
    rw [joinL_cons]
    have h0 := h.len
    rw [List.map_cons, List.sum_cons, List.length_cons] at h0
    have hs : ∀ ys : List (List Nat), (ys.flatMap fun y => [10] ++ y).length = (ys.map (·.length)).sum + ys.length := by
      intro ys
      induction ys with
      | nil => rfl
      | cons y ys ih =>
        rw [List.flatMap_cons, List.length_append, ih, List.map_cons, List.sum_cons, List.length_cons, List.length_append]
        show 1 + y.length + _ = _
        omega
    refine ⟨asc_app (h.asc x List.mem_cons_self) fun c hc => ?_, ?_⟩
    · obtain ⟨y, hy, e⟩ := List.mem_flatMap.mp hc
      rcases List.mem_cons.mp e with e | e
      · rw [e]
        decide
      · exact h.asc y (List.mem_cons_of_mem _ hy) c e
    · rw [List.length_append, hs]
      omega
theorem spl_tx {a : List Nat} (h : Asc a) : TxOk (a.length + 1) (TL.spl [10] 0 [] a) := ⟨fun x hx c hc => (spl_sub [10] a 0 [] x hx c hc).elim (fun z => absurd z List.not_mem_nil) (h c), by
  have := spl_tot [10] a 0 []
  rw [List.length_nil] at this
  omega⟩
def cutX {α : Type} (xs : List α) (lo hi : Option Int) : List α := (xs.drop (HT.sIx xs.length 0 lo)).take (HT.sIx xs.length xs.length hi - HT.sIx xs.length 0 lo)
theorem cutX_sub {α : Type} {xs : List α} {lo hi : Option Int} : (cutX xs lo hi).Sublist xs := (List.take_sublist _ _).trans (List.drop_sublist _ _)
theorem cutX_map {ys : List (List Nat)} {lo hi : Option Int} : cutV ((ys.map S).map V.str) lo hi = ((cutX ys lo hi).map S).map V.str := by
  unfold cutV cutX
  rw [List.length_map, List.length_map, ← List.map_drop, ← List.map_drop, ← List.map_take, ← List.map_take]
/-- a list of texts, told by a property -/
abbrev EvTx (te : TE) (σ : L2.St) (H : Hp) (n : Nat) : Prop := EvG te σ H (fun _ v B => ∃ q zs, v = .ref q ∧ B q = some (.lst ((zs.map S).map V.str)) ∧ TxOk n zs)
theorem etx_cut {te : TE} {tl th : TO} {σ : L2.St} {H : Hp} {p : Addr} {ys : List (List Nat)} {lo hi : Option Int} {n : Nat} (h : Ev te σ H (.ref p)) (hp : H p = some (.lst ((ys.map S).map V.str))) (h1 : EvO tl σ H lo) (h2 : EvO th σ H hi) (ok : TxOk n ys) : EvTx (tSl (rSlL K) te tl th) σ H n := fun A a Q q =>
  h A a _ fun B b => h1 B (a.trans b) _ fun C c => h2 C ((a.trans b).trans c) _ fun D d => by
    have x := ((a.trans b).trans c).trans d
    refine ⟨p, (ys.map S).map V.str, rfl, sq_of (x.k hp), fun l hnew => ?_⟩
    refine q _ _ (((b.trans c).trans d).trans (.new hnew)) ⟨l, cutX ys lo hi, rfl, ?_, ok.sub cutX_sub⟩
    rw [upd_same, cutX_map]
theorem etx_cat {ta tb : TE} {σ : L2.St} {H : Hp} {n m : Nat} (ha : EvTx ta σ H n) (hb : EvTx tb σ H m) (hz : n + m ≤ 100000) : EvTx (tOp rCat ta tb) σ H (n + m) := fun A a Q q =>
  ha A a _ fun _ B b ⟨p, xs, ev, h1, o1⟩ => hb B (a.trans b) _ fun _ C c ⟨p', ys, ev', h3, o3⟩ => by
    refine ⟨p, p', _, _, ev, ev', c.k h1, h3, ?_, fun l hl => ?_⟩
    · rw [List.length_map, List.length_map, List.length_map, List.length_map]
      have := o1.len
      have := o3.len
      exact sz_of (by omega)
    · exact q _ _ ((b.trans c).trans (.new hl)) ⟨l, xs ++ ys, rfl, by rw [upd_same, List.map_append, List.map_append], o1.app o3⟩
end


section
open SX
variable {P : Program} {w : World} {K : PySem.W.Frag} {mg : Str → Option Value} {base : Heap} [TabCx]
theorem q_setL {σ : L2.St} {H : Hp} {te to ti : TE} {tz : TS} {D : Ends} {v : V} {p : Addr} {xs : List V} {k : Int} {j : Nat} (hv : Ev te σ H v) (ho : Ev to σ H (.ref p)) (hi : Ev ti σ H (.int k)) (hp : H p = some (.lst xs)) (hj : ixN xs.length k = some j) (kk : ∀ B, Ex H B → tz D σ (upd B p (.lst (xs.set j v)))) : tSeq (tAsg te (gSub to ti rSetL)) tz D σ H :=
  hv H (.refl H) _ fun B b => ho B b _ fun C c => hi C (b.trans c) _ fun G g => ⟨p, xs, k, j, rfl, rfl, ((b.trans c).trans g).k hp, hj, kk G ((b.trans c).trans g)⟩
theorem etx_join {to te : TE} {σ : L2.St} {H : Hp} {n : Nat} (ho : Ev to σ H (.str (S [10]))) (ha : EvTx te σ H n) (hn : n ≤ 100000) :
    EvG (tM1 (fun x xs H Q => ∃ a p, ∃ ys : List Str, x = .str a ∧ xs = [.ref p] ∧ (SqL K H p (ys.map V.str) ∨ SqT K H p (ys.map V.str)) ∧ (ys.map (·.length)).sum + ys.length * a.length ≤ 16777216 ∧ Q (.str (Txt.join a ys)) H) to te) σ H (fun _ v _ => ∃ a', v = .str (S a') ∧ Asc a' ∧ a'.length ≤ n) := fun A a Q q =>
  ho A a _ fun B b => ⟨⟨_, rfl⟩, ha B (a.trans b) _ fun v C c ⟨p, ys, e, hp, ok⟩ => ⟨S [10], p, ys.map S, rfl, by rw [e], .inl (sq_of hp), by rw [lens, List.length_map, S_len]; have := ok.len; show _ + ys.length * 1 ≤ _; omega, by rw [join_S]; exact q _ C (b.trans c) ⟨_, rfl, ok.join⟩⟩⟩
theorem ev_ixLN {te ti : TE} {σ : L2.St} {H : Hp} {as : List V} {j : Nat} {v : V} (h : EvG te σ H (NewL as)) (hi : Ev ti σ H (.int (j : Int))) (hj : as[j]? = some v) : Ev (tOp (rIxL K) te ti) σ H v := fun A a Q q =>
  h A a _ fun w B b ⟨p, ew, _, hp⟩ => hi B (a.trans b) _ fun C c => by
    subst ew
    exact rv_ixL (sq_of (c.k hp)) (atI_nat hj) C (.refl C) Q fun D d => q D ((b.trans c).trans d)
theorem s_retCall {sp : Sp} {E : XK} {ta : TA} {vs : List V} {D : Ends} {σ : L2.St} {H : Hp} (h : EvA ta σ H vs) (k : ∀ B, Ex H B → sp (vs ++ []) B D.rt E) : tRet (tCall sp [] E ta) D σ H := h H (.refl H) _ k
theorem asc_num (i : Int) : Asc (numZ i) := fun c hc => by
  rcases Nat.lt_or_ge c 128 with z | z
  · exact z
  · exact absurd hc (numZ_free (.inr (by omega)))
def spChgL : Sp := fun vs H Q _ => ∃ (a : List Nat) (c o : Int), vs = [.str (S a), .int c, .int o] ∧ Asc a ∧ a.length ≤ 4900 ∧ ∀ a', Asc a' → a'.length ≤ 30000 → RetV (.str (S a')) H Q
theorem mod_n (i : Int) {m : Nat} (h : 0 < m) : ∃ j : Nat, i % (m : Int) = (j : Int) ∧ j < m := by
  obtain ⟨h1, h2⟩ := mod_b i (m := (m : Int)) (by omega)
  obtain ⟨j, hj⟩ := Int.eq_ofNat_of_zero_le h1
  exact ⟨j, hj, by omega⟩
set_option maxHeartbeats 2000000 in
theorem ok_l_changed (T : Top K mg) : FnOk P w K mg base CX0 2 T.a_l_changed T.fd_l_changed ["_law_text_here", "_law_cell", "_law_other"] spChgL := by
  refine T.F_l_changed.ok sc_l_changed (fun vs H Q E h => ?_) (fun cdv A outer s H vs Q E hr h => ?_)
  · obtain ⟨a, c, o, rfl, _⟩ := h
    rfl
  · obtain ⟨a, c, o, rfl, ha, hl, k⟩ := h
    refine ⟨_, (pss_cons (ps_set (i := 3) sc_l_changed.nd rfl (Or.inl rfl) (pe_op op_mod (pe_op op_fdiv (pv 1) pe_int) (pe_op op_add (pe_callB call_len_str (by rfl) T.z_len (by decide +kernel) (pa_cons (pv 0) pa_nil)) pe_int)))
      (pss_cons (ps_set (i := 4) sc_l_changed.nd rfl (Or.inl rfl) pe_str)
      (pss_cons (ps_set (i := 5) sc_l_changed.nd rfl (Or.inl rfl) (pe_ix ix_str (pe_op op_add_str pe_str (pe_ix ix_str (pv 4) (pe_op op_mod (pe_op op_fdiv (pv 2) pe_int) pe_int) (fun _ _ => rfl))) (pe_op op_mod (pv 2) pe_int) (fun _ _ => rfl)))
      (pss_cons (ps_set (i := 6) sc_l_changed.nd rfl (Or.inl rfl) (pe_split (pv 0) pe_str))
      (pss_cons (ps_set (i := 7) sc_l_changed.nd rfl (Or.inl rfl) (pe_op op_mod (pe_op op_fdiv (pv 1) pe_int) (pe_callB (r := rLen K) call_len_seq (by rfl) T.z_len (by decide +kernel) (pa_cons (pv 6) pa_nil))))
      (pss_cons (ps_set (i := 8) sc_l_changed.nd rfl (Or.inl rfl) (pe_op op_mod (pv 2) (pe_callB (r := rLen K) call_len_seq (by rfl) T.z_len (by decide +kernel) (pa_cons (pv 6) pa_nil))))
      (pss_cons (ps_if (pt_cmpR op_eq (pe_op op_mod (pv 1) pe_int) pe_int (nomark _)) (pss_one (ps_ret (pe_op op_add_str (pe_op op_add_str (pe_slice sl_str (pv 0) po_none (po_some (pv 3))) (pv 5)) (pe_slice sl_str (pv 0) (po_some (pv 3)) po_none)))) pss_nil)
      (pss_cons (ps_if (pt_cmpR op_eq (pe_op op_mod (pv 1) pe_int) pe_int (nomark _)) (pss_one (ps_ret (pe_op op_add_str (pe_op op_add_str (pe_slice sl_str (pv 0) po_none (po_some (pv 3))) (pv 5)) (pe_slice sl_str (pv 0) (po_some (pe_op op_add (pv 3) pe_int)) po_none)))) pss_nil)
      (pss_cons (ps_if (pt_cmpR op_eq (pe_op op_mod (pv 1) pe_int) pe_int (nomark _)) (pss_one (ps_ret (pe_op op_add_str (pe_slice sl_str (pv 0) po_none (po_some (pv 3))) (pe_slice sl_str (pv 0) (po_some (pe_op op_add (pv 3) pe_int)) po_none)))) pss_nil)
      (pss_cons (ps_if (pt_cmpR op_eq (pe_op op_mod (pv 1) pe_int) pe_int (nomark _)) (pss_cons (ps_set (i := 9) sc_l_changed.nd rfl (Or.inl rfl) (pe_ix (r := rIxL K) ix_list (pv 6) (pv 7) (fun _ _ => rfl)))
      (pss_cons (ps_asg (pe_ix (r := rIxL K) ix_list (pv 6) (pv 8) (fun _ _ => rfl)) (pg_sub (pv 6) (pv 7) set_list))
      (pss_cons (ps_asg (pv 9) (pg_sub (pv 6) (pv 8) set_list))
      (pss_one (ps_ret (pe_join pe_str (pv 6))))))) pss_nil)
      (pss_cons (ps_if (pt_cmpR op_eq (pe_op op_mod (pv 1) pe_int) pe_int (nomark _)) (pss_one (ps_ret (pe_join pe_str (pe_op op_cat (pe_op op_cat (pe_slice (r := rSlL K) sl_list (pv 6) po_none (po_some (pv 7))) (pe_slice (r := rSlL K) sl_list (pv 6) (po_some (pv 7)) (po_some (pe_op op_add (pv 7) pe_int)))) (pe_slice (r := rSlL K) sl_list (pv 6) (po_some (pv 7)) po_none))))) pss_nil)
      (pss_cons (ps_if (pt_cmpR op_eq (pe_op op_mod (pv 1) pe_int) pe_int (nomark _)) (pss_one (ps_ret (pe_call (ok_l_odd T) (hr.mono (by decide)) rfl T.g_l_odd T.F_l_odd.kp T.b_l_odd .nil pass0 (pa_cons (pv 2) pa_nil)))) pss_nil)
      (pss_cons (ps_if (pt_cmpR op_eq (pe_op op_mod (pv 1) pe_int) pe_int (nomark _)) (pss_cons (ps_set (i := 10) sc_l_changed.nd rfl (Or.inl rfl) (pe_op op_add_str (pe_ix (r := rIxL K) ix_list (pe_lst (pa_cons pe_str (pa_cons pe_str pa_nil))) (pe_op op_mod (pe_op op_fdiv (pv 2) pe_int) pe_int) (fun _ _ => rfl)) (pe_op op_mul_str pe_str (pe_ix (r := rIxL K) ix_list (pe_lst (pa_cons pe_int (pa_cons pe_int (pa_cons pe_int (pa_cons pe_int pa_nil))))) (pe_op op_mod (pv 2) pe_int) (fun _ _ => rfl)))))
      (pss_one (ps_ret (pe_op op_add_str (pe_op op_add_str (pe_op op_add_str pe_str (pe_callTy call_str_int (by rfl) T.z_str (by decide +kernel) (pa_cons (pe_op op_mod (pe_op op_fdiv (pv 2) pe_int) pe_int) pa_nil))) pe_str) (pv 10))))) pss_nil)
      (pss_one (ps_ret (pv 0)))))))))))))))), ?_⟩
    have hR := spl_tx ha
    have hcnt := (spl_cnt [10] a 0 []).1
    have hsp : Txt.split (S a) (S [10]) = (TL.spl [10] 0 [] a).map S := split_S (by decide) (by decide)
    generalize TL.spl [10] 0 [] a = rows at hR hcnt hsp
    have hrl := hR.len
    have dvE : ∀ {σ : L2.St} {B : Hp} {te : TE} {i m : Int}, Ev te σ B (.int i) → (0 < m ∧ m ≤ 100) → Ev (tOp (rI CDiv fun i j => V.int (i / j)) te (tC (.int m))) σ B (.int (i / m)) := fun {σ B te i m} h hm => ev_op (x := .int i) (y := .int m) h ev_c (rv_I (show CDiv _ _ from ⟨by omega, by omega⟩))
    have mdE : ∀ {σ : L2.St} {B : Hp} {te : TE} {i m : Int}, Ev te σ B (.int i) → 0 < m → Ev (tOp (rI (fun _ j => 0 < j) fun i j => .int (i % j)) te (tC (.int m))) σ B (.int (i % m)) := fun {σ B te i m} h hm => ev_op (x := .int i) (y := .int m) h ev_c (rv_I (show (0 : Int) < m from hm))
    obtain ⟨at0, hat, hatl⟩ := mod_n (c / 8) (m := a.length + 1) (by omega)
    show tSeq _ _ _ [some (.str (S a)), some (.int c), some (.int o), none, none, none, none, none, none, none, none] H
    refine q_asg (v := .int (at0 : Int)) (ev_is (ev_op (x := .int (c / 8)) (y := .int ((a.length : Int) + 1)) (dvE (ev_var rfl) (by decide)) (ev_op (x := .int (a.length : Int)) (y := .int 1) (ev_is (ev_cb (ea_cons (ev_var rfl) ea_nil) (rc_lenS (s := S a) (by rw [S_len]; omega))) (by rw [S_len])) ev_c rv_I0) (rv_I (show (0 : Int) < (a.length : Int) + 1 by omega))) (congrArg V.int hat)) fun H1 e1 => ?_
    show tSeq _ _ _ [some (.str (S a)), some (.int c), some (.int o), some (.int (at0 : Int)), none, none, none, none, none, none, none] H1
    refine q_asgG (P := fun _ v _ => ∃ l, v = .str (S l) ∧ l.length = 80 ∧ ∀ x ∈ l, x < 128) (Ev.g ev_tx fun _ _ _ _ => ⟨_, rfl, by decide +kernel, by decide +kernel⟩) ?_
    rintro v H2 e2 ⟨l80, rfl, h80, a80⟩
    show tSeq _ _ _ [some (.str (S a)), some (.int c), some (.int o), some (.int (at0 : Int)), some (.str (S l80)), none, none, none, none, none, none] H2
    obtain ⟨j80, hj80, hl80⟩ := mod_n (o / 20) (m := 80) (by decide)
    obtain ⟨j20, hj20, hl20⟩ := mod_n o (m := 20) (by decide)
    obtain ⟨c1, hc1⟩ : ∃ c1, l80[j80]? = some c1 := ⟨_, List.getElem?_eq_getElem (by omega)⟩
    have hc1a := a80 c1 (List.mem_of_getElem? hc1)
    have t19 : (tx "0123456789=-: \nbd+x").length = 19 ∧ ∀ x ∈ tx "0123456789=-: \nbd+x", x < 128 := by decide +kernel
    obtain ⟨c2, hc2⟩ : ∃ c2, (tx "0123456789=-: \nbd+x" ++ [c1])[j20]? = some c2 := ⟨_, List.getElem?_eq_getElem (by rw [List.length_append, t19.1]; show j20 < 20; exact hl20)⟩
    have hc2a : c2 < 128 := by
      rcases List.mem_append.mp (List.mem_of_getElem? hc2) with z | z
      · exact t19.2 c2 z
      · rw [List.mem_singleton.mp z]
        exact hc1a
    refine q_asg (v := .str (S [c2])) (ev_op (x := .str (S (tx "0123456789=-: \nbd+x" ++ [c1]))) (y := .int (j20 : Int)) (ev_addB ev_tx (ev_op (x := .str (S l80)) (y := .int (j80 : Int)) (ev_var rfl) (ev_is (mdE (dvE (ev_var rfl) (by decide)) (by decide)) (congrArg V.int hj80)) (rv_ixS (by rw [S_len]; omega) (atI_nat hc1))) (by rw [t19.1]; show 19 + 1 ≤ 10000000; decide)) (ev_is (mdE (ev_var rfl) (by decide)) (congrArg V.int hj20)) (rv_ixS (by rw [S_len, List.length_append, t19.1]; show 19 + 1 ≤ 100000; decide) (atI_nat hc2))) fun H3 e3 => ?_
    show tSeq _ _ _ [some (.str (S a)), some (.int c), some (.int o), some (.int (at0 : Int)), some (.str (S l80)), some (.str (S [c2])), none, none, none, none, none] H3
    refine q_asgG (eg_split (a := a) (b := [10]) (ev_var rfl) (ev_litc (s := "\n") rfl) rfl (by omega) (ys := rows) hsp) fun v H4 e4 ⟨p6, ev6, hn6, hp6⟩ => ?_
    subst ev6
    have hn60 : H p6 = none := (e1.trans (e2.trans e3)).dom p6 hn6
    have x4 := (e1.trans (e2.trans e3)).trans e4
    show tSeq _ _ _ [some (.str (S a)), some (.int c), some (.int o), some (.int (at0 : Int)), some (.str (S l80)), some (.str (S [c2])), some (.ref p6), none, none, none, none] H4
    obtain ⟨f0, hf0, hfl⟩ := mod_n (c / 8) hcnt
    obtain ⟨g0, hg0, hgl⟩ := mod_n o hcnt
    have lenE : ∀ {σ : L2.St} {B : Hp}, Ex H4 B → σ[6]? = some (some (.ref p6)) → Ev (tCB (rLen K) (tCons (tVar 6) tNil)) σ B (.int (rows.length : Int)) := fun e h => ev_is (ev_cb (ea_cons (ev_var h) ea_nil) (rc_len (sq_of (e.k hp6)))) (by rw [List.length_map, List.length_map])
    refine q_asg (v := .int (f0 : Int)) (ev_is (ev_op (x := .int (c / 8)) (y := .int (rows.length : Int)) (dvE (ev_var rfl) (by decide)) (lenE (.refl _) rfl) (rv_I (show (0 : Int) < (rows.length : Int) by omega))) (congrArg V.int hf0)) fun H5 e5 => ?_
    show tSeq _ _ _ [some (.str (S a)), some (.int c), some (.int o), some (.int (at0 : Int)), some (.str (S l80)), some (.str (S [c2])), some (.ref p6), some (.int (f0 : Int)), none, none, none] H5
    refine q_asg (v := .int (g0 : Int)) (ev_is (ev_op (x := .int o) (y := .int (rows.length : Int)) (ev_var rfl) (lenE e5 rfl) (rv_I (show (0 : Int) < (rows.length : Int) by omega))) (congrArg V.int hg0)) fun H6 e6 => ?_
    have x6 := x4.trans (e5.trans e6)
    have hp66 := e6.k (e5.k hp6)
    show tSeq _ _ _ [some (.str (S a)), some (.int c), some (.int o), some (.int (at0 : Int)), some (.str (S l80)), some (.str (S [c2])), some (.ref p6), some (.int (f0 : Int)), some (.int (g0 : Int)), none, none] H6
    have test : ∀ {σ : L2.St} {B : Hp} (n : Int), σ[1]? = some (some (.int c)) → EvT (tTest (tOp rEq (tOp (rI (fun _ j => 0 < j) fun i j => .int (i % j)) (tVar 1) (tC (.int 8))) (tC (.int n)))) σ B (decide (V.int (c % 8) = V.int n)) := fun n h => et_test (ev_op (x := .int (c % 8)) (y := .int n) (mdE (ev_var h) (by decide)) ev_c (rv_eq rfl))
    have toE : ∀ {σ : L2.St} {B : Hp}, σ[0]? = some (some (.str (S a))) → σ[3]? = some (some (.int (at0 : Int))) → Ev (tSl rSlS (tVar 0) tNoPart (tPart (tVar 3))) σ B (.str (S (a.take at0))) := fun h0 h3 => ev_is (ev_slS (s := S a) (lo := none) (ev_var h0) eo_none (eo_some (i := (at0 : Int)) (ev_var h3)) (by rw [S_len]; omega)) (congrArg V.str (cutS_to a at0))
    have frE : ∀ {σ : L2.St} {B : Hp} {te : TE} (j : Nat), σ[0]? = some (some (.str (S a))) → Ev te σ B (.int (j : Int)) → Ev (tSl rSlS (tVar 0) (tPart te) tNoPart) σ B (.str (S (a.drop j))) := fun j h0 h3 => ev_is (ev_slS (s := S a) (hi := none) (ev_var h0) (eo_some (i := (j : Int)) h3) eo_none (by rw [S_len]; omega)) (congrArg V.str (cutS_from a j))
    have p1E : ∀ {σ : L2.St} {B : Hp}, σ[3]? = some (some (.int (at0 : Int))) → Ev (tOp (rI0 fun i j => V.int (i + j)) (tVar 3) (tC (.int 1))) σ B (.int ((at0 + 1 : Nat) : Int)) := fun h => ev_op (x := .int (at0 : Int)) (y := .int 1) (ev_var h) ev_c rv_I0
    have tl : (a.take at0).length ≤ 4900 := by rw [List.length_take]; omega
    have dl : ∀ j, (a.drop j).length ≤ 4900 := fun j => by rw [List.length_drop]; omega
    have a2 : Asc [c2] := fun x hx => by rw [List.mem_singleton.mp hx]; exact hc2a
    refine q_when (test 0 rfl) (fun _ B b => s_retk (ev_addB (ev_addB (toE rfl rfl) (ev_var (v := .str (S [c2])) rfl) (by show _ + 1 ≤ _; omega)) (frE at0 rfl (ev_var rfl)) (by rw [List.length_append]; have := dl at0; show _ + 1 + _ ≤ _; omega)) ((k _ (asc_app (asc_app (asc_take ha _) a2) (asc_drop ha _)) (by rw [List.length_append, List.length_append]; have := dl at0; show _ + 1 + _ ≤ _; omega)).mono (x6.trans b))) fun _ H7 e7 => ?_
    refine q_when (test 1 rfl) (fun _ B b => s_retk (ev_addB (ev_addB (toE rfl rfl) (ev_var (v := .str (S [c2])) rfl) (by show _ + 1 ≤ _; omega)) (frE (at0 + 1) rfl (p1E rfl)) (by rw [List.length_append]; have := dl (at0 + 1); show _ + 1 + _ ≤ _; omega)) ((k _ (asc_app (asc_app (asc_take ha _) a2) (asc_drop ha _)) (by rw [List.length_append, List.length_append]; have := dl (at0 + 1); show _ + 1 + _ ≤ _; omega)).mono (x6.trans (e7.trans b)))) fun _ H8 e8 => ?_
    refine q_when (test 2 rfl) (fun _ B b => s_retk (ev_addB (toE rfl rfl) (frE (at0 + 1) rfl (p1E rfl)) (by have := dl (at0 + 1); omega)) ((k _ (asc_app (asc_take ha _) (asc_drop ha _)) (by rw [List.length_append]; have := dl (at0 + 1); omega)).mono (x6.trans ((e7.trans e8).trans b)))) fun _ H9 e9 => ?_
    have x9 := x6.trans ((e7.trans e8).trans e9)
    have hp9 := ((e7.trans e8).trans e9).k hp66
    refine q_when (test 3 rfl) (fun _ B b => ?_) fun _ H10 e10 => ?_
    · obtain ⟨y1, hy1⟩ : ∃ y1, rows[f0]? = some y1 := ⟨_, List.getElem?_eq_getElem hfl⟩
      obtain ⟨y2, hy2⟩ : ∃ y2, rows[g0]? = some y2 := ⟨_, List.getElem?_eq_getElem hgl⟩
      have am : ∀ {j : Nat} {y : List Nat}, rows[j]? = some y → ((rows.map S).map V.str)[j]? = some (.str (S y)) := fun h => by rw [List.getElem?_map, List.getElem?_map, h]; rfl
      have hpB := b.k hp9
      refine q_asg (v := .str (S y1)) (ev_op (x := .ref p6) (y := .int (f0 : Int)) (ev_var rfl) (ev_var rfl) (rv_ixL (sq_of hpB) (atI_nat (am hy1)))) fun B1 b1 => ?_
      show tSeq _ _ _ [some (.str (S a)), some (.int c), some (.int o), some (.int (at0 : Int)), some (.str (S l80)), some (.str (S [c2])), some (.ref p6), some (.int (f0 : Int)), some (.int (g0 : Int)), some (.str (S y1)), none] B1
      refine q_setL (v := .str (S y2)) (k := (f0 : Int)) (j := f0) (ev_op (x := .ref p6) (y := .int (g0 : Int)) (ev_var rfl) (ev_var rfl) (rv_ixL (sq_of (b1.k hpB)) (atI_nat (am hy2)))) (ev_var rfl) (ev_var rfl) (b1.k hpB) (ixN_nat (by rw [List.length_map, List.length_map]; exact hfl)) fun B2 b2 => ?_
      have xB2 := ((x9.trans b).trans b1).trans b2
      have hB2 := b2.k (b1.k hpB)
      have m1 : Ex H (upd B2 p6 (.lst (((rows.map S).map V.str).set f0 (.str (S y2))))) := xB2.mut hn60 hB2
      refine q_setL (v := .str (S y1)) (k := (g0 : Int)) (j := g0) (ev_var rfl) (ev_var rfl) (ev_var rfl) upd_same (ixN_nat (by rw [List.length_set, List.length_map, List.length_map]; exact hgl)) fun B3 b3 => ?_
      have m2 : Ex H (upd B3 p6 (.lst ((((rows.map S).map V.str).set f0 (.str (S y2))).set g0 (.str (S y1))))) := (m1.trans b3).mut hn60 (b3.k upd_same)
      have hok := (hR.set (hR.asc y2 (List.mem_of_getElem? hy2)) f0).set (hR.asc y1 (List.mem_of_getElem? hy1)) g0
      have l1 := hR.elt (List.mem_of_getElem? hy1)
      have l2 := hR.elt (List.mem_of_getElem? hy2)
      have hj := hok.join
      refine s_retk (v := .str (S (TL.joinL [10] ((rows.set f0 y2).set g0 y1)))) (ev_join (ev_litc (s := "\n") rfl) (Ev.g (ev_var rfl) fun _ C e0 e => ⟨p6, rfl, (e0.trans e).k (by rw [upd_same, List.map_set, List.map_set, List.map_set, List.map_set])⟩) (by have := hok.len; show _ + _ * 1 ≤ _; omega)) ((k _ hj.1 (by have := hj.2; omega)).mono m2)
    have x10 := x9.trans e10
    have hp10 := e10.k hp9
    refine q_when (test 4 rfl) (fun _ B b => ?_) fun _ H11 e11 => ?_
    · have hpB := b.k hp10
      refine s_retG (etx_join (n := (a.length + 1) + (a.length + 1) + (a.length + 1)) (ev_litc (s := "\n") rfl) (etx_cat (etx_cat (etx_cut (lo := none) (hi := some (f0 : Int)) (ev_var rfl) hpB eo_none (eo_some (ev_var rfl)) hR) (etx_cut (lo := some (f0 : Int)) (hi := some ((f0 : Int) + 1)) (ev_var rfl) hpB (eo_some (ev_var rfl)) (eo_some (ev_op (x := .int (f0 : Int)) (y := .int 1) (ev_var rfl) ev_c rv_I0)) hR) (by omega)) (etx_cut (lo := some (f0 : Int)) (hi := none) (ev_var rfl) hpB (eo_some (ev_var rfl)) eo_none hR) (by omega)) (by omega)) fun v C c' hv => ?_
      obtain ⟨a', rfl, h1, h2⟩ := hv
      exact k a' h1 (by omega) C ((x10.trans b).trans c')
    have x11 := x10.trans e11
    refine q_when (test 5 rfl) (fun _ B b => ?_) fun _ H12 e12 => ?_
    · refine s_retCall (vs := [.int o]) (ea_cons (ev_var rfl) ea_nil) fun C c' => ?_
      exact ⟨o, rfl, fun a' h1 h2 => (k a' h1 h2).mono ((x11.trans b).trans c')⟩
    have x12 := x11.trans e12
    refine q_when (test 6 rfl) (fun _ B b => ?_) fun _ H13 e13 => ?_
    · obtain ⟨j2, hj2, hl2⟩ := mod_n (o / 4) (m := 2) (by decide)
      obtain ⟨j4, hj4, hl4⟩ := mod_n o (m := 4) (by decide)
      obtain ⟨sg, hsg, hsga, hsgl⟩ : ∃ sg, [V.str (S (tx "")), V.str (S (tx "-"))][j2]? = some (V.str (S sg)) ∧ Asc sg ∧ sg.length ≤ 1 := by
        rcases (show j2 = 0 ∨ j2 = 1 by omega) with rfl | rfl
        · exact ⟨tx "", rfl, (show ∀ x ∈ tx "", x < 128 by decide +kernel), by decide +kernel⟩
        · exact ⟨tx "-", rfl, (show ∀ x ∈ tx "-", x < 128 by decide +kernel), by decide +kernel⟩
      obtain ⟨n9, hn9, hn9l⟩ : ∃ n : Int, [V.int 60, V.int 61, V.int 61, V.int 59][j4]? = some (V.int n) ∧ (2 ≤ n ∧ n ≤ 61) := by
        rcases (show j4 = 0 ∨ j4 = 1 ∨ j4 = 2 ∨ j4 = 3 by omega) with rfl | rfl | rfl | rfl
        · exact ⟨60, rfl, by decide⟩
        · exact ⟨61, rfl, by decide⟩
        · exact ⟨61, rfl, by decide⟩
        · exact ⟨59, rfl, by decide⟩
      refine q_asg (v := .str (S (sg ++ List.replicate n9.toNat 57))) (ev_addB ?_ (ev_nines ?_ ⟨hn9l.1, by omega⟩) (by rw [List.length_replicate]; omega)) fun B1 b1 => ?_
      · refine ev_ixLN (j := j2) (as := [V.str (S (tx "")), V.str (S (tx "-"))]) ?_ ?_ hsg
        · refine eg_lst (vs := [V.str (S (tx "")), V.str (S (tx "-"))]) ?_ (by show 2 ≤ 100000; decide)
          exact ea_cons ev_tx (ea_cons ev_tx ea_nil)
        · exact ev_is (mdE (dvE (ev_var rfl) (by decide)) (by decide)) (congrArg V.int hj2)
      · refine ev_ixLN (j := j4) (as := [V.int 60, V.int 61, V.int 61, V.int 59]) ?_ ?_ hn9
        · refine eg_lst (vs := [V.int 60, V.int 61, V.int 61, V.int 59]) ?_ (by show 4 ≤ 100000; decide)
          exact ea_cons ev_c (ea_cons ev_c (ea_cons ev_c (ea_cons ev_c ea_nil)))
        · exact ev_is (mdE (ev_var rfl) (by decide)) (congrArg V.int hj4)
      show tRet _ _ [some (.str (S a)), some (.int c), some (.int o), some (.int (at0 : Int)), some (.str (S l80)), some (.str (S [c2])), some (.ref p6), some (.int (f0 : Int)), some (.int (g0 : Int)), none, some (.str (S (sg ++ List.replicate n9.toNat 57)))] B1
      obtain ⟨hm1, hm2⟩ := mod_b (o / 8) (m := 256) (by decide)
      have nl := numZ_len (i := o / 8 % 256) (k := 3) (by decide) (by omega)
      have t1 : (tx "bound 3\n: ").length = 10 ∧ ∀ x ∈ tx "bound 3\n: ", x < 128 := by decide +kernel
      have t2 : (tx "=").length = 1 ∧ ∀ x ∈ tx "=", x < 128 := by decide +kernel
      have tn : (sg ++ List.replicate n9.toNat 57).length ≤ 100 := by
        rw [List.length_append, List.length_replicate]
        omega
      have an : Asc (sg ++ List.replicate n9.toNat 57) := asc_app hsga fun x hx => by rw [List.eq_of_mem_replicate hx]; decide
      refine s_retk (ev_addB (ev_addB (ev_addB ev_tx (ev_strZ (i := o / 8 % 256) (mdE (dvE (ev_var rfl) (by decide)) (by decide)) (by omega)) (by rw [t1.1]; omega)) ev_tx (by rw [List.length_append, t1.1, t2.1]; omega)) (ev_var (v := .str (S (sg ++ List.replicate n9.toNat 57))) rfl) (by rw [List.length_append, List.length_append, t1.1, t2.1]; omega)) ((k _ (asc_app (asc_app (asc_app t1.2 (asc_num _)) t2.2) an) (by rw [List.length_append, List.length_append, List.length_append, t1.1, t2.1]; omega)).mono ((x12.trans b).trans b1))
    exact s_retk (v := .str (S a)) (ev_var rfl) ((k a ha (by omega)).mono (x12.trans e13))
end


section
open SX
variable [TabCx]
theorem asc_bl (l k : Nat) : Asc (bl l k) := fun c hc => by
  rcases Nat.lt_or_ge c 128 with z | z
  · exact z
  · exact absurd hc (bl_free (.inr (by omega)))
theorem asc_word0 (p : Int × Int) : Asc (word0 p) := fun c hc => by
  rcases Nat.lt_or_ge c 128 with z | z
  · exact z
  · exact absurd hc (word0_free (.inr (by omega)))
theorem asc_row (c : Code) (qs : List (Int × Int)) : Asc (rowL c qs) := fun x hx => by
  rcases List.mem_append.mp hx with e | e
  · exact asc_bl _ _ x e
  · rcases List.mem_cons.mp e with e | e
    · rw [e]
      decide
    · obtain ⟨p, _, e⟩ := List.mem_flatMap.mp e
      rcases List.mem_cons.mp e with e | e
      · rw [e]
        decide
      · exact asc_word0 p x e
theorem row_short {c : Code} {qs : List (Int × Int)} (hc : c.1 ≤ 8) (h : ∀ p ∈ qs, (0 ≤ p.1 ∧ p.1 < 256) ∧ p.2.natAbs < 10 ^ 4) : (rowL c qs).length ≤ 9 + 11 * qs.length := by
  unfold rowL
  rw [List.length_append, List.length_cons, bl_len]
  have := flat_len wordL 11 qs (fun p hp => by
    unfold wordL word0
    rw [List.length_cons, List.length_append, List.length_cons]
    have h1 := numZ_len (i := p.1) (k := 3) (by decide) (by have := (h p hp).1; omega)
    have h2 := numZ_len (i := p.2) (k := 4) (by decide) (h p hp).2
    omega)
  omega
theorem rows_tx : ∀ (rs : List (Code × List (Int × Int))), (∀ r ∈ rs, r.1.1 ≤ 8) → (∀ p ∈ rs.flatMap (fun r : Code × List (Int × Int) => r.2), (0 ≤ p.1 ∧ p.1 < 256) ∧ p.2.natAbs < 10 ^ 4) → TxOk (10 * rs.length + 11 * (rs.flatMap (fun r : Code × List (Int × Int) => r.2)).length) (rs.map fun r : Code × List (Int × Int) => rowL r.1 r.2)
  | [], _, _ => ⟨by simp, by simp⟩
  | r :: rs, h1, h2 => by
    rw [List.flatMap_cons] at h2 ⊢
    have ih := rows_tx rs (fun x hx => h1 x (List.mem_cons_of_mem _ hx)) (fun p hp => h2 p (List.mem_append_right _ hp))
    have hl := ih.len
    have hr := row_short (c := r.1) (qs := r.2) (h1 r List.mem_cons_self) fun p hp => h2 p (List.mem_append_left _ hp)
    rw [List.map_cons]
    refine ⟨fun x hx => ?_, ?_⟩
    · rcases List.mem_cons.mp hx with e | e
      · rw [e]
        exact asc_row _ _
      · exact ih.asc x e
    · rw [List.map_cons, List.sum_cons, List.length_cons, List.length_cons, List.length_append, Nat.mul_add, Nat.mul_add]
      omega
theorem wr_short {b : Nat} {ps : List (Int × Int)} (hb : 1 ≤ b ∧ b ≤ 64) (hn : Names ps) (hv : ∀ p ∈ ps, p.2.natAbs < 10 ^ 4) (hl : ps.length ≤ 66) : Asc (textL b (roomsT b ps)) ∧ (textL b (roomsT b ps)).length ≤ 4900 := by
  obtain ⟨R, D, G⟩ := good_ex hb.1 hn
  have hfl : (roomsT b ps).flatMap (fun r : Code × List (Int × Int) => r.2) = (canon b ps).flatMap (thg ps) := by
    unfold roomsT
    rw [List.flatMap_map]
  have hpm : ((roomsT b ps).flatMap (fun r : Code × List (Int × Int) => r.2)).Perm ps := by
    rw [hfl]
    exact ((G.perm hb.1).symm.flatMap_right _).trans (flat_perm G.cov G.nd G.nm)
  have h1 := rows_tx (roomsT b ps) (fun r hr => by
    obtain ⟨c, hc, rfl⟩ := List.mem_map.mp hr
    exact (canon_val hc).2) (fun p hp => ⟨hn.all p (hpm.mem_iff.mp hp), hv p (hpm.mem_iff.mp hp)⟩)
  have hrl := rooms_len G hb.1
  have nl := numZ_len (i := (b : Int)) (k := 3) (by decide) (by omega)
  have h2 : TxOk 11 [boundL ++ numZ (b : Int)] := ⟨fun x hx => by
    rw [List.mem_singleton.mp hx]
    exact asc_app (show ∀ c ∈ boundL, c < 128 by decide) (asc_num _), by
    rw [List.map_cons, List.sum_cons, List.length_append]
    show boundL.length + _ + 0 + 1 ≤ 11
    rw [show boundL.length = 6 from rfl]
    omega⟩
  have h3 := (h2.app h1).join
  rw [hpm.length_eq] at h3
  refine ⟨h3.1, Nat.le_trans h3.2 ?_⟩
  omega
end


section
open SX
variable {P : Program} {w : World} {K : PySem.W.Frag} {mg : Str → Option Value} {base : Heap} [TabCx]
def cellN (ns : List Int) (k : Nat) : Int := ns.getD k 0
def spCell [TabCx] (K : PySem.W.Frag) : Sp := fun vs H Q _ => ∃ (a : Addr) (ns : List Int) (k : Nat), vs = [.ref a, .int (k : Int)] ∧ SqL K H a (ns.map V.int) ∧ RetV (.int (cellN ns k)) H Q
theorem ok_l_cell_at (T : Top K mg) : FnOk P w K mg base CX0 1 T.a_l_cell_at T.fd_l_cell_at ["_law_script", "_law_k"] (spCell K) := by
  refine T.F_l_cell_at.ok sc_l_cell_at (fun vs H Q E h => ?_) (fun cdv A outer s H vs Q E hr h => ?_)
  · obtain ⟨a, ns, k, rfl, _⟩ := h
    rfl
  · obtain ⟨a, ns, i, rfl, hS, k⟩ := h
    refine ⟨_, (pss_cons (ps_if (pt_cmpR op_lt (pv 1) (pe_callB (r := rLen K) call_len_seq (by rfl) T.z_len (by decide +kernel) (pa_cons (pv 0) pa_nil)) (nomark _)) (pss_one (ps_ret (pe_ix (r := rIxL K) ix_list (pv 0) (pv 1) (fun _ _ => rfl)))) pss_nil)
      (pss_one (ps_ret pe_int))), ?_⟩
    walk_at "when"
    · intro hb H1 e1
      have hlt : i < ns.length := by simpa using hb
      refine s_retk (v := .int (cellN ns i)) (ev_op (by walk_at "ev") (by walk_at "ev") (rv_ixL (ex_l e1 hS) (atI_nat ?_))) (RetV.mono e1 k)
      unfold cellN
      rw [List.getElem?_map, List.getD_eq_getElem?_getD, List.getElem?_eq_getElem hlt]
      rfl
    · intro hb H1 e1
      have hlt : ns.length ≤ i := by simpa using hb
      walk_at "ret"
      have e0 : cellN ns i = 0 := by
        unfold cellN
        rw [List.getD_eq_getElem?_getD, List.getElem?_eq_none hlt]
        rfl
      rw [e0] at k
      exact RetV.mono e1 k
theorem spv_cell {a : Addr} {ns : List Int} {H : Hp} (hS : SqL K H a (ns.map V.int)) (i : Int) (hi : 0 ≤ i) : SpV (spCell K) [.ref a, .int i] H (.int (cellN ns i.toNat)) := fun A e Q q E => ⟨a, ns, i.toNat, by rw [Int.toNat_of_nonneg hi], ex_l e hS, q⟩
def spWhole : Sp := fun vs H Q _ => ∃ i : Int, vs = [.int i] ∧ RetV (.bl true) H Q
theorem spv_whole {i : Int} {H : Hp} : SpV spWhole [.int i] H (.bl true) := fun A e Q q E => ⟨i, rfl, q⟩
theorem ok_l_whole (T : Top K mg) : FnOk P w K mg base CX0 1 T.a_l_whole T.fd_l_whole ["_law_found"] spWhole := by
  refine T.F_l_whole.ok sc_l_whole (fun vs H Q E h => ?_) (fun cdv A outer s H vs Q E hr h => ?_)
  · obtain ⟨i, rfl, _⟩ := h
    rfl
  · obtain ⟨i, rfl, k⟩ := h
    refine ⟨_, (pss_one (ps_ret (pe_and (pe_callB (r := rIsi K) call_isi (by rfl) T.z_isinstance (by decide +kernel) (pa_cons (pv 0) (pa_cons (pe_bltn (v := .ty "int") (by rfl) T.z_int (by decide +kernel) rfl) pa_nil))) (pe_one (pe_not (pe_callB (r := rIsi K) call_isi (by rfl) T.z_isinstance (by decide +kernel) (pa_cons (pv 0) (pa_cons (pe_bltn (v := .ty "bool") (by rfl) T.z_bool (by decide +kernel) rfl) pa_nil)))))))), ?_⟩
    walk_at "ret"
    exact k
/-! ### the plain things, a dict -/
theorem Ex.mutD {H H' : Hp} {p : Addr} {o : HO} {kvs : List (Key × V)} (e : Ex H H') (h : H p = none) (hp : H' p = some (.dK kvs)) : Ex H (upd H' p o) := by
  refine ⟨fun a u q n => ?_, fun a q => ?_, fun t => (e.tabs t).mut hp ⟨(by intro _ z; cases z), (by intro _ z; cases z)⟩⟩
  · rw [upd_ne (ne_of_none q h)]
    exact e.keep a u q n
  · by_cases ha : a = p
    · rw [ha]
      exact h
    · rw [upd_ne ha] at q
      exact e.dom a q
/-- another dict changes -/
theorem SA.updX {C : Addr} {H : Hp} {p d bd x : Addr} {kvs ks : List (Key × V)} {b : Nat} {R : List Code} {D : Nat} {ps : List (Int × Int)} {o : HO} (h : SA C H p d bd kvs b R D ps) (hx : H x = some (.dK ks)) (nd : d ≠ x) : SA C (upd H x o) p d bd kvs b R D ps := by
  obtain ⟨⟨dx, h1⟩, h2, h3, h4⟩ := h
  have w0 : ExW H (upd H x o) := ⟨fun a u q i => by rw [upd_ne (ne_of q hx (by intro z; rw [z] at i; exact i))]; exact q, upd_dom hx, fun t => t.mut hx ⟨(by intro _ z; cases z), (by intro _ z; cases z)⟩⟩
  exact ⟨⟨dx, by rw [upd_ne (ne_of h1 hx (by intro z; cases z))]; exact h1⟩, by rw [upd_ne nd]; exact h2, kr_mono w0 h3, h4.monoW w0⟩
structure PD (kvs : List (Key × V)) (ps : List (Int × Int)) : Prop where
  ks : ∃ ks : List Int, kvs.map (·.1) = ks.map Sum.inl ∧ ks.Nodup
  vl : ∀ n : Int, valV kvs (Sum.inl n) = (valT ps n).map V.int
theorem pd_nil : PD [] [] := ⟨⟨[], rfl, .nil⟩, fun _ => rfl⟩
theorem valT_ins (ps : List (Int × Int)) (n v m : Int) : valT (insT ps n v) m = if m = n then some v else valT ps m := by
  unfold insT
  have hc : ∀ (as bs : List (Int × Int)), valT (as ++ bs) m = (valT as m).or (valT bs m) := fun as bs => by
    unfold valT
    rw [List.find?_append]
    cases List.find? (fun p => decide (p.1 = m)) as <;> rfl
  have hn : ∀ (q : Int × Int → Bool), (∀ p ∈ ps, p.1 = m → q p = false) → valT (ps.filter q) m = none := fun q h => by
    unfold valT
    rw [Option.map_eq_none_iff, List.find?_eq_none]
    intro p hp e
    obtain ⟨h1, h2⟩ := List.mem_filter.mp hp
    rw [h p h1 (of_decide_eq_true e)] at h2
    cases h2
  rw [hc]
  have h1 : valT ((n, v) :: ps.filter fun p => decide (n < p.1)) m = if m = n then some v else valT (ps.filter fun p => decide (n < p.1)) m := by
    unfold valT
    rw [List.find?_cons]
    by_cases e : m = n
    · rw [if_pos e, decide_eq_true e.symm]
      rfl
    · rw [if_neg e, decide_eq_false (fun z : n = m => e z.symm)]
  rw [h1]
  by_cases e : m = n
  · rw [if_pos e, if_pos e, hn _ fun p _ z => decide_eq_false (by omega)]
    rfl
  · rw [if_neg e, if_neg e]
    rcases Int.lt_or_gt_of_ne e with l | l
    · rw [valT_fil fun p _ z => decide_eq_true (by omega), hn (fun p => decide (n < p.1)) fun p _ z => decide_eq_false (by omega)]
      cases valT ps m <;> rfl
    · rw [hn (fun p => decide (p.1 < n)) fun p _ z => decide_eq_false (by omega), valT_fil fun p _ z => decide_eq_true (by omega)]
      rfl
theorem key_in {kvs : List (Key × V)} {ks : List Int} (h : kvs.map (·.1) = ks.map Sum.inl) (n : Int) : n ∈ ks ↔ (valV kvs (Sum.inl n)).isSome = true := by
  rw [← valV_any, List.any_eq_true]
  constructor
  · intro hm
    have : (Sum.inl n : Key) ∈ kvs.map (·.1) := by rw [h]; exact List.mem_map.mpr ⟨n, hm, rfl⟩
    obtain ⟨kv, h1, h2⟩ := List.mem_map.mp this
    exact ⟨kv, h1, decide_eq_true h2⟩
  · rintro ⟨kv, h1, h2⟩
    have : (Sum.inl n : Key) ∈ kvs.map (·.1) := List.mem_map.mpr ⟨kv, h1, of_decide_eq_true h2⟩
    rw [h] at this
    obtain ⟨m, h3, h4⟩ := List.mem_map.mp this
    exact (Sum.inl.inj h4) ▸ h3
theorem PD.put {kvs : List (Key × V)} {ps : List (Int × Int)} (h : PD kvs ps) (n v : Int) : PD (putK kvs (Sum.inl n) (.int v)) (insT ps n v) := by
  obtain ⟨⟨ks, h1, h2⟩, h3⟩ := h
  refine ⟨?_, fun m => ?_⟩
  · cases hv : valV kvs (Sum.inl n) with
    | none =>
      rw [putK_new _ hv]
      refine ⟨ks ++ [n], by rw [List.map_append, List.map_append, h1]; rfl, ?_⟩
      have hn : n ∉ ks := fun z => by
        have := (key_in h1 n).mp z
        rw [hv] at this
        cases this
      exact List.nodup_append.mpr ⟨h2, by simp, fun x hx y hy => by
        rw [List.mem_singleton.mp hy]
        exact fun z => hn (z ▸ hx)⟩
    | some u =>
      refine ⟨ks, ?_, h2⟩
      unfold putK
      rw [if_pos (by rw [valV_any, hv]; rfl), ← h1, List.map_map]
      refine List.map_congr_left fun kv _ => ?_
      show (if kv.1 = Sum.inl n then (kv.1, V.int v) else kv).1 = kv.1
      split <;> rfl
  · rw [valV_put, valT_ins]
    by_cases e : m = n
    · rw [if_pos (congrArg Sum.inl e), if_pos e]
      rfl
    · rw [if_neg (fun z => e (Sum.inl.inj z)), if_neg e]
      exact h3 m
theorem valT_some {ps : List (Int × Int)} (h : ps.Pairwise fun a b => a.1 < b.1) {p : Int × Int} (hp : p ∈ ps) : valT ps p.1 = some p.2 := by
  induction h with
  | nil => simp at hp
  | @cons q t hq _ ih =>
    unfold valT at ih ⊢
    rw [List.find?_cons]
    rcases List.mem_cons.mp hp with e | e
    · subst e
      rw [decide_eq_true rfl]
      rfl
    · rw [decide_eq_false (fun z => by have := hq p e; omega)]
      exact ih e
theorem valT_mem {ps : List (Int × Int)} (n : Int) : (valT ps n).isSome = true ↔ n ∈ ps.map (·.1) := by
  unfold valT
  rw [Option.isSome_map, List.find?_isSome, List.mem_map]
  exact ⟨fun ⟨p, h1, h2⟩ => ⟨p, h1, of_decide_eq_true h2⟩, fun ⟨p, h1, h2⟩ => ⟨p, h1, decide_eq_true h2⟩⟩
/-- the keys, sorted, are the names -/
theorem PD.names {kvs : List (Key × V)} {ps : List (Int × Int)} (h : PD kvs ps) (hN : Names ps) : ∃ ks : List Int, kvs.map (·.1) = ks.map Sum.inl ∧ ks.length = ps.length ∧ ∀ ys : List Int, ys.Perm ks → ys.Pairwise (· ≤ ·) → ys = ps.map (·.1) := by
  obtain ⟨⟨ks, h1, h2⟩, h3⟩ := h
  have hnd : (ps.map (·.1)).Pairwise (· < ·) := List.pairwise_map.mpr hN.up
  have hp : ks.Perm (ps.map (·.1)) := (List.perm_ext_iff_of_nodup h2 (hnd.imp fun z => Int.ne_of_lt z)).mpr fun n => by
    rw [key_in h1, h3, Option.isSome_map, valT_mem]
  refine ⟨ks, h1, by rw [hp.length_eq, List.length_map], fun ys hy hs => ?_⟩
  exact (hy.trans hp).eq_of_pairwise (le := (· ≤ ·)) (fun a b _ _ h1 h2 => Int.le_antisymm h1 h2) hs (hnd.imp fun z => Int.le_of_lt z)
theorem PD.len {kvs : List (Key × V)} {ps : List (Int × Int)} (h : PD kvs ps) (hN : Names ps) : kvs.length = ps.length := by
  obtain ⟨ks, h1, h2, _⟩ := h.names hN
  rw [← h2, ← List.length_map (f := (·.1)) (as := kvs), h1, List.length_map]
theorem ev_lenD {σ : L2.St} {H : Hp} {j : Nat} {dp : Addr} {kvs : List (Key × V)} {n : Nat} (hd : H dp = some (.dK kvs)) (hn : kvs.length = n) (hj : σ[j]? = some (some (.ref dp)) := by rfl) : Ev (tCB (fun xs H Q => ∃ a kvs, xs = [V.ref a] ∧ H a = some (.dK kvs) ∧ Q (.int kvs.length) H) (tCons (tVar j) tNil)) σ H (.int (n : Int)) := fun A a Q q =>
  ⟨_, hj, dp, kvs, rfl, a.k hd, by rw [hn]; exact q A (.refl A)⟩
theorem eg_dnew {σ : L2.St} {H : Hp} : EvG tDNewK σ H (fun A v B => ∃ d, v = .ref d ∧ A d = none ∧ B d = some (.dK [])) := fun A a Q q p hp => q _ _ (.new hp) ⟨p, rfl, hp, upd_same⟩

theorem PD.perm {kvs : List (Key × V)} {ps : List (Int × Int)} (h : PD kvs ps) (hN : Names ps) : ∃ ks : List Int, kvs.map (·.1) = ks.map Sum.inl ∧ (ks.map fun n => (n, (valT ps n).getD 0)).Perm ps ∧ ∀ n ∈ ks, (valT ps n).isSome = true := by
  obtain ⟨⟨ks, h1, h2⟩, h3⟩ := h
  have hnd : (ps.map (·.1)).Pairwise (· < ·) := List.pairwise_map.mpr hN.up
  have hk : ∀ n, n ∈ ks ↔ n ∈ ps.map (·.1) := fun n => by rw [key_in h1, h3, Option.isSome_map, valT_mem]
  have hp : ks.Perm (ps.map (·.1)) := (List.perm_ext_iff_of_nodup h2 (hnd.imp fun z => Int.ne_of_lt z)).mpr hk
  refine ⟨ks, h1, ?_, fun n hn => (valT_mem n).mpr ((hk n).mp hn)⟩
  have e0 : ((ps.map (·.1)).map fun n => (n, (valT ps n).getD 0)) = ps := by
    rw [List.map_map]
    refine (List.map_congr_left fun p hp => ?_).trans (List.map_id' ps)
    show (p.1, (valT ps p.1).getD 0) = p
    rw [valT_some hN.up hp]
    rfl
  have := hp.map fun n => (n, (valT ps n).getD 0)
  rw [e0] at this
  exact this
theorem ev_dgetF {σ : L2.St} {H : Hp} {td ty : TE} {d : Addr} {od : Obj} {k : Key} {v : V} {kvs : List (Key × V)} (h : Ev td σ H (.ref d)) (hk : Ev ty σ H (kV k)) (hd : H d = some (.frz od (.dK kvs))) (hv : valV kvs k = some v) : Ev (tDGet td ty) σ H v := fun A a Q q =>
  h A a _ fun B b => hk B (a.trans b) _ fun G g => ⟨d, v, rfl, by rw [← hv]; exact .inl ⟨kvs, k, .inr ⟨od, ((a.trans b).trans g).k hd⟩, rfl, rfl⟩, q G (b.trans g)⟩
/-- the keys of a locked dict -/
theorem lcK {β : Type} {r' : Rp β} {σ : L2.St} {H : Hp} {te td : TE} {d : Addr} {kvs : List (Key × V)} {od : Obj} {ks : List Int} {vs : List Nat} {j : Nat} (g : Int → β) (hk : kvs.map (·.1) = ks.map Sum.inl) (h : Ev td σ H (.ref d)) (hd : H d = some (.frz od (.dK kvs))) (hz : ks.length ≤ 40000)
    (hw : ∀ x, wipe ((wipe σ vs).set j (some x)) vs = wipe σ vs)
    (he : ∀ n H1 F, Ex H H1 → (∀ y, F y → H1 y ≠ none) → n ∈ ks → EvE r' F te ((wipe σ vs).set j (some (.int n))) H1 (g n)) : EvLR r' (tLc (iKeys td) (gName j) tYes te vs) σ H (ks.map g) := fun H0 e Q qq => h H0 e _ fun H1 e1 => ⟨d, od, rfl, .inl ⟨kvs, (e.trans e1).k hd, fun Dl hD => by
  have hlen : kvs.length = ks.length := by
    rw [← List.length_map (f := (·.1)) (as := kvs), hk, List.length_map]
  refine lc_it (walk_keys (d := d) (o := od) (kvs := kvs)) (fun i H' => Ex H1 H' ∧ ∃ ys, H' Dl = some (.lst ys) ∧ ys.length = i ∧ PRF r' (F1 Dl) H' ys ((ks.take i).map g)) ⟨Ex.new hD, [], upd_same, rfl, by rw [List.take_zero]; exact .nil⟩ (fun i H' _ p => p.1.k ((e.trans e1).k hd)) (fun i x H' H'' hi p y => ?_) fun H' p => ?_
  · obtain ⟨p1, ys, p2, p3, p4⟩ := p
    obtain ⟨rfl, k, v, hkv, rfl⟩ := y
    have hia : i < ks.length := by omega
    have hki : k = Sum.inl ks[i] := by
      have h1 : (kvs.map (·.1))[i]? = some k := by rw [List.getElem?_map, hkv]; rfl
      rw [hk, List.getElem?_map, List.getElem?_eq_getElem hia] at h1
      exact (Option.some.inj h1).symm
    subst hki
    have eE := (e.trans e1).trans p1
    have hmem := List.getElem_mem hia
    refine ⟨hw _, ?_⟩
    show te ((wipe σ vs).set j (some (.int ks[i]))) H'' _
    refine he ks[i] H'' (F1 Dl) eE (fun y z => by rw [show y = Dl from z, p2]; intro w; cases w) hmem H'' (.refl H'') _ fun y H4 e4 ry => ⟨ys, e4.k p2, sz_lt (by omega), Ex.mut (p1.trans e4) hD (e4.k p2), ys ++ [y], upd_same, by rw [List.length_append, p3]; rfl, ?_⟩
    rw [take_snoc (List.getElem?_eq_getElem hia), List.map_append]
    exact pr_lst (show F1 Dl Dl from rfl) (e4.k p2) (pr_app (pr_mono e4 p4) (.cons ry .nil))
  · obtain ⟨p1, ys, p2, p3, p4⟩ := p
    refine qq _ H' (e1.trans p1) ⟨Dl, rfl, fresh_back e1 hD, ys, p2, ?_⟩
    rw [hlen, List.take_length] at p4
    exact pr_0 p4⟩⟩
theorem el_plainD {σ : L2.St} {H : Hp} {dp : Addr} {kvs : List (Key × V)} {ps : List (Int × Int)} {ks : List Int} (h : PD kvs ps) (hk : kvs.map (·.1) = ks.map Sum.inl) (hs : ∀ n ∈ ks, (valT ps n).isSome = true) (hl : ks.length ≤ 40000) (hd : H dp = some (.dK kvs)) (h40 : σ[4]? = some (some (.ref dp))) (h4 : ∀ x : V, ((wipe σ [7]).set 7 (some x))[4]? = some (some (.ref dp))) (h7 : ∀ x : V, ((wipe σ [7]).set 7 (some x))[7]? = some (some x)) (hw : ∀ x, wipe ((wipe σ [7]).set 7 (some x)) [7] = wipe σ [7]) :
    EvLR rpT (tLockE (tLc (iKeys (tVar 4)) (gName 7) tYes (tTup (tCons (tVar 7) (tCons (tDGet (tVar 4) (tVar 7)) tNil))) [7])) σ H (ks.map fun n => (n, (valT ps n).getD 0)) :=
  el_lock hd fun od A a => lcK (fun n => (n, (valT ps n).getD 0)) hk (ev_var h40) upd_same hl hw fun n H1 F e _ hn => by
    obtain ⟨u, hu⟩ := Option.isSome_iff_exists.mp (hs n hn)
    have ht : EvA (tCons (tVar 7) (tCons (tDGet (tVar 4) (tVar 7)) tNil)) ((wipe σ [7]).set 7 (some (.int n))) H1 [.int n, .int u] := ea_cons (ev_var (h7 _)) (ea_cons (ev_dgetF (k := Sum.inl n) (ev_var (h4 _)) (ev_var (h7 _)) (e.k upd_same) (by rw [h.vl, hu]; rfl)) ea_nil)
    rw [hu]
    exact (eg_tup ht (by show 2 ≤ 100000; decide)).imp fun A v B _ _ ⟨t, e, _, h⟩ => ⟨t, e, h⟩
end


section
open SX
variable {P : Program} {w : World} {K : PySem.W.Frag} {mg : Str → Option Value} {base : Heap} [TabCx]
def spLawT [TabCx] (K : PySem.W.Frag) : Sp := fun vs H Q _ => ∃ (a : Addr) (ns : List Int), vs = [.ref a] ∧ SqL K H a (ns.map V.int) ∧ ns.length ≤ 63 ∧ TabsOk H ∧ RetV (.bl true) H Q
def EvAG (ta : TA) (σ : L2.St) (H : Hp) (P : List V → Hp → Prop) : Prop := ∀ A, Ex H A → ∀ Q : List V → Hp → Prop, (∀ vs B, Ex A B → P vs B → Q vs B) → ta σ A Q
theorem ev_eqBT {σ : L2.St} {H : Hp} {tb tl tv : TE} {b : Int} {ps : List (Int × Int)} {t l : Addr} (hb : Ev tb σ H (.int b)) (hl : EvLR rpT tl σ H ps) (hv : Ev tv σ H (.ref t)) (ht : H t = some (.tup [.int b, .ref l])) (hL : LR rpT H l ps) : Ev (tOp (rEqD K) (tTup (tCons tb (tCons tl tNil))) tv) σ H (.bl true) := fun A a Q q =>
  hb A a _ fun B b1 => hl B (a.trans b1) _ fun w C c ⟨p, ew, _, L⟩ => by
    subst ew
    refine ⟨sz_of (by show 2 ≤ 100000; decide), fun u hu => ?_⟩
    have x := ((a.trans b1).trans c).trans (Ex.new (o := .tup [.int b, .ref p]) hu)
    refine hv _ x _ fun D d => ?_
    obtain ⟨ys, g1, g2⟩ := L.mono ((Ex.new (o := .tup [.int b, .ref p]) hu).trans d)
    obtain ⟨zs, g3, g4⟩ := hL.mono (x.trans d)
    have hc : (PyData.tuple [.int b, .list (ps.map encT.enc)]).canLay0 = true := (encP encInt (encL encT)).lay (a := (b, ps)) ⟨trivial, fun _ _ => trivial⟩
    have hd : (PyData.tuple [.int b, .list (ps.map encT.enc)]).depth ≤ 64 := Nat.le_trans ((encP encInt (encL encT)).hd (b, ps)) (show (3 : Nat) ≤ 64 by decide)
    have hs : SeqAt.shaped (PyData.tuple [.int b, .list (ps.map encT.enc)]) = true := by
      unfold SeqAt.shaped
      rw [hc, decide_eq_true hd]
      rfl
    refine ⟨_, _, .tup (st_of (d.k upd_same)) (.cons (.int _) (.cons (.lst (sq_of g1) (dp_all encT g2)) .nil)), .tup (st_of ((x.trans d).k ht)) (.cons (.int _) (.cons (.lst (sq_of g3) (dp_all encT g4)) .nil)), hs, hs, ?_⟩
    rw [eqv_self _ hc]
    exact q D (((b1.trans c).trans (.new hu)).trans d)
theorem ev_callAGv {sp : Sp} {dvs : List V} {E : XK} {ta : TA} {σ : L2.St} {H : Hp} {Pv : List V → Hp → Prop} {z : V} (h : EvAG ta σ H Pv) (hs : ∀ vs B, Ex H B → Pv vs B → SpV sp (vs ++ dvs) B z) : Ev (tCall sp dvs E ta) σ H z := fun A a Q q =>
  h A a _ fun vs B b p => hs vs B (a.trans b) p B (.refl B) Q (fun C c => q C (b.trans c)) E
theorem eag_consG {te : TE} {tr : TA} {σ : L2.St} {H : Hp} {R : V → Hp → Prop} {vs : List V} (h : EvG te σ H (fun _ v B => R v B)) (hm : ∀ v B C, Ex B C → R v B → R v C) (i : EvA tr σ H vs) : EvAG (tCons te tr) σ H (fun ws B => ∃ v, ws = v :: vs ∧ R v B) := fun A a Q q =>
  h A a _ fun v B b r => i B (a.trans b) _ fun C c => q _ C (b.trans c) ⟨v, rfl, hm v B C c r⟩
theorem rc_isiS {H : Hp} {p : Addr} (T : Top K mg) (h : ∃ dx fs, H p = some (.ins T.a_Store dx fs)) : RC (rIsi K) [.ref p, .ref T.a_Store] H (.bl true) := fun A e _ q => by
  obtain ⟨dx, fs, h⟩ := h
  exact ⟨.ref p, .ref T.a_Store, .ref T.a_Store, .ref T.a_Store, true, rfl, .own _, .base (.ins (e.k h) T.cl_Store T.y_a T.y_b T.y_c T.y_d), T.k_Store_Store, q A (.refl A)⟩
set_option maxHeartbeats 2000000 in
theorem ok_law (T : Top K mg) (TB : Tabs base T) : FnOk P w K mg base CX0 12 T.a_law T.fd_law ["_law_script"] (spLawT K) := by
  refine T.F_law.ok sc_law (fun vs H Q E h => ?_) (fun cdv A outer s H vs Q E hr h => ?_)
  · obtain ⟨a, ns, rfl, _⟩ := h
    rfl
  · obtain ⟨a, ns, rfl, hS, hl, hT, k⟩ := h
    refine ⟨_, (pss_cons (ps_set (i := 1) sc_law.nd rfl (Or.inl rfl) (pe_op op_add pe_int (pe_op op_mod (pe_op op_fdiv (pe_call (ok_l_cell_at T) (hr.mono (by decide)) rfl T.g_l_cell_at T.F_l_cell_at.kp T.b_l_cell_at .nil pass0 (pa_cons (pv 0) (pa_cons pe_int pa_nil))) pe_int) pe_int)))
      (pss_cons (ps_if (pt_cmpR op_eq (pe_op op_mod (pe_call (ok_l_cell_at T) (hr.mono (by decide)) rfl T.g_l_cell_at T.F_l_cell_at.kp T.b_l_cell_at .nil pass0 (pa_cons (pv 0) (pa_cons pe_int pa_nil))) pe_int) pe_int (nomark _)) (pss_one (ps_set (i := 1) sc_law.nd rfl (Or.inl rfl) (pe_op op_add pe_int (pe_op op_mod (pe_op op_fdiv (pe_call (ok_l_cell_at T) (hr.mono (by decide)) rfl T.g_l_cell_at T.F_l_cell_at.kp T.b_l_cell_at .nil pass0 (pa_cons (pv 0) (pa_cons pe_int pa_nil))) pe_int) pe_int)))) pss_nil)
      (pss_cons (ps_set (i := 2) sc_law.nd rfl (Or.inl rfl) (pe_call (ok_l_cell_at T) (hr.mono (by decide)) rfl T.g_l_cell_at T.F_l_cell_at.kp T.b_l_cell_at .nil pass0 (pa_cons (pv 0) (pa_cons pe_int pa_nil))))
      (pss_cons (ps_set (i := 3) sc_law.nd rfl (Or.inl rfl) (pe_op op_mod (pe_call (ok_l_cell_at T) (hr.mono (by decide)) rfl T.g_l_cell_at T.F_l_cell_at.kp T.b_l_cell_at .nil pass0 (pa_cons (pv 0) (pa_cons pe_int pa_nil))) pe_int))
      (pss_cons (ps_if (pt_cmpR op_eq (pe_op op_mod (pe_op op_fdiv (pe_call (ok_l_cell_at T) (hr.mono (by decide)) rfl T.g_l_cell_at T.F_l_cell_at.kp T.b_l_cell_at .nil pass0 (pa_cons (pv 0) (pa_cons pe_int pa_nil))) pe_int) pe_int) pe_int (nomark _)) (pss_one (ps_set (i := 3) sc_law.nd rfl (Or.inl rfl) (pe_op op_mod (pe_op op_fdiv (pe_call (ok_l_cell_at T) (hr.mono (by decide)) rfl T.g_l_cell_at T.F_l_cell_at.kp T.b_l_cell_at .nil pass0 (pa_cons (pv 0) (pa_cons pe_int pa_nil))) pe_int) pe_int))) pss_nil)
      (pss_cons (ps_set (i := 4) sc_law.nd rfl (Or.inr rfl) pe_dnewK)
      (pss_cons (ps_for PassesOwn.never rfl (pi_range1 (by rfl) T.z_range (pa_cons (pv 3) pa_nil)) (pg_name (i := 5) sc_law.nd rfl (Or.inl rfl)) (pss_cons (ps_set (i := 6) sc_law.nd rfl (Or.inl rfl) (pe_op op_add (pe_call (ok_l_cell_at T) (hr.mono (by decide)) rfl T.g_l_cell_at T.F_l_cell_at.kp T.b_l_cell_at .nil pass0 (pa_cons (pv 0) (pa_cons (pe_op op_add pe_int (pe_op op_mod (pv 5) pe_int)) pa_nil))) (pe_op op_mul (pe_op op_fdiv (pv 5) pe_int) pe_int)))
      (pss_cons (ps_set (i := 7) sc_law.nd rfl (Or.inl rfl) (pe_op op_mod (pv 6) pe_int))
      (pss_cons (ps_if (pt_cmpR op_eq (pe_op op_mod (pv 2) pe_int) pe_int (nomark _)) (pss_one (ps_set (i := 7) sc_law.nd rfl (Or.inl rfl) (pe_op op_mod (pe_op op_mul (pe_op op_sub (pe_op op_add (pe_op op_mul (pe_op op_mod (pe_op op_fdiv (pv 2) pe_int) pe_int) pe_int) (pe_op op_mod (pv 6) pe_int)) pe_int) pe_int) pe_int))) pss_nil)
      (pss_one (ps_dput (hu_of hr) (pv 4) (pv 7) (pe_op op_sub (pe_op op_mod (pe_op op_add (pe_op op_fdiv (pv 6) pe_int) (pv 2)) pe_int) pe_int) rfl))))))
      (pss_cons (ps_set (i := 8) sc_law.nd rfl (Or.inl rfl) (pe_call (ok_l_text T) (hr.mono (by decide)) rfl T.g_l_text T.F_l_text.kp T.b_l_text .nil pass0 (pa_cons (pe_lock (pe_lc (own := [("_law_name", 7)]) (g := gName 7) (tt := tYes) rfl sc_law.nd (pi_keys (pv 4)) (blkOk_by (N := n_law) (sc := defScope s_law) (by decide +kernel)) (fun _ _ _ _ _ => pg_name (i := 7) sc_law.nd rfl (Or.inl rfl)) (fun _ _ _ _ _ => by exact pts_nil) (fun _ _ _ _ _ => by exact (pe_tup (pa_cons (pv 7) (pa_cons (by exact (pe_dget (hu_of hr) (pv 4) (pv 7) (fun _ _ => rfl))) pa_nil)))))) (pa_cons (pv 1) pa_nil))))
      (pss_cons (ps_set (i := 8) sc_law.nd rfl (Or.inl rfl) (pe_call (ok_l_changed T) (hr.mono (by decide)) rfl T.g_l_changed T.F_l_changed.kp T.b_l_changed .nil pass0 (pa_cons (pv 8) (pa_cons (pe_call (ok_l_cell_at T) (hr.mono (by decide)) rfl T.g_l_cell_at T.F_l_cell_at.kp T.b_l_cell_at .nil pass0 (pa_cons (pv 0) (pa_cons pe_int pa_nil))) (pa_cons (pe_call (ok_l_cell_at T) (hr.mono (by decide)) rfl T.g_l_cell_at T.F_l_cell_at.kp T.b_l_cell_at .nil pass0 (pa_cons (pv 0) (pa_cons pe_int pa_nil))) pa_nil)))))
      (pss_cons (ps_set (i := 9) sc_law.nd rfl (Or.inl rfl) (pe_call (ok_l_read T) (hr.mono (by decide)) rfl T.g_l_read T.F_l_read.kp T.b_l_read .nil pass0 (pa_cons (pv 8) pa_nil)))
      (pss_cons (ps_if (pt_cmpR op_isN (pv 9) pe_non (nomark _)) (pss_one (ps_ret (pe_call (ok_l_refused T) (hr.mono (by decide)) rfl T.g_l_refused T.F_l_refused.kp T.b_l_refused .nil pass0 (pa_cons (pv 8) pa_nil)))) pss_nil)
      (pss_cons (ps_set (i := 10) sc_law.nd rfl (Or.inl rfl) (pe_call (ok_read T) (hr.mono (by decide)) rfl T.g_read T.F_read.kp T.b_read .nil pass0 (pa_cons (pv 8) pa_nil)))
      (pss_one (ps_ret (pe_and (pe_callB (r := rIsi K) call_isi (by rfl) T.z_isinstance (by decide +kernel) (pa_cons (pv 10) (pa_cons (pe_glob (v := .ref T.a_Store) rfl T.g_Store rfl) pa_nil))) (pe_and (pe_call (ok_l_whole T) (hr.mono (by decide)) rfl T.g_l_whole T.F_l_whole.kp T.b_l_whole .nil pass0 (pa_cons (pe_fld (pv 10) rfl) pa_nil)) (pe_one (pe_cmpR (r := rEqD K) (op_eqD hr.units) (pe_tup (pa_cons (pe_fld (pv 10) rfl) (pa_cons (pe_meth0 (pv 10) T.cl_Store T.M_m_things (ok_m_things T TB) (hr.mono (by decide)) T.b_m_things .nil pass0) pa_nil))) (pv 9) (nomark _))))))))))))))))))), ?_⟩
    have cell : ∀ {σ : L2.St} {B : Hp} (i : Int), 0 ≤ i → Ex H B → σ[0]? = some (some (.ref a)) → ∀ {te : TE}, Ev te σ B (.int i) → Ev (tCall (spCell K) [] E0 (tCons (tVar 0) (tCons te tNil))) σ B (.int (cellN ns i.toNat)) := fun i hi e h0 te h => ev_call (vs := [.ref a, .int i]) (ea_cons (ev_var h0) (ea_cons h ea_nil)) (spv_cell (ex_l e hS) i hi)
    have dvE : ∀ {σ : L2.St} {B : Hp} {te : TE} {i m : Int}, Ev te σ B (.int i) → (0 < m ∧ m ≤ 100000) → Ev (tOp (rI CDiv fun i j => V.int (i / j)) te (tC (.int m))) σ B (.int (i / m)) := fun {σ B te i m} h hm => ev_op (x := .int i) (y := .int m) h ev_c (rv_I (show CDiv _ _ from ⟨by omega, by omega⟩))
    have mdE : ∀ {σ : L2.St} {B : Hp} {te : TE} {i m : Int}, Ev te σ B (.int i) → 0 < m → Ev (tOp (rI (fun _ j => 0 < j) fun i j => .int (i % j)) te (tC (.int m))) σ B (.int (i % m)) := fun {σ B te i m} h hm => ev_op (x := .int i) (y := .int m) h ev_c (rv_I (show (0 : Int) < m from hm))
    -- the bound
    have cc : ∀ {σ : L2.St} {B : Hp} (i : Int), 0 ≤ i → Ex H B → σ[0]? = some (some (.ref a)) → Ev (tCall (spCell K) [] E0 (tCons (tVar 0) (tCons (tC (.int i)) tNil))) σ B (.int (cellN ns i.toNat)) := fun i hi e h => cell i hi e h ev_c
    have b1 := mod_b (cellN ns (0 : Int).toNat / 4) (m := 3) (by decide)
    have b2 := mod_b (cellN ns (0 : Int).toNat / 4) (m := 64) (by decide)
    show tSeq _ _ _ [some (.ref a), none, none, none, none, none, none, none, none, none, none] H
    refine q_asg (v := .int (1 + cellN ns (0 : Int).toNat / 4 % 3)) (ev_op (x := .int 1) (y := .int (cellN ns (0 : Int).toNat / 4 % 3)) ev_c (mdE (dvE (cc 0 (by decide) (.refl _) rfl) (by decide)) (by decide)) rv_I0) fun H1 e1 => ?_
    show tSeq _ _ _ [some (.ref a), some (.int (1 + cellN ns (0 : Int).toNat / 4 % 3)), none, none, none, none, none, none, none, none, none] H1
    refine q_whenM (b := decide (V.int (cellN ns (0 : Int).toNat % 4) = V.int 1)) (M := fun σ' B => ∃ b : Nat, (1 ≤ b ∧ b ≤ 64) ∧ Ex H B ∧ σ' = [some (.ref a), some (.int (b : Int)), none, none, none, none, none, none, none, none, none]) (et_test (ev_op (x := .int (cellN ns (0 : Int).toNat % 4)) (y := .int 1) (mdE (cc 0 (by decide) e1 rfl) (by decide)) ev_c (rv_eq rfl))) ?_ ?_ ?_
    · intro _ kM B b
      obtain ⟨n, hn⟩ := Int.eq_ofNat_of_zero_le (show 0 ≤ 1 + cellN ns (0 : Int).toNat / 4 % 64 by omega)
      refine s_asg (v := .int (n : Int)) (ev_is (ev_op (x := .int 1) (y := .int (cellN ns (0 : Int).toNat / 4 % 64)) ev_c (mdE (dvE (cc 0 (by decide) (e1.trans b) rfl) (by decide)) (by decide)) rv_I0) (congrArg V.int hn)) fun C c => kM _ _ ⟨n, by omega, (e1.trans b).trans c, rfl⟩
    · intro _ B b
      obtain ⟨n, hn⟩ := Int.eq_ofNat_of_zero_le (show 0 ≤ 1 + cellN ns (0 : Int).toNat / 4 % 3 by omega)
      exact ⟨n, by omega, e1.trans b, by rw [hn]⟩
    rintro σ' H2 ⟨b, hb, x2, rfl⟩
    clear b1 b2 e1
    -- frame, how many
    show tSeq _ _ _ [some (.ref a), some (.int (b : Int)), none, none, none, none, none, none, none, none, none] H2
    refine q_asg (v := .int (cellN ns (1 : Int).toNat)) (cc 1 (by decide) x2 rfl) fun H3 e3 => ?_
    generalize cellN ns (1 : Int).toNat = fr
    show tSeq _ _ _ [some (.ref a), some (.int (b : Int)), some (.int fr), none, none, none, none, none, none, none, none] H3
    have m1 := mod_b (cellN ns (2 : Int).toNat) (m := 13) (by decide)
    have m2 := mod_b (cellN ns (2 : Int).toNat / 52) (m := 66) (by decide)
    refine q_asg (v := .int (cellN ns (2 : Int).toNat % 13)) (mdE (cc 2 (by decide) (x2.trans e3) rfl) (by decide)) fun H4 e4 => ?_
    have x4 := (x2.trans e3).trans e4
    show tSeq _ _ _ [some (.ref a), some (.int (b : Int)), some (.int fr), some (.int (cellN ns (2 : Int).toNat % 13)), none, none, none, none, none, none, none] H4
    refine q_whenM (b := decide (V.int (cellN ns (2 : Int).toNat / 13 % 4) = V.int 1)) (M := fun σ' B => ∃ n : Nat, n ≤ 66 ∧ Ex H B ∧ σ' = [some (.ref a), some (.int (b : Int)), some (.int fr), some (.int (n : Int)), none, none, none, none, none, none, none]) (et_test (ev_op (x := .int (cellN ns (2 : Int).toNat / 13 % 4)) (y := .int 1) (mdE (dvE (cc 2 (by decide) x4 rfl) (by decide)) (by decide)) ev_c (rv_eq rfl))) ?_ ?_ ?_
    · intro _ kM B b
      obtain ⟨n, hn⟩ := Int.eq_ofNat_of_zero_le m2.1
      refine s_asg (v := .int (n : Int)) (ev_is (mdE (dvE (cc 2 (by decide) (x4.trans b) rfl) (by decide)) (by decide)) (congrArg V.int hn)) fun C c => kM _ _ ⟨n, by omega, (x4.trans b).trans c, rfl⟩
    · intro _ B b
      obtain ⟨n, hn⟩ := Int.eq_ofNat_of_zero_le m1.1
      exact ⟨n, by omega, x4.trans b, by rw [hn]⟩
    rintro σ' H5 ⟨n0, hn0, x5, rfl⟩
    clear m1 m2 e4 x4 e3 x2
    show tSeq _ _ _ [some (.ref a), some (.int (b : Int)), some (.int fr), some (.int (n0 : Int)), none, none, none, none, none, none, none] H5
    -- the plain things
    refine q_asgG eg_dnew ?_
    rintro v H6 e6 ⟨dp, rfl, hdp5, hdp⟩
    have x6 := x5.trans e6
    have hdp0 : H dp = none := x5.dom dp hdp5
    show tSeq _ _ _ [some (.ref a), some (.int (b : Int)), some (.int fr), some (.int (n0 : Int)), some (.ref dp), none, none, none, none, none, none] H6
    refine q_forR1 (n := n0) (ea_cons (ev_var rfl) ea_nil) (by omega) (fun i σ' B => ∃ (ps : List (Int × Int)) (kp : List (Key × V)) (u5 u6 u7 : Option V), Ex H B ∧ Names ps ∧ (∀ p ∈ ps, p.2.natAbs < 10 ^ 4) ∧ B dp = some (.dK kp) ∧ PD kp ps ∧ kp.length ≤ i ∧ σ' = [some (.ref a), some (.int (b : Int)), some (.int fr), some (.int (n0 : Int)), some (.ref dp), u5, u6, u7, none, none, none]) ?_ ?_ ?_
    · intro B e
      exact ⟨[], [], none, none, none, x6.trans e, names_nil, by simp, e.k hdp, pd_nil, Nat.le_refl _, rfl⟩
    · rintro i σ' B hi ⟨ps, kp, u5, u6, u7, x, hN, hv4, hk, hpd, hkl, rfl⟩
      show tSeq _ _ _ [some (.ref a), some (.int (b : Int)), some (.int fr), some (.int (n0 : Int)), some (.ref dp), some (.int (i : Int)), u6, u7, none, none, none] B
      have mi := mod_b (i : Int) (m := 12) (by decide)
      refine q_asg (v := .int (cellN ns (5 + (i : Int) % 12).toNat + (i : Int) / 12 * 41)) (ev_op (x := .int (cellN ns (5 + (i : Int) % 12).toNat)) (y := .int ((i : Int) / 12 * 41)) (cell (5 + (i : Int) % 12) (by omega) x rfl (ev_op (x := .int 5) (y := .int ((i : Int) % 12)) ev_c (mdE (ev_var rfl) (by decide)) rv_I0)) (ev_op (x := .int ((i : Int) / 12)) (y := .int 41) (dvE (ev_var rfl) (by decide)) ev_c (rv_I (show CMul _ _ from .inr ⟨by decide, by decide⟩))) rv_I0) fun B1 b1 => ?_
      generalize cellN ns (5 + (i : Int) % 12).toNat + (i : Int) / 12 * 41 = m
      show tSeq _ _ _ [some (.ref a), some (.int (b : Int)), some (.int fr), some (.int (n0 : Int)), some (.ref dp), some (.int (i : Int)), some (.int m), u7, none, none, none] B1
      have n1 := mod_b m (m := 256) (by decide)
      refine q_asg (v := .int (m % 256)) (mdE (ev_var rfl) (by decide)) fun B2 b2 => ?_
      show tSeq _ _ _ [some (.ref a), some (.int (b : Int)), some (.int fr), some (.int (n0 : Int)), some (.ref dp), some (.int (i : Int)), some (.int m), some (.int (m % 256)), none, none, none] B2
      refine q_whenM (b := decide (V.int (fr % 2) = V.int 1)) (M := fun σ' C => ∃ nm : Int, (0 ≤ nm ∧ nm < 256) ∧ Ex B2 C ∧ σ' = [some (.ref a), some (.int (b : Int)), some (.int fr), some (.int (n0 : Int)), some (.ref dp), some (.int (i : Int)), some (.int m), some (.int nm), none, none, none]) (et_test (ev_op (x := .int (fr % 2)) (y := .int 1) (mdE (ev_var rfl) (by decide)) ev_c (rv_eq rfl))) ?_ ?_ ?_
      · intro _ kM C c
        have n2 := mod_b ((fr / 2 % 16 * 16 + m % 16 - 37) * 3) (m := 256) (by decide)
        refine s_asg (v := .int ((fr / 2 % 16 * 16 + m % 16 - 37) * 3 % 256)) (mdE (ev_op (x := .int (fr / 2 % 16 * 16 + m % 16 - 37)) (y := .int 3) (ev_op (x := .int (fr / 2 % 16 * 16 + m % 16)) (y := .int 37) (ev_op (x := .int (fr / 2 % 16 * 16)) (y := .int (m % 16)) (ev_op (x := .int (fr / 2 % 16)) (y := .int 16) (mdE (dvE (ev_var rfl) (by decide)) (by decide)) ev_c (rv_I (show CMul _ _ from .inr ⟨by decide, by decide⟩))) (mdE (ev_var rfl) (by decide)) rv_I0) ev_c rv_I0) ev_c (rv_I (show CMul _ _ from .inr ⟨by decide, by decide⟩))) (by decide)) fun C2 c2 => kM _ _ ⟨_, n2, c.trans c2, rfl⟩
      · intro _ C c
        exact ⟨m % 256, n1, c, rfl⟩
      rintro σ' C ⟨nm, hnm, c, rfl⟩
      have xC := x.trans ((b1.trans b2).trans c)
      have hkC := ((b1.trans b2).trans c).k hk
      have vv := mod_b (m / 16 + fr) (m := 2001) (by decide)
      refine s_dput (k := Sum.inl nm) (P := fun _ v _ => v = .int ((m / 16 + fr) % 2001 - 1000)) (Ev.g (ev_op (x := .int ((m / 16 + fr) % 2001)) (y := .int 1000) (mdE (ev_op (x := .int (m / 16)) (y := .int fr) (dvE (ev_var rfl) (by decide)) (ev_var rfl) rv_I0) (by decide)) ev_c rv_I0) fun _ _ _ _ => rfl) (ev_var rfl) (ev_var rfl) hkC (by omega) ?_
      rintro v C1 C2 c1 rfl c2
      have z2 := c1.trans c2
      generalize hval : (m / 16 + fr) % 2001 - 1000 = val
      have hvl : val.natAbs < 10 ^ 4 := by
        have : (10 : Nat) ^ 4 = 10000 := by decide
        omega
      refine ⟨insT ps nm val, putK kp (Sum.inl nm) (.int val), _, _, _, Ex.mutD (xC.trans z2) hdp0 (z2.k hkC), hN.ins val hnm.1 hnm.2, fun p hp => ?_, upd_same, hpd.put nm val, ?_, rfl⟩
      · rcases (mem_insT hN).mp hp with e | ⟨e, _⟩
        · rw [e]
          exact hvl
        · exact hv4 p e
      · unfold putK
        split
        · rw [List.length_map]
          omega
        · rw [List.length_append]
          show kp.length + 1 ≤ i + 1
          omega
    rintro σ' H7 ⟨ps, kp, u5, u6, u7, x7, hN, hv4, hk7, hpd, hkl, rfl⟩
    obtain ⟨ks, hk1, hperm, hsome⟩ := hpd.perm hN
    have hpl : ps.length ≤ 66 := by
      rw [← hpd.len hN]
      omega
    have hv : VB ps := fun p hp => Nat.lt_of_lt_of_le (hv4 p hp) (Nat.le_of_ble_eq_true rfl)
    have hkl2 : ks.length ≤ 40000 := by
      have := hperm.length_eq
      rw [List.length_map] at this
      omega
    show tSeq _ _ _ [some (.ref a), some (.int (b : Int)), some (.int fr), some (.int (n0 : Int)), some (.ref dp), u5, u6, u7, none, none, none] H7
    refine q_asg (v := .str (wr b ps)) (ev_callAGv (eag_consG (R := fun v B => ∃ l, v = .ref l ∧ LR rpT B l (ks.map fun n => (n, (valT ps n).getD 0))) ((el_plainD (σ := [some (.ref a), some (.int (b : Int)), some (.int fr), some (.int (n0 : Int)), some (.ref dp), u5, u6, u7, none, none, none]) hpd hk1 hsome hkl2 hk7 rfl (fun _ => rfl) (fun _ => rfl) (fun _ => rfl)).imp fun A v B _ _ ⟨l, e, _, L⟩ => ⟨l, e, L⟩) (fun v B C e ⟨l, ev, L⟩ => ⟨l, ev, L.mono e⟩) (ea_cons (ev_var rfl) ea_nil)) fun vs B e ⟨v, hvs, l, ev, L⟩ => by
      subst hvs ev
      exact spv_textL L hperm.symm hN hv hb) fun H8 e8 => ?_
    obtain ⟨has, hal⟩ := wr_short hb hN hv4 hpl
    have x8 := x7.trans e8
    show tSeq _ _ _ [some (.ref a), some (.int (b : Int)), some (.int fr), some (.int (n0 : Int)), some (.ref dp), u5, u6, u7, some (.str (S (textL b (roomsT b ps)))), none, none] H8
    refine q_asgCall (vs := [.str (S (textL b (roomsT b ps))), .int (cellN ns (3 : Int).toNat), .int (cellN ns (4 : Int).toNat)]) (ea_cons (ev_var rfl) (ea_cons (cc 3 (by decide) x8 rfl) (ea_cons (cc 4 (by decide) x8 rfl) ea_nil))) fun H9 e9 => ⟨_, _, _, rfl, has, hal, fun a' h1 h2 H10 e10 => ?_⟩
    have x10 := (x8.trans e9).trans e10
    show tSeq _ _ _ [some (.ref a), some (.int (b : Int)), some (.int fr), some (.int (n0 : Int)), some (.ref dp), u5, u6, u7, some (.str (S a')), none, none] H10
    refine q_asgCall (vs := [.str (S a')]) (ea_cons (ev_var rfl) ea_nil) fun H11 e11 => ⟨a', rfl, h1, h2, fun hn H12 e12 => ?_, fun b' ps' hs t l H12 e12 ht hL => ?_⟩
    · have x12 := (x10.trans e11).trans e12
      show tSeq _ _ _ [some (.ref a), some (.int (b : Int)), some (.int fr), some (.int (n0 : Int)), some (.ref dp), u5, u6, u7, some (.str (S a')), some .non, none] H12
      refine q_when (b := true) (et_is (et_test (ev_op (x := .non) (y := .non) (ev_var rfl) ev_c rv_isN)) (decide_eq_true rfl)) (fun _ B c => s_retk (v := .bl true) (ev_call (vs := [.str (S a')]) (ea_cons (ev_var rfl) ea_nil) (fun A e Q q E => ⟨a', rfl, h1, h2, lawRead_none hn, q⟩)) (k.mono (x12.trans c))) (fun z => nomatch z)
    · have x12 := (x10.trans e11).trans e12
      obtain ⟨hw, hb', hv', hN'⟩ := lawRead_some hs
      obtain ⟨R, D, G⟩ := good_ex hb'.1 hN'
      show tSeq _ _ _ [some (.ref a), some (.int (b : Int)), some (.int fr), some (.int (n0 : Int)), some (.ref dp), u5, u6, u7, some (.str (S a')), some (.ref t), none] H12
      refine q_when (b := false) (et_is (et_test (ev_op (x := .ref t) (y := .non) (ev_var rfl) ev_c rv_isN)) (decide_eq_false (fun z => nomatch z))) (fun z => nomatch z) fun _ H13 e13 => ?_
      refine q_asgCall (vs := [.str (S a')]) (ea_cons (ev_var rfl) ea_nil) fun H14 e14 => ⟨b', R, D, ps', by rw [hw]; rfl, G, hb', hv', fun p d bd kvs R' D' H15 hp hd e15 S15 G15 => ?_⟩
      have x15 := x12.trans ((e13.trans e14).trans e15)
      have ht15 := ((e13.trans e14).trans e15).k ht
      have hL15 := hL.mono ((e13.trans e14).trans e15)
      show tRet _ _ [some (.ref a), some (.int (b : Int)), some (.int fr), some (.int (n0 : Int)), some (.ref dp), u5, u6, u7, some (.str (S a')), some (.ref t), some (.ref p)] H15
      refine s_retk (v := .bl true) (ev_andV (a := true) (b := true) (ev_cb (ea_cons (x := .ref p) (ev_var rfl) (ea_cons ev_c ea_nil)) (rc_isiS T (let ⟨dx, h⟩ := S15.ob; ⟨dx, _, h⟩))) fun _ => ev_andV (a := true) (b := true) (ev_call (ea_cons (S15.e_bound (ev_var rfl)) ea_nil) spv_whole) fun _ => ?_) (k.mono x15)
      exact ev_eqBT (S15.e_bound (ev_var rfl)) (S15.e_methLR (ev_var rfl) ea_nil fun A e Q1 q1 E1 => ⟨_, _, _, _, b', _, _, _, rfl, (G15.st S15).mono e, G15.nd, (x15.trans e).tabs hT, q1⟩) (ev_var rfl) ht15 hL15
end


/-- the table -/
abbrev tcx (P0 : Addr) : TabCx := ⟨[(P0, lq_things)], by rw [List.map_cons, List.map_nil, List.nodup_cons]; exact ⟨List.not_mem_nil, .nil⟩⟩
set_option maxHeartbeats 4000000 in
theorem all_mk {l : PySem.W.OpenLaw} {w : World} {K : PySem.W.Frag} {h : Heap} {mg : Str → Option Value} {fa : Addr} (X : K.In h) (G : h.Ns mainGlobals mg) (hfa : mg "law" = some (.ref fa))
    {C0 : Addr}
    {C1 : Addr}
    {C2 : Addr}
    {C3 : Addr}
    {C4 : Addr}
    {C5 : Addr}
    {f0 : Addr} {od0 an0 : Option Addr} {sl0 : Array (Option Value)} {oc0 kV0 dc0 pm0 cd0 ct0 : Value}
    {f1 : Addr} {od1 an1 : Option Addr} {sl1 : Array (Option Value)} {oc1 kV1 dc1 pm1 cd1 ct1 : Value}
    {f2 : Addr} {od2 an2 : Option Addr} {sl2 : Array (Option Value)} {oc2 kV2 dc2 pm2 cd2 ct2 : Value}
    {f3 : Addr} {od3 an3 : Option Addr} {sl3 : Array (Option Value)} {oc3 kV3 dc3 pm3 cd3 ct3 : Value}
    {f4 : Addr} {od4 an4 : Option Addr} {sl4 : Array (Option Value)} {oc4 kV4 dc4 pm4 cd4 ct4 : Value}
    {f5 : Addr} {od5 an5 : Option Addr} {sl5 : Array (Option Value)} {oc5 kV5 dc5 pm5 cd5 ct5 : Value}
    {f6 : Addr} {od6 an6 : Option Addr} {sl6 : Array (Option Value)} {oc6 kV6 dc6 pm6 cd6 ct6 : Value}
    {f7 : Addr} {od7 an7 : Option Addr} {sl7 : Array (Option Value)} {oc7 kV7 dc7 pm7 cd7 ct7 : Value}
    {f8 : Addr} {od8 an8 : Option Addr} {sl8 : Array (Option Value)} {oc8 kV8 dc8 pm8 cd8 ct8 : Value}
    {f9 : Addr} {od9 an9 : Option Addr} {sl9 : Array (Option Value)} {oc9 kV9 dc9 pm9 cd9 ct9 : Value}
    {f10 : Addr} {od10 an10 : Option Addr} {sl10 : Array (Option Value)} {oc10 kV10 dc10 pm10 cd10 ct10 : Value}
    {f11 : Addr} {od11 an11 : Option Addr} {sl11 : Array (Option Value)} {oc11 kV11 dc11 pm11 cd11 ct11 : Value}
    {f12 : Addr} {od12 an12 : Option Addr} {sl12 : Array (Option Value)} {oc12 kV12 dc12 pm12 cd12 ct12 : Value}
    {f13 : Addr} {od13 an13 : Option Addr} {sl13 : Array (Option Value)} {oc13 kV13 dc13 pm13 cd13 ct13 : Value}
    {f14 : Addr} {od14 an14 : Option Addr} {sl14 : Array (Option Value)} {oc14 kV14 dc14 pm14 ct14 : Value}
    {cc14 PP0 : Addr}
    {f15 : Addr} {od15 an15 : Option Addr} {sl15 : Array (Option Value)} {oc15 kV15 dc15 pm15 cd15 ct15 : Value}
    {f16 : Addr} {od16 an16 : Option Addr} {sl16 : Array (Option Value)} {oc16 kV16 dc16 pm16 cd16 ct16 : Value}
    {f17 : Addr} {od17 an17 : Option Addr} {sl17 : Array (Option Value)} {oc17 kV17 dc17 pm17 cd17 ct17 : Value}
    {f18 : Addr} {od18 an18 : Option Addr} {sl18 : Array (Option Value)} {oc18 kV18 dc18 pm18 cd18 ct18 : Value}
    {f19 : Addr} {od19 an19 : Option Addr} {sl19 : Array (Option Value)} {oc19 kV19 dc19 pm19 cd19 ct19 : Value}
    {f20 : Addr} {od20 an20 : Option Addr} {sl20 : Array (Option Value)} {oc20 kV20 dc20 pm20 cd20 ct20 : Value}
    {f21 : Addr} {od21 an21 : Option Addr} {sl21 : Array (Option Value)} {oc21 kV21 dc21 pm21 cd21 ct21 : Value}
    {f22 : Addr} {od22 an22 : Option Addr} {sl22 : Array (Option Value)} {oc22 kV22 dc22 pm22 cd22 ct22 : Value}
    {f23 : Addr} {od23 an23 : Option Addr} {sl23 : Array (Option Value)} {oc23 kV23 dc23 pm23 cd23 ct23 : Value}
    {f24 : Addr} {od24 an24 : Option Addr} {sl24 : Array (Option Value)} {oc24 kV24 dc24 pm24 cd24 ct24 : Value}
    {f25 : Addr} {od25 an25 : Option Addr} {sl25 : Array (Option Value)} {oc25 kV25 dc25 pm25 cd25 ct25 : Value}
    {f26 : Addr} {od26 an26 : Option Addr} {sl26 : Array (Option Value)} {oc26 kV26 dc26 pm26 cd26 ct26 : Value}
    {f27 : Addr} {od27 an27 : Option Addr} {sl27 : Array (Option Value)} {oc27 kV27 dc27 pm27 cd27 ct27 : Value}
    {f28 : Addr} {od28 an28 : Option Addr} {sl28 : Array (Option Value)} {oc28 kV28 dc28 pm28 cd28 ct28 : Value}
    {f29 : Addr} {od29 an29 : Option Addr} {sl29 : Array (Option Value)} {oc29 kV29 dc29 pm29 cd29 ct29 : Value}
    {f30 : Addr} {od30 an30 : Option Addr} {sl30 : Array (Option Value)} {oc30 kV30 dc30 pm30 cd30 ct30 : Value}
    {f31 : Addr} {od31 an31 : Option Addr} {sl31 : Array (Option Value)} {oc31 kV31 dc31 pm31 cd31 ct31 : Value}
    {f32 : Addr} {od32 an32 : Option Addr} {sl32 : Array (Option Value)} {oc32 kV32 dc32 pm32 cd32 ct32 : Value}
    {f33 : Addr} {od33 an33 : Option Addr} {sl33 : Array (Option Value)} {oc33 kV33 dc33 pm33 cd33 ct33 : Value}
    {f34 : Addr} {od34 an34 : Option Addr} {sl34 : Array (Option Value)} {oc34 kV34 dc34 pm34 cd34 ct34 : Value}
    {t0 : Tok}
    {t1 : Tok}
    {t2 : Tok}
    {t3 : Tok}
    {t4 : Tok}
    {t5 : Tok}
    {t6 : Tok}
    {t7 : Tok}
    {ts : List Addr}
    (qC0 : PySem.W.nsIn K mainGlobals "RoomError" = some (some (.ref C0)))
    (qC1 : PySem.W.nsIn K mainGlobals "BadName" = some (some (.ref C1)))
    (qC2 : PySem.W.nsIn K mainGlobals "BadBound" = some (some (.ref C2)))
    (qC3 : PySem.W.nsIn K mainGlobals "NoThing" = some (some (.ref C3)))
    (qC4 : PySem.W.nsIn K mainGlobals "NoStore" = some (some (.ref C4)))
    (qC5 : PySem.W.nsIn K mainGlobals "Store" = some (some (.ref C5)))
    (a0 : PySem.W.nsIn K mainGlobals "doubled" = some (some (.ref f0)))
    (l0 : K.lookup f0 = some ⟨oc0, od0, .func (PySem.W.fnOf "doubled" "doubled" (defArgs s_doubled) (defBody s_doubled) (defScope s_doubled) .none kV0 dc0 pm0 an0 cd0 ct0), sl0⟩)
    (c0 : PySem.W.codeIn K cd0 "doubled" = true) (k0 : PySem.W.keepIn K (.ref f0) = true)
    (a1 : PySem.W.nsIn K mainGlobals "parted_at" = some (some (.ref f1)))
    (l1 : K.lookup f1 = some ⟨oc1, od1, .func (PySem.W.fnOf "parted_at" "parted_at" (defArgs s_parted_at) (defBody s_parted_at) (defScope s_parted_at) .none kV1 dc1 pm1 an1 cd1 ct1), sl1⟩)
    (c1 : PySem.W.codeIn K cd1 "parted_at" = true) (k1 : PySem.W.keepIn K (.ref f1) = true)
    (a2 : PySem.W.nsIn K mainGlobals "check_name" = some (some (.ref f2)))
    (l2 : K.lookup f2 = some ⟨oc2, od2, .func (PySem.W.fnOf "check_name" "check_name" (defArgs s_check_name) (defBody s_check_name) (defScope s_check_name) .none kV2 dc2 pm2 an2 cd2 ct2), sl2⟩)
    (c2 : PySem.W.codeIn K cd2 "check_name" = true) (k2 : PySem.W.keepIn K (.ref f2) = true)
    (a3 : PySem.W.nsIn K mainGlobals "mixed" = some (some (.ref f3)))
    (l3 : K.lookup f3 = some ⟨oc3, od3, .func (PySem.W.fnOf "mixed" "mixed" (defArgs s_mixed) (defBody s_mixed) (defScope s_mixed) .none kV3 dc3 pm3 an3 cd3 ct3), sl3⟩)
    (c3 : PySem.W.codeIn K cd3 "mixed" = true) (k3 : PySem.W.keepIn K (.ref f3) = true)
    (a4 : PySem.W.nsIn K mainGlobals "signs" = some (some (.ref f4)))
    (l4 : K.lookup f4 = some ⟨oc4, od4, .func (PySem.W.fnOf "signs" "signs" (defArgs s_signs) (defBody s_signs) (defScope s_signs) .none kV4 dc4 pm4 an4 cd4 ct4), sl4⟩)
    (c4 : PySem.W.codeIn K cd4 "signs" = true) (k4 : PySem.W.keepIn K (.ref f4) = true)
    (a5 : PySem.W.nsIn K mainGlobals "with_thing" = some (some (.ref f5)))
    (l5 : K.lookup f5 = some ⟨oc5, od5, .func (PySem.W.fnOf "with_thing" "with_thing" (defArgs s_with_thing) (defBody s_with_thing) (defScope s_with_thing) .none kV5 dc5 pm5 an5 cd5 ct5), sl5⟩)
    (c5 : PySem.W.codeIn K cd5 "with_thing" = true) (k5 : PySem.W.keepIn K (.ref f5) = true)
    (a6 : PySem.W.nsIn K mainGlobals "value_in" = some (some (.ref f6)))
    (l6 : K.lookup f6 = some ⟨oc6, od6, .func (PySem.W.fnOf "value_in" "value_in" (defArgs s_value_in) (defBody s_value_in) (defScope s_value_in) .none kV6 dc6 pm6 an6 cd6 ct6), sl6⟩)
    (c6 : PySem.W.codeIn K cd6 "value_in" = true) (k6 : PySem.W.keepIn K (.ref f6) = true)
    (a7 : PySem.W.nsIn K mainGlobals "next_sign" = some (some (.ref f7)))
    (l7 : K.lookup f7 = some ⟨oc7, od7, .func (PySem.W.fnOf "next_sign" "next_sign" (defArgs s_next_sign) (defBody s_next_sign) (defScope s_next_sign) .none kV7 dc7 pm7 an7 cd7 ct7), sl7⟩)
    (c7 : PySem.W.codeIn K cd7 "next_sign" = true) (k7 : PySem.W.keepIn K (.ref f7) = true)
    (a8 : PySem.W.nsIn K mainGlobals "parted" = some (some (.ref f8)))
    (l8 : K.lookup f8 = some ⟨oc8, od8, .func (PySem.W.fnOf "parted" "parted" (defArgs s_parted) (defBody s_parted) (defScope s_parted) .none kV8 dc8 pm8 an8 cd8 ct8), sl8⟩)
    (c8 : PySem.W.codeIn K cd8 "parted" = true) (k8 : PySem.W.keepIn K (.ref f8) = true)
    (a9 : PySem.W.nsIn K mainGlobals "check_bound" = some (some (.ref f9)))
    (l9 : K.lookup f9 = some ⟨oc9, od9, .func (PySem.W.fnOf "check_bound" "check_bound" (defArgs s_check_bound) (defBody s_check_bound) (defScope s_check_bound) .none kV9 dc9 pm9 an9 cd9 ct9), sl9⟩)
    (c9 : PySem.W.codeIn K cd9 "check_bound" = true) (k9 : PySem.W.keepIn K (.ref f9) = true)
    (a10 : PySem.W.findIn K (.ref C5) "__init__" = some (some (.ref f10))) (i10 : PySem.W.isFn K (.ref f10) = true)
    (l10 : K.lookup f10 = some ⟨oc10, od10, .func (PySem.W.fnOf "__init__" "Store.__init__" (defArgs s_m___init__) (defBody s_m___init__) (defScope s_m___init__) .none kV10 dc10 pm10 an10 cd10 ct10), sl10⟩)
    (c10 : PySem.W.codeIn K cd10 "Store.__init__" = true) (k10 : PySem.W.keepIn K (.ref f10) = true)
    (a11 : PySem.W.findIn K (.ref C5) "put" = some (some (.ref f11))) (i11 : PySem.W.isFn K (.ref f11) = true)
    (l11 : K.lookup f11 = some ⟨oc11, od11, .func (PySem.W.fnOf "put" "Store.put" (defArgs s_m_put) (defBody s_m_put) (defScope s_m_put) .none kV11 dc11 pm11 an11 cd11 ct11), sl11⟩)
    (c11 : PySem.W.codeIn K cd11 "Store.put" = true) (k11 : PySem.W.keepIn K (.ref f11) = true)
    (a12 : PySem.W.findIn K (.ref C5) "board" = some (some (.ref f12))) (i12 : PySem.W.isFn K (.ref f12) = true)
    (l12 : K.lookup f12 = some ⟨oc12, od12, .func (PySem.W.fnOf "board" "Store.board" (defArgs s_m_board) (defBody s_m_board) (defScope s_m_board) .none kV12 dc12 pm12 an12 cd12 ct12), sl12⟩)
    (c12 : PySem.W.codeIn K cd12 "Store.board" = true) (k12 : PySem.W.keepIn K (.ref f12) = true)
    (a13 : PySem.W.findIn K (.ref C5) "rooms" = some (some (.ref f13))) (i13 : PySem.W.isFn K (.ref f13) = true)
    (l13 : K.lookup f13 = some ⟨oc13, od13, .func (PySem.W.fnOf "rooms" "Store.rooms" (defArgs s_m_rooms) (defBody s_m_rooms) (defScope s_m_rooms) .none kV13 dc13 pm13 an13 cd13 ct13), sl13⟩)
    (c13 : PySem.W.codeIn K cd13 "Store.rooms" = true) (k13 : PySem.W.keepIn K (.ref f13) = true)
    (a14 : PySem.W.findIn K (.ref C5) "things" = some (some (.ref f14))) (i14 : PySem.W.isFn K (.ref f14) = true)
    (l14 : K.lookup f14 = some ⟨oc14, od14, .func (PySem.W.fnOf "things" "Store.things" (defArgs s_m_things) (defBody s_m_things) (defScope s_m_things) .none kV14 dc14 pm14 an14 (.ref cc14) ct14), sl14⟩)
    (c14 : PySem.W.codeIn K (.ref cc14) "Store.things" = true) (k14 : PySem.W.keepIn K (.ref f14) = true)
    (y0 : tabC K cc14 = some PP0) (n0 : K.lookup PP0 = none) (h0 : PySem.W.codeHdIn K cc14 PP0 = true)
    (a15 : PySem.W.findIn K (.ref C5) "_place_of" = some (some (.ref f15))) (i15 : PySem.W.isFn K (.ref f15) = true)
    (l15 : K.lookup f15 = some ⟨oc15, od15, .func (PySem.W.fnOf "_place_of" "Store._place_of" (defArgs s_m__place_of) (defBody s_m__place_of) (defScope s_m__place_of) .none kV15 dc15 pm15 an15 cd15 ct15), sl15⟩)
    (c15 : PySem.W.codeIn K cd15 "Store._place_of" = true) (k15 : PySem.W.keepIn K (.ref f15) = true)
    (a16 : PySem.W.findIn K (.ref C5) "_bits_of" = some (some (.ref f16))) (i16 : PySem.W.isFn K (.ref f16) = true)
    (l16 : K.lookup f16 = some ⟨oc16, od16, .func (PySem.W.fnOf "_bits_of" "Store._bits_of" (defArgs s_m__bits_of) (defBody s_m__bits_of) (defScope s_m__bits_of) .none kV16 dc16 pm16 an16 cd16 ct16), sl16⟩)
    (c16 : PySem.W.codeIn K cd16 "Store._bits_of" = true) (k16 : PySem.W.keepIn K (.ref f16) = true)
    (a17 : PySem.W.findIn K (.ref C5) "_part_for" = some (some (.ref f17))) (i17 : PySem.W.isFn K (.ref f17) = true)
    (l17 : K.lookup f17 = some ⟨oc17, od17, .func (PySem.W.fnOf "_part_for" "Store._part_for" (defArgs s_m__part_for) (defBody s_m__part_for) (defScope s_m__part_for) .none kV17 dc17 pm17 an17 cd17 ct17), sl17⟩)
    (c17 : PySem.W.codeIn K cd17 "Store._part_for" = true) (k17 : PySem.W.keepIn K (.ref f17) = true)
    (a18 : PySem.W.findIn K (.ref C5) "_part" = some (some (.ref f18))) (i18 : PySem.W.isFn K (.ref f18) = true)
    (l18 : K.lookup f18 = some ⟨oc18, od18, .func (PySem.W.fnOf "_part" "Store._part" (defArgs s_m__part) (defBody s_m__part) (defScope s_m__part) .none kV18 dc18 pm18 an18 cd18 ct18), sl18⟩)
    (c18 : PySem.W.codeIn K cd18 "Store._part" = true) (k18 : PySem.W.keepIn K (.ref f18) = true)
    (a19 : PySem.W.nsIn K mainGlobals "written" = some (some (.ref f19)))
    (l19 : K.lookup f19 = some ⟨oc19, od19, .func (PySem.W.fnOf "written" "written" (defArgs s_written) (defBody s_written) (defScope s_written) .none kV19 dc19 pm19 an19 cd19 ct19), sl19⟩)
    (c19 : PySem.W.codeIn K cd19 "written" = true) (k19 : PySem.W.keepIn K (.ref f19) = true)
    (a20 : PySem.W.nsIn K mainGlobals "row_of" = some (some (.ref f20)))
    (l20 : K.lookup f20 = some ⟨oc20, od20, .func (PySem.W.fnOf "row_of" "row_of" (defArgs s_row_of) (defBody s_row_of) (defScope s_row_of) .none kV20 dc20 pm20 an20 cd20 ct20), sl20⟩)
    (c20 : PySem.W.codeIn K cd20 "row_of" = true) (k20 : PySem.W.keepIn K (.ref f20) = true)
    (a21 : PySem.W.nsIn K mainGlobals "read" = some (some (.ref f21)))
    (l21 : K.lookup f21 = some ⟨oc21, od21, .func (PySem.W.fnOf "read" "read" (defArgs s_read) (defBody s_read) (defScope s_read) .none kV21 dc21 pm21 an21 cd21 ct21), sl21⟩)
    (c21 : PySem.W.codeIn K cd21 "read" = true) (k21 : PySem.W.keepIn K (.ref f21) = true)
    (a22 : PySem.W.nsIn K mainGlobals "things_in" = some (some (.ref f22)))
    (l22 : K.lookup f22 = some ⟨oc22, od22, .func (PySem.W.fnOf "things_in" "things_in" (defArgs s_things_in) (defBody s_things_in) (defScope s_things_in) .none kV22 dc22 pm22 an22 cd22 ct22), sl22⟩)
    (c22 : PySem.W.codeIn K cd22 "things_in" = true) (k22 : PySem.W.keepIn K (.ref f22) = true)
    (a23 : PySem.W.nsIn K mainGlobals "number_in" = some (some (.ref f23)))
    (l23 : K.lookup f23 = some ⟨oc23, od23, .func (PySem.W.fnOf "number_in" "number_in" (defArgs s_number_in) (defBody s_number_in) (defScope s_number_in) .none kV23 dc23 pm23 an23 cd23 ct23), sl23⟩)
    (c23 : PySem.W.codeIn K cd23 "number_in" = true) (k23 : PySem.W.keepIn K (.ref f23) = true)
    (a24 : PySem.W.nsIn K mainGlobals "_law_whole" = some (some (.ref f24)))
    (l24 : K.lookup f24 = some ⟨oc24, od24, .func (PySem.W.fnOf "_law_whole" "_law_whole" (defArgs s_l_whole) (defBody s_l_whole) (defScope s_l_whole) .none kV24 dc24 pm24 an24 cd24 ct24), sl24⟩)
    (c24 : PySem.W.codeIn K cd24 "_law_whole" = true) (k24 : PySem.W.keepIn K (.ref f24) = true)
    (a25 : PySem.W.nsIn K mainGlobals "_law_cell_at" = some (some (.ref f25)))
    (l25 : K.lookup f25 = some ⟨oc25, od25, .func (PySem.W.fnOf "_law_cell_at" "_law_cell_at" (defArgs s_l_cell_at) (defBody s_l_cell_at) (defScope s_l_cell_at) .none kV25 dc25 pm25 an25 cd25 ct25), sl25⟩)
    (c25 : PySem.W.codeIn K cd25 "_law_cell_at" = true) (k25 : PySem.W.keepIn K (.ref f25) = true)
    (a26 : PySem.W.nsIn K mainGlobals "_law_signs" = some (some (.ref f26)))
    (l26 : K.lookup f26 = some ⟨oc26, od26, .func (PySem.W.fnOf "_law_signs" "_law_signs" (defArgs s_l_signs) (defBody s_l_signs) (defScope s_l_signs) .none kV26 dc26 pm26 an26 cd26 ct26), sl26⟩)
    (c26 : PySem.W.codeIn K cd26 "_law_signs" = true) (k26 : PySem.W.keepIn K (.ref f26) = true)
    (a27 : PySem.W.nsIn K mainGlobals "_law_text" = some (some (.ref f27)))
    (l27 : K.lookup f27 = some ⟨oc27, od27, .func (PySem.W.fnOf "_law_text" "_law_text" (defArgs s_l_text) (defBody s_l_text) (defScope s_l_text) .none kV27 dc27 pm27 an27 cd27 ct27), sl27⟩)
    (c27 : PySem.W.codeIn K cd27 "_law_text" = true) (k27 : PySem.W.keepIn K (.ref f27) = true)
    (a28 : PySem.W.nsIn K mainGlobals "_law_number" = some (some (.ref f28)))
    (l28 : K.lookup f28 = some ⟨oc28, od28, .func (PySem.W.fnOf "_law_number" "_law_number" (defArgs s_l_number) (defBody s_l_number) (defScope s_l_number) .none kV28 dc28 pm28 an28 cd28 ct28), sl28⟩)
    (c28 : PySem.W.codeIn K cd28 "_law_number" = true) (k28 : PySem.W.keepIn K (.ref f28) = true)
    (a29 : PySem.W.nsIn K mainGlobals "_law_read" = some (some (.ref f29)))
    (l29 : K.lookup f29 = some ⟨oc29, od29, .func (PySem.W.fnOf "_law_read" "_law_read" (defArgs s_l_read) (defBody s_l_read) (defScope s_l_read) .none kV29 dc29 pm29 an29 cd29 ct29), sl29⟩)
    (c29 : PySem.W.codeIn K cd29 "_law_read" = true) (k29 : PySem.W.keepIn K (.ref f29) = true)
    (a30 : PySem.W.nsIn K mainGlobals "_law_odd" = some (some (.ref f30)))
    (l30 : K.lookup f30 = some ⟨oc30, od30, .func (PySem.W.fnOf "_law_odd" "_law_odd" (defArgs s_l_odd) (defBody s_l_odd) (defScope s_l_odd) .none kV30 dc30 pm30 an30 cd30 ct30), sl30⟩)
    (c30 : PySem.W.codeIn K cd30 "_law_odd" = true) (k30 : PySem.W.keepIn K (.ref f30) = true)
    (a31 : PySem.W.nsIn K mainGlobals "_law_changed" = some (some (.ref f31)))
    (l31 : K.lookup f31 = some ⟨oc31, od31, .func (PySem.W.fnOf "_law_changed" "_law_changed" (defArgs s_l_changed) (defBody s_l_changed) (defScope s_l_changed) .none kV31 dc31 pm31 an31 cd31 ct31), sl31⟩)
    (c31 : PySem.W.codeIn K cd31 "_law_changed" = true) (k31 : PySem.W.keepIn K (.ref f31) = true)
    (a32 : PySem.W.nsIn K mainGlobals "_law_alone" = some (some (.ref f32)))
    (l32 : K.lookup f32 = some ⟨oc32, od32, .func (PySem.W.fnOf "_law_alone" "_law_alone" (defArgs s_l_alone) (defBody s_l_alone) (defScope s_l_alone) .none kV32 dc32 pm32 an32 cd32 ct32), sl32⟩)
    (c32 : PySem.W.codeIn K cd32 "_law_alone" = true) (k32 : PySem.W.keepIn K (.ref f32) = true)
    (a33 : PySem.W.nsIn K mainGlobals "_law_refused" = some (some (.ref f33)))
    (l33 : K.lookup f33 = some ⟨oc33, od33, .func (PySem.W.fnOf "_law_refused" "_law_refused" (defArgs s_l_refused) (defBody s_l_refused) (defScope s_l_refused) .none kV33 dc33 pm33 an33 cd33 ct33), sl33⟩)
    (c33 : PySem.W.codeIn K cd33 "_law_refused" = true) (k33 : PySem.W.keepIn K (.ref f33) = true)
    (a34 : PySem.W.nsIn K mainGlobals "law" = some (some (.ref f34)))
    (l34 : K.lookup f34 = some ⟨oc34, od34, .func (PySem.W.fnOf "law" "law" (defArgs s_law) (defBody s_law) (defScope s_law) .none kV34 dc34 pm34 an34 cd34 ct34), sl34⟩)
    (c34 : PySem.W.codeIn K cd34 "law" = true) (k34 : PySem.W.keepIn K (.ref f34) = true)
    (stpg : PySem.W.plainGet K C5 Str.empty = true)
    (sthd : PySem.W.hasDictIn K C5 = true)
    (stpo : PySem.W.plainOver K C5 = true)
    (stsa : PySem.W.findIn K (.ref C5) "__setattr__" = some (some (.builtin "object.__setattr__")))
    (stnb : PySem.W.findIn K (.ref C5) "bound" = some none)
    (stnr : PySem.W.findIn K (.ref C5) "_rooms" = some none)
    (stnd : PySem.W.findIn K (.ref C5) "_board" = some none)
    (stnp : PySem.W.findIn K (.ref C5) "_depth" = some none)
    (stmi : PySem.W.makesIn K C5 = true)
    (stkk : PySem.W.keepIn K (.ref C5) = true)
    (exC1 : PySem.W.excIn K C1 [.type "ValueError", .type "Exception", .type "BaseException", .type "object"] "ValueError.__new__" = true)
    (ekcC1 : PySem.W.keepIn K (.ref C1) = true)
    (ebcC1 : PySem.W.subIn K (.ref C1) (.type "BaseException") = some true)
    (etcC1 : PySem.W.typeIn K (.ref C1) = some (.type "type"))
    (exC2 : PySem.W.excIn K C2 [.type "ValueError", .type "Exception", .type "BaseException", .type "object"] "ValueError.__new__" = true)
    (ekcC2 : PySem.W.keepIn K (.ref C2) = true)
    (ebcC2 : PySem.W.subIn K (.ref C2) (.type "BaseException") = some true)
    (etcC2 : PySem.W.typeIn K (.ref C2) = some (.type "type"))
    (exC4 : PySem.W.excIn K C4 [.type "ValueError", .type "Exception", .type "BaseException", .type "object"] "ValueError.__new__" = true)
    (ekcC4 : PySem.W.keepIn K (.ref C4) = true)
    (ebcC4 : PySem.W.subIn K (.ref C4) (.type "BaseException") = some true)
    (etcC4 : PySem.W.typeIn K (.ref C4) = some (.type "type"))
    (e0 : PySem.W.nsIn K mainGlobals "SIGNS" = some (some (.int 8 t0)))
    (e1 : PySem.W.nsIn K mainGlobals "NAMES" = some (some (.int 256 t1)))
    (e2 : PySem.W.nsIn K mainGlobals "FACTOR" = some (some (.int 171 t2)))
    (e3 : PySem.W.nsIn K mainGlobals "SHIFT" = some (some (.int 37 t3)))
    (e4 : PySem.W.nsIn K mainGlobals "LEAST_BOUND" = some (some (.int 1 t4)))
    (e5 : PySem.W.nsIn K mainGlobals "GREATEST_BOUND" = some (some (.int 64 t5)))
    (e6 : PySem.W.nsIn K mainGlobals "BOUND_WORD" = some (some (.str "bound " t6)))
    (e7 : PySem.W.nsIn K mainGlobals "FIGURES" = some (some (.int 60 t7)))
    (z0 : PySem.W.nsIn K mainGlobals "ValueError" = some none)
    (z1 : PySem.W.nsIn K mainGlobals "bool" = some none)
    (z2 : PySem.W.nsIn K mainGlobals "int" = some none)
    (z3 : PySem.W.nsIn K mainGlobals "isinstance" = some none)
    (z4 : PySem.W.nsIn K mainGlobals "len" = some none)
    (z5 : PySem.W.nsIn K mainGlobals "list" = some none)
    (z6 : PySem.W.nsIn K mainGlobals "range" = some none)
    (z7 : PySem.W.nsIn K mainGlobals "sorted" = some none)
    (z8 : PySem.W.nsIn K mainGlobals "str" = some none)
    (z9 : PySem.W.nsIn K mainGlobals "type" = some none)
    (tX_NoStore : L2.ExcC K C4)
    (tk_NoStore_BadName : PySem.W.kitOne K (.ref C4) (.ref C1) = some false)
    (tk_NoStore_BadBound : PySem.W.kitOne K (.ref C4) (.ref C2) = some false)
    (tk_NoStore_NoStore : PySem.W.kitOne K (.ref C4) (.ref C4) = some true)
    (tk_NoStore_NoThing : PySem.W.kitOne K (.ref C4) (.ref C3) = some false)
    (tk_NoStore_ValueError : PySem.W.kitOne K (.ref C4) (.type "ValueError") = some true)
    (te_NoStore_NoStore : PySem.W.exmOne K (.ref C4) (.ref C4) = some true)
    (te_NoStore_RoomError : PySem.W.exmOne K (.ref C4) (.ref C0) = some true)
    (tm_BadName : PySem.W.exmAny K (.ref C1) [.ref C2, .ref C1] = some true)
    (tm_BadBound : PySem.W.exmAny K (.ref C2) [.ref C2, .ref C1] = some true)
    (tm_NoStore : PySem.W.exmAny K (.ref C4) [.ref C2, .ref C1] = some false)
    (tk_Store_Store : PySem.W.kitOne K (.ref C5) (.ref C5) = some true)
    (ty_a : PySem.W.findIn K (.ref C5) "__class__" = some (some (.builtin "object.__class__")))
    (ty_b : PySem.W.specialIn K (.builtin "object.__class__") "__get__" = some (some (.builtin "getset_descriptor.__get__")))
    (ty_c : PySem.W.takesIn K (.builtin "object.__class__") = some true)
    (ty_d : PySem.W.mroIn K C5 (.type "object") = some true)
    (mts : PP0 ∈ ts) :
    ∃ (fd : FuncData) (c0 P0 : Addr), P0 ∈ ts ∧ K.lookup P0 = none ∧ PySem.W.codeHdIn K c0 P0 = true ∧ (∀ (s : Shared) (v : Value), BindsTo s fd ⟨[v], []⟩ [("_law_script", v)]) ∧ ∀ base : Heap, K.In base → base.Ns mainGlobals mg → LamX.TabB base mg c0 P0 → FnOk l.prog w K mg base CX0 12 fa fd ["_law_script"] (@spLawT (tcx P0) K) := by
  have e := hfa.symm.trans (PySem.W.mg_of X G a34)
  cases e
  let T : Top K mg := { d_doubled := ⟨f0, _, fun_mk (st := s_doubled) l0 c0 k0, PySem.W.mg_of X G a0, (fun_mk (st := s_doubled) l0 c0 k0).binds (ps := ["board"]) fun _ _ _ _ _ _ us hl => (match us, hl with | [_], _ => rfl)⟩, d_parted_at := ⟨f1, _, fun_mk (st := s_parted_at) l1 c1 k1, PySem.W.mg_of X G a1, (fun_mk (st := s_parted_at) l1 c1 k1).binds (ps := ["board", "bits"]) fun _ _ _ _ _ _ us hl => (match us, hl with | [_, _], _ => rfl)⟩, d_check_name := ⟨f2, _, fun_mk (st := s_check_name) l2 c2 k2, PySem.W.mg_of X G a2, (fun_mk (st := s_check_name) l2 c2 k2).binds (ps := ["name"]) fun _ _ _ _ _ _ us hl => (match us, hl with | [_], _ => rfl)⟩, d_mixed := ⟨f3, _, fun_mk (st := s_mixed) l3 c3 k3, PySem.W.mg_of X G a3, (fun_mk (st := s_mixed) l3 c3 k3).binds (ps := ["name"]) fun _ _ _ _ _ _ us hl => (match us, hl with | [_], _ => rfl)⟩, d_signs := ⟨f4, _, fun_mk (st := s_signs) l4 c4 k4, PySem.W.mg_of X G a4, (fun_mk (st := s_signs) l4 c4 k4).binds (ps := ["name"]) fun _ _ _ _ _ _ us hl => (match us, hl with | [_], _ => rfl)⟩, d_with_thing := ⟨f5, _, fun_mk (st := s_with_thing) l5 c5 k5, PySem.W.mg_of X G a5, (fun_mk (st := s_with_thing) l5 c5 k5).binds (ps := ["things", "name", "value"]) fun _ _ _ _ _ _ us hl => (match us, hl with | [_, _, _], _ => rfl)⟩, d_value_in := ⟨f6, _, fun_mk (st := s_value_in) l6 c6 k6, PySem.W.mg_of X G a6, (fun_mk (st := s_value_in) l6 c6 k6).binds (ps := ["things", "name"]) fun _ _ _ _ _ _ us hl => (match us, hl with | [_, _], _ => rfl)⟩, d_next_sign := ⟨f7, _, fun_mk (st := s_next_sign) l7 c7 k7, PySem.W.mg_of X G a7, (fun_mk (st := s_next_sign) l7 c7 k7).binds (ps := ["bits", "name"]) fun _ _ _ _ _ _ us hl => (match us, hl with | [_, _], _ => rfl)⟩, d_parted := ⟨f8, _, fun_mk (st := s_parted) l8 c8 k8, PySem.W.mg_of X G a8, (fun_mk (st := s_parted) l8 c8 k8).binds (ps := ["room"]) fun _ _ _ _ _ _ us hl => (match us, hl with | [_], _ => rfl)⟩, d_check_bound := ⟨f9, _, fun_mk (st := s_check_bound) l9 c9 k9, PySem.W.mg_of X G a9, (fun_mk (st := s_check_bound) l9 c9 k9).binds (ps := ["bound"]) fun _ _ _ _ _ _ us hl => (match us, hl with | [_], _ => rfl)⟩, d_m___init__ := ⟨f10, _, fun_mk (st := s_m___init__) l10 c10 k10, ⟨a10, i10, k10⟩, (fun_mk (st := s_m___init__) l10 c10 k10).binds (ps := ["self", "bound"]) fun _ _ _ _ _ _ us hl => (match us, hl with | [_, _], _ => rfl)⟩, d_m_put := ⟨f11, _, fun_mk (st := s_m_put) l11 c11 k11, ⟨a11, i11, k11⟩, (fun_mk (st := s_m_put) l11 c11 k11).binds (ps := ["self", "name", "value"]) fun _ _ _ _ _ _ us hl => (match us, hl with | [_, _, _], _ => rfl)⟩, d_m_board := ⟨f12, _, fun_mk (st := s_m_board) l12 c12 k12, ⟨a12, i12, k12⟩, (fun_mk (st := s_m_board) l12 c12 k12).binds (ps := ["self"]) fun _ _ _ _ _ _ us hl => (match us, hl with | [_], _ => rfl)⟩, d_m_rooms := ⟨f13, _, fun_mk (st := s_m_rooms) l13 c13 k13, ⟨a13, i13, k13⟩, (fun_mk (st := s_m_rooms) l13 c13 k13).binds (ps := ["self"]) fun _ _ _ _ _ _ us hl => (match us, hl with | [_], _ => rfl)⟩, d_m_things := ⟨f14, _, fun_mk (st := s_m_things) l14 c14 k14, ⟨a14, i14, k14⟩, (fun_mk (st := s_m_things) l14 c14 k14).binds (ps := ["self"]) fun _ _ _ _ _ _ us hl => (match us, hl with | [_], _ => rfl)⟩, t_m_things := ⟨cc14, PP0, ⟨_, _, _, _, _, _, _, _, rfl, l14, c14⟩⟩, d_m__place_of := ⟨f15, _, fun_mk (st := s_m__place_of) l15 c15 k15, ⟨a15, i15, k15⟩, (fun_mk (st := s_m__place_of) l15 c15 k15).binds (ps := ["self", "name"]) fun _ _ _ _ _ _ us hl => (match us, hl with | [_, _], _ => rfl)⟩, d_m__bits_of := ⟨f16, _, fun_mk (st := s_m__bits_of) l16 c16 k16, ⟨a16, i16, k16⟩, (fun_mk (st := s_m__bits_of) l16 c16 k16).binds (ps := ["self", "name"]) fun _ _ _ _ _ _ us hl => (match us, hl with | [_, _], _ => rfl)⟩, d_m__part_for := ⟨f17, _, fun_mk (st := s_m__part_for) l17 c17 k17, ⟨a17, i17, k17⟩, (fun_mk (st := s_m__part_for) l17 c17 k17).binds (ps := ["self", "name"]) fun _ _ _ _ _ _ us hl => (match us, hl with | [_, _], _ => rfl)⟩, d_m__part := ⟨f18, _, fun_mk (st := s_m__part) l18 c18 k18, ⟨a18, i18, k18⟩, (fun_mk (st := s_m__part) l18 c18 k18).binds (ps := ["self", "bits"]) fun _ _ _ _ _ _ us hl => (match us, hl with | [_, _], _ => rfl)⟩, d_written := ⟨f19, _, fun_mk (st := s_written) l19 c19 k19, PySem.W.mg_of X G a19, (fun_mk (st := s_written) l19 c19 k19).binds (ps := ["store"]) fun _ _ _ _ _ _ us hl => (match us, hl with | [_], _ => rfl)⟩, d_row_of := ⟨f20, _, fun_mk (st := s_row_of) l20 c20 k20, PySem.W.mg_of X G a20, (fun_mk (st := s_row_of) l20 c20 k20).binds (ps := ["bits", "things"]) fun _ _ _ _ _ _ us hl => (match us, hl with | [_, _], _ => rfl)⟩, d_read := ⟨f21, _, fun_mk (st := s_read) l21 c21 k21, PySem.W.mg_of X G a21, (fun_mk (st := s_read) l21 c21 k21).binds (ps := ["text"]) fun _ _ _ _ _ _ us hl => (match us, hl with | [_], _ => rfl)⟩, d_things_in := ⟨f22, _, fun_mk (st := s_things_in) l22 c22 k22, PySem.W.mg_of X G a22, (fun_mk (st := s_things_in) l22 c22 k22).binds (ps := ["row"]) fun _ _ _ _ _ _ us hl => (match us, hl with | [_], _ => rfl)⟩, d_number_in := ⟨f23, _, fun_mk (st := s_number_in) l23 c23 k23, PySem.W.mg_of X G a23, (fun_mk (st := s_number_in) l23 c23 k23).binds (ps := ["word"]) fun _ _ _ _ _ _ us hl => (match us, hl with | [_], _ => rfl)⟩, d_l_whole := ⟨f24, _, fun_mk (st := s_l_whole) l24 c24 k24, PySem.W.mg_of X G a24, (fun_mk (st := s_l_whole) l24 c24 k24).binds (ps := ["_law_found"]) fun _ _ _ _ _ _ us hl => (match us, hl with | [_], _ => rfl)⟩, d_l_cell_at := ⟨f25, _, fun_mk (st := s_l_cell_at) l25 c25 k25, PySem.W.mg_of X G a25, (fun_mk (st := s_l_cell_at) l25 c25 k25).binds (ps := ["_law_script", "_law_k"]) fun _ _ _ _ _ _ us hl => (match us, hl with | [_, _], _ => rfl)⟩, d_l_signs := ⟨f26, _, fun_mk (st := s_l_signs) l26 c26 k26, PySem.W.mg_of X G a26, (fun_mk (st := s_l_signs) l26 c26 k26).binds (ps := ["_law_name"]) fun _ _ _ _ _ _ us hl => (match us, hl with | [_], _ => rfl)⟩, d_l_text := ⟨f27, _, fun_mk (st := s_l_text) l27 c27 k27, PySem.W.mg_of X G a27, (fun_mk (st := s_l_text) l27 c27 k27).binds (ps := ["_law_plain", "_law_bound"]) fun _ _ _ _ _ _ us hl => (match us, hl with | [_, _], _ => rfl)⟩, d_l_number := ⟨f28, _, fun_mk (st := s_l_number) l28 c28 k28, PySem.W.mg_of X G a28, (fun_mk (st := s_l_number) l28 c28 k28).binds (ps := ["_law_word"]) fun _ _ _ _ _ _ us hl => (match us, hl with | [_], _ => rfl)⟩, d_l_read := ⟨f29, _, fun_mk (st := s_l_read) l29 c29 k29, PySem.W.mg_of X G a29, (fun_mk (st := s_l_read) l29 c29 k29).binds (ps := ["_law_text_here"]) fun _ _ _ _ _ _ us hl => (match us, hl with | [_], _ => rfl)⟩, d_l_odd := ⟨f30, _, fun_mk (st := s_l_odd) l30 c30 k30, PySem.W.mg_of X G a30, (fun_mk (st := s_l_odd) l30 c30 k30).binds (ps := ["_law_cell"]) fun _ _ _ _ _ _ us hl => (match us, hl with | [_], _ => rfl)⟩, d_l_changed := ⟨f31, _, fun_mk (st := s_l_changed) l31 c31 k31, PySem.W.mg_of X G a31, (fun_mk (st := s_l_changed) l31 c31 k31).binds (ps := ["_law_text_here", "_law_cell", "_law_other"]) fun _ _ _ _ _ _ us hl => (match us, hl with | [_, _, _], _ => rfl)⟩, d_l_alone := ⟨f32, _, fun_mk (st := s_l_alone) l32 c32 k32, PySem.W.mg_of X G a32, (fun_mk (st := s_l_alone) l32 c32 k32).binds (ps := ["_law_e", "_law_which"]) fun _ _ _ _ _ _ us hl => (match us, hl with | [_, _], _ => rfl)⟩, d_l_refused := ⟨f33, _, fun_mk (st := s_l_refused) l33 c33 k33, PySem.W.mg_of X G a33, (fun_mk (st := s_l_refused) l33 c33 k33).binds (ps := ["_law_text_here"]) fun _ _ _ _ _ _ us hl => (match us, hl with | [_], _ => rfl)⟩, d_law := ⟨fa, _, fun_mk (st := s_law) l34 c34 k34, PySem.W.mg_of X G a34, (fun_mk (st := s_law) l34 c34 k34).binds (ps := ["_law_script"]) fun _ _ _ _ _ _ us hl => (match us, hl with | [_], _ => rfl)⟩, d_Store := ⟨C5, PySem.W.mg_of X G qC5, ⟨stpg, sthd, stpo, stsa⟩, stnb, stnr, stnd, stnp, stmi, stkk⟩, a_RoomError := C0, g_RoomError := PySem.W.mg_of X G qC0, d_BadName := ⟨C1, PySem.W.mg_of X G qC1, exC1, ekcC1, ebcC1, etcC1⟩, d_BadBound := ⟨C2, PySem.W.mg_of X G qC2, exC2, ekcC2, ebcC2, etcC2⟩, a_NoThing := C3, g_NoThing := PySem.W.mg_of X G qC3, d_NoStore := ⟨C4, PySem.W.mg_of X G qC4, exC4, ekcC4, ebcC4, etcC4⟩, c_SIGNS := ⟨t0, PySem.W.mg_of X G e0⟩, c_NAMES := ⟨t1, PySem.W.mg_of X G e1⟩, c_FACTOR := ⟨t2, PySem.W.mg_of X G e2⟩, c_SHIFT := ⟨t3, PySem.W.mg_of X G e3⟩, c_LEAST_BOUND := ⟨t4, PySem.W.mg_of X G e4⟩, c_GREATEST_BOUND := ⟨t5, PySem.W.mg_of X G e5⟩, c_BOUND_WORD := ⟨t6, PySem.W.mg_of X G e6⟩, c_FIGURES := ⟨t7, PySem.W.mg_of X G e7⟩, z_ValueError := PySem.W.mg_none_of X G z0, z_bool := PySem.W.mg_none_of X G z1, z_int := PySem.W.mg_none_of X G z2, z_isinstance := PySem.W.mg_none_of X G z3, z_len := PySem.W.mg_none_of X G z4, z_list := PySem.W.mg_none_of X G z5, z_range := PySem.W.mg_none_of X G z6, z_sorted := PySem.W.mg_none_of X G z7, z_str := PySem.W.mg_none_of X G z8, z_type := PySem.W.mg_none_of X G z9, X_NoStore := tX_NoStore, k_NoStore_BadName := tk_NoStore_BadName, k_NoStore_BadBound := tk_NoStore_BadBound, k_NoStore_NoStore := tk_NoStore_NoStore, k_NoStore_NoThing := tk_NoStore_NoThing, k_NoStore_ValueError := tk_NoStore_ValueError, e_NoStore_NoStore := te_NoStore_NoStore, e_NoStore_RoomError := te_NoStore_RoomError, m_BadName := tm_BadName, m_BadBound := tm_BadBound, m_NoStore := tm_NoStore, k_Store_Store := tk_Store_Store, y_a := ty_a, y_b := ty_b, y_c := ty_c, y_d := ty_d }
  letI := tcx PP0
  exact ⟨_, cc14, PP0, mts, n0, h0, fun s v => .of_eq rfl, fun base _ _ tb0 => ok_law (P := l.prog) (w := w) (base := base) T ⟨⟨tb0, List.mem_cons_self⟩⟩⟩
theorem walk {l : PySem.W.OpenLaw} {q : Program} {loose : List Str} {XP : (Str → Option Value) → Heap → Prop} {YP : World → Heap → Prop} {d : DefRec} {K : Params → PySem.W.Frag} {ts : List Addr} (hn : l.most = some 63) (hdf : d.params.defaults = [])
    (hY : ∀ (w : World) (h : Heap), YP w h → (K w.params).In h) (hE : ∀ (w : World) (h : Heap), YP w h → ∀ P ∈ ts, h.get? P = some (PySem.W.tabObj #[]))
    (F : ∀ (w : World) (mg : Str → Option Value) (fa : Addr) (h : Heap), (K w.params).In h → h.Ns mainGlobals mg → mg d.name = some (.ref fa) → ∃ (fd : FuncData) (c0 P0 : Addr), P0 ∈ ts ∧ (K w.params).lookup P0 = none ∧ PySem.W.codeHdIn (K w.params) c0 P0 = true ∧ (∀ (s : Shared) (v : Value), BindsTo s fd ⟨[v], []⟩ [("_law_script", v)]) ∧ ∀ base : Heap, (K w.params).In base → base.Ns mainGlobals mg → LamX.TabB base mg c0 P0 → FnOk l.prog w (K w.params) mg base CX0 12 fa fd ["_law_script"] (@spLawT (tcx P0) (K w.params))) :
    PySem.W.WalkO q loose XP YP l.row.toRowW d [] (fun f vs => PySem.call f vs) :=
  Att.attach_callB hn hdf fun w s0 s1 mg mb fa o pm cd doc a vs ns G Y gf hd hcode hmg ga hint hlen hbits hgens => by
    have KX := hY w _ Y
    obtain ⟨fd, c0, P0, m0, n0, h0, hb, hF⟩ := F w mg fa _ KX G.T.g hmg
    letI := tcx P0
    refine LamX.law_callTs (cs := [(c0, P0)]) (sp := spLawT (K w.params)) (CX := CX0) (k := 12) (x := "_law_script") (fd := fd) KX G.T.g G.T.b G.T.builtins G.T.nolimit hgens ?_ ?_ ?_ G.T.bmain ga hint (Nat.le_trans hlen (by decide)) ⟨rfl, by decide, by decide⟩ (fun base X N t => hF base X N (t (c0, P0) List.mem_cons_self)) hb ?_ (fun _ _ _ z => z)
    · intro p hp
      rw [List.mem_singleton.mp hp]
      exact hE w _ Y P0 m0
    · intro p hp
      rw [List.mem_singleton.mp hp]
      exact n0
    · intro p hp
      rw [List.mem_singleton.mp hp]
      exact PySem.W.codeHd_of_K KX h0
    · intro H hH hS
      refine ⟨a, ns, rfl, hS, hlen, fun t ht => ?_, fun _ _ => rfl⟩
      rw [List.mem_singleton.mp ht]
      exact LamX.TabS.nil (hH (c0, P0) List.mem_cons_self)
end Vf
open PySem PySem.W PyProof.Rows
set_option maxRecDepth 100000 in
set_option maxHeartbeats 0 in
theorem PySem.Challenge.cw_splitrooms_k12_read_holds : PySem.Challenge.rw_splitrooms_k12_read.Holds := by
  w_on; o_law; k_head; (case hw => w_witness2)
  k_fill
  refine Vf.walk (l := PySem.Challenge.rw_splitrooms_k12_read) rfl rfl (fun w h Y => PySem.W.km_in_of Y) (fun w h Y => PySem.W.km_tabs_of Y) ?F
  case F =>
    intro w mg fa h KX G hmg
    refine' Vf.all_mk KX G hmg ?qC0 ?qC1 ?qC2 ?qC3 ?qC4 ?qC5 ?a0 ?l0 ?c0 ?k0 ?a1 ?l1 ?c1 ?k1 ?a2 ?l2 ?c2 ?k2 ?a3 ?l3 ?c3 ?k3 ?a4 ?l4 ?c4 ?k4 ?a5 ?l5 ?c5 ?k5 ?a6 ?l6 ?c6 ?k6 ?a7 ?l7 ?c7 ?k7 ?a8 ?l8 ?c8 ?k8 ?a9 ?l9 ?c9 ?k9 ?a10 ?i10 ?l10 ?c10 ?k10 ?a11 ?i11 ?l11 ?c11 ?k11 ?a12 ?i12 ?l12 ?c12 ?k12 ?a13 ?i13 ?l13 ?c13 ?k13 ?a14 ?i14 ?l14 ?c14 ?k14 ?y0 ?n0 ?h0 ?a15 ?i15 ?l15 ?c15 ?k15 ?a16 ?i16 ?l16 ?c16 ?k16 ?a17 ?i17 ?l17 ?c17 ?k17 ?a18 ?i18 ?l18 ?c18 ?k18 ?a19 ?l19 ?c19 ?k19 ?a20 ?l20 ?c20 ?k20 ?a21 ?l21 ?c21 ?k21 ?a22 ?l22 ?c22 ?k22 ?a23 ?l23 ?c23 ?k23 ?a24 ?l24 ?c24 ?k24 ?a25 ?l25 ?c25 ?k25 ?a26 ?l26 ?c26 ?k26 ?a27 ?l27 ?c27 ?k27 ?a28 ?l28 ?c28 ?k28 ?a29 ?l29 ?c29 ?k29 ?a30 ?l30 ?c30 ?k30 ?a31 ?l31 ?c31 ?k31 ?a32 ?l32 ?c32 ?k32 ?a33 ?l33 ?c33 ?k33 ?a34 ?l34 ?c34 ?k34 ?stpg ?sthd ?stpo ?stsa ?stnb ?stnr ?stnd ?stnp ?stmi ?stkk ?exC1 ?ekcC1 ?ebcC1 ?etcC1 ?exC2 ?ekcC2 ?ebcC2 ?etcC2 ?exC4 ?ekcC4 ?ebcC4 ?etcC4 ?e0 ?e1 ?e2 ?e3 ?e4 ?e5 ?e6 ?e7 ?z0 ?z1 ?z2 ?z3 ?z4 ?z5 ?z6 ?z7 ?z8 ?z9 ?tX_NoStore ?tk_NoStore_BadName ?tk_NoStore_BadBound ?tk_NoStore_NoStore ?tk_NoStore_NoThing ?tk_NoStore_ValueError ?te_NoStore_NoStore ?te_NoStore_RoomError ?tm_BadName ?tm_BadBound ?tm_NoStore ?tk_Store_Store ?ty_a ?ty_b ?ty_c ?ty_d ?mts
    (case qC0 => k_is)
    (case qC1 => k_is)
    (case qC2 => k_is)
    (case qC3 => k_is)
    (case qC4 => k_is)
    (case qC5 => k_is)
    (case a0 => k_is)
    (case l0 => k_is)
    (case c0 => k_is)
    (case k0 => k_is)
    (case a1 => k_is)
    (case l1 => k_is)
    (case c1 => k_is)
    (case k1 => k_is)
    (case a2 => k_is)
    (case l2 => k_is)
    (case c2 => k_is)
    (case k2 => k_is)
    (case a3 => k_is)
    (case l3 => k_is)
    (case c3 => k_is)
    (case k3 => k_is)
    (case a4 => k_is)
    (case l4 => k_is)
    (case c4 => k_is)
    (case k4 => k_is)
    (case a5 => k_is)
    (case l5 => k_is)
    (case c5 => k_is)
    (case k5 => k_is)
    (case a6 => k_is)
    (case l6 => k_is)
    (case c6 => k_is)
    (case k6 => k_is)
    (case a7 => k_is)
    (case l7 => k_is)
    (case c7 => k_is)
    (case k7 => k_is)
    (case a8 => k_is)
    (case l8 => k_is)
    (case c8 => k_is)
    (case k8 => k_is)
    (case a9 => k_is)
    (case l9 => k_is)
    (case c9 => k_is)
    (case k9 => k_is)
    (case a10 => k_is)
    (case i10 => k_is)
    (case l10 => k_is)
    (case c10 => k_is)
    (case k10 => k_is)
    (case a11 => k_is)
    (case i11 => k_is)
    (case l11 => k_is)
    (case c11 => k_is)
    (case k11 => k_is)
    (case a12 => k_is)
    (case i12 => k_is)
    (case l12 => k_is)
    (case c12 => k_is)
    (case k12 => k_is)
    (case a13 => k_is)
    (case i13 => k_is)
    (case l13 => k_is)
    (case c13 => k_is)
    (case k13 => k_is)
    (case a14 => k_is)
    (case i14 => k_is)
    (case l14 => k_is)
    (case c14 => k_is)
    (case k14 => k_is)
    (case y0 => exact rfl)
    (case n0 => exact rfl)
    (case h0 => kernel_rfl)
    (case a15 => k_is)
    (case i15 => k_is)
    (case l15 => k_is)
    (case c15 => k_is)
    (case k15 => k_is)
    (case a16 => k_is)
    (case i16 => k_is)
    (case l16 => k_is)
    (case c16 => k_is)
    (case k16 => k_is)
    (case a17 => k_is)
    (case i17 => k_is)
    (case l17 => k_is)
    (case c17 => k_is)
    (case k17 => k_is)
    (case a18 => k_is)
    (case i18 => k_is)
    (case l18 => k_is)
    (case c18 => k_is)
    (case k18 => k_is)
    (case a19 => k_is)
    (case l19 => k_is)
    (case c19 => k_is)
    (case k19 => k_is)
    (case a20 => k_is)
    (case l20 => k_is)
    (case c20 => k_is)
    (case k20 => k_is)
    (case a21 => k_is)
    (case l21 => k_is)
    (case c21 => k_is)
    (case k21 => k_is)
    (case a22 => k_is)
    (case l22 => k_is)
    (case c22 => k_is)
    (case k22 => k_is)
    (case a23 => k_is)
    (case l23 => k_is)
    (case c23 => k_is)
    (case k23 => k_is)
    (case a24 => k_is)
    (case l24 => k_is)
    (case c24 => k_is)
    (case k24 => k_is)
    (case a25 => k_is)
    (case l25 => k_is)
    (case c25 => k_is)
    (case k25 => k_is)
    (case a26 => k_is)
    (case l26 => k_is)
    (case c26 => k_is)
    (case k26 => k_is)
    (case a27 => k_is)
    (case l27 => k_is)
    (case c27 => k_is)
    (case k27 => k_is)
    (case a28 => k_is)
    (case l28 => k_is)
    (case c28 => k_is)
    (case k28 => k_is)
    (case a29 => k_is)
    (case l29 => k_is)
    (case c29 => k_is)
    (case k29 => k_is)
    (case a30 => k_is)
    (case l30 => k_is)
    (case c30 => k_is)
    (case k30 => k_is)
    (case a31 => k_is)
    (case l31 => k_is)
    (case c31 => k_is)
    (case k31 => k_is)
    (case a32 => k_is)
    (case l32 => k_is)
    (case c32 => k_is)
    (case k32 => k_is)
    (case a33 => k_is)
    (case l33 => k_is)
    (case c33 => k_is)
    (case k33 => k_is)
    (case a34 => k_is)
    (case l34 => k_is)
    (case c34 => k_is)
    (case k34 => k_is)
    (case stpg => k_is)
    (case sthd => k_is)
    (case stpo => k_is)
    (case stsa => k_is)
    (case stnb => k_is)
    (case stnr => k_is)
    (case stnd => k_is)
    (case stnp => k_is)
    (case stmi => k_is)
    (case stkk => k_is)
    (case exC1 => k_exc)
    (case ekcC1 => k_is)
    (case ebcC1 => k_is)
    (case etcC1 => k_is)
    (case exC2 => k_exc)
    (case ekcC2 => k_is)
    (case ebcC2 => k_is)
    (case etcC2 => k_is)
    (case exC4 => k_exc)
    (case ekcC4 => k_is)
    (case ebcC4 => k_is)
    (case etcC4 => k_is)
    (case e0 => k_is)
    (case e1 => k_is)
    (case e2 => k_is)
    (case e3 => k_is)
    (case e4 => k_is)
    (case e5 => k_is)
    (case e6 => k_is)
    (case e7 => k_is)
    (case z0 => k_is)
    (case z1 => k_is)
    (case z2 => k_is)
    (case z3 => k_is)
    (case z4 => k_is)
    (case z5 => k_is)
    (case z6 => k_is)
    (case z7 => k_is)
    (case z8 => k_is)
    (case z9 => k_is)
    (case tX_NoStore => (refine ⟨?_, ?_, ?_, ?_, ?_, ?_, ?_, ?_⟩ <;> first | rfl | k_is))
    (case tk_NoStore_BadName => (first | rfl | k_is))
    (case tk_NoStore_BadBound => (first | rfl | k_is))
    (case tk_NoStore_NoStore => (first | rfl | k_is))
    (case tk_NoStore_NoThing => (first | rfl | k_is))
    (case tk_NoStore_ValueError => (first | rfl | k_is))
    (case te_NoStore_NoStore => (first | rfl | k_is))
    (case te_NoStore_RoomError => (first | rfl | k_is))
    (case tm_BadName => (first | rfl | k_is))
    (case tm_BadBound => (first | rfl | k_is))
    (case tm_NoStore => (first | rfl | k_is))
    (case tk_Store_Store => (first | rfl | k_is))
    (case ty_a => (first | rfl | k_is))
    (case ty_b => (first | rfl | k_is))
    (case ty_c => (first | rfl | k_is))
    (case ty_d => (first | rfl | k_is))
    (case mts => (exact (by decide)))

