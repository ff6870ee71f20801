import PyProof.Rows.All
import Wide.All
import OpenK.AllK
import Wide.FinOn
import HandS.ForMost
import HandS.Lambda
import HandS.More
import HandS.IsInst
import HandS.FStr
import HandS.StrMore
import HandS.Walk
import HandS.Star
import HandS.SortInts
import HandS.SortRule
import HandS.EndTab
import HandS.Style
import KE.KRevSl
import KE.SortKeyHeap
import HandS.ForExc
import HandS.HotCalls
import HandS.TryOnly
import HandS.Exc
import HandS.ExcIs
import HandS.ExcCtx
import HandS.CallSlots
import PyProof.Rows.SortShellAny
import HandS.Codes
import KE.KUnpackStar
import PySem.Challenge.RW_splitrooms_k09_what_is_refused
set_option Elab.async false
set_option linter.all false
set_option maxRecDepth 100000
namespace Vf
open PySem L2
section
/-! ### heaps that grow: what stood stands; a table of code objects that was known is known -/
def lamQ : Str := Str.ofString "joined" ++ Str.ofString ".<locals>." ++ Str.ofString "<lambda>"
/-- the tables of code objects that lambdas write: where each stands, the name that its codes have -/
class TabCx where
  T : List (Addr × Str)
  nd : (T.map (·.1)).Nodup
variable [TabCx]
def TabsOk (H : Hp) : Prop := ∀ t ∈ TabCx.T, LamX.TabS H t.1 t.2
theorem TabsOk.ext {H H' : Hp} (h : TabsOk H) (e : ∀ a o, H a = some o → H' a = some o) : TabsOk H' := fun t ht => LamX.TabS.ext (h t ht) e
/-- a list changes: the tables stand -/
theorem TabsOk.lst {H : Hp} (h : TabsOk H) {p : Addr} {o : HO} {xs : List V} (hp : H p = some (.lst xs)) : TabsOk (upd H p o) := fun t ht => by
  obtain ⟨ps, h1, h2, h3⟩ := h t ht
  refine ⟨ps, by rw [upd_ne (ne_of h1 hp (by intro z; cases z))]; exact h1, h2, fun pos cv hc => ?_⟩
  obtain ⟨c, e1, e2⟩ := h3 pos cv hc
  exact ⟨c, e1, by rw [upd_ne (ne_of e2 hp (by intro z; unfold LamX.CodeO at z; cases z))]; exact e2⟩
structure Ex (H H' : Hp) : Prop where
  keep : ∀ (a : Addr) (o : HO), H a = some o → (∀ ps, o ≠ .tbl ps) → H' a = some o
  dom : ∀ a : Addr, H' a = none → H a = none
  tabs : TabsOk H → TabsOk H'
theorem Ex.k {H H' : Hp} {a : Addr} {o : HO} (e : Ex H H') (h : H a = some o) (n : ∀ ps, o ≠ .tbl ps := by intro _ z; cases z) : H' a = some o := e.keep a o h n
theorem Ex.refl (H : Hp) : Ex H H := ⟨fun _ _ h _ => h, fun _ h => h, fun h => h⟩
theorem Ex.trans {H H1 H2 : Hp} (a : Ex H H1) (b : Ex H1 H2) : Ex H H2 :=
  ⟨fun x o h n => b.keep x o (a.keep x o h n) n, fun x h => a.dom x (b.dom x h), fun h => b.tabs (a.tabs h)⟩
theorem Ex.of {H H' : Hp} (e : ∀ a o, H a = some o → H' a = some o) : Ex H H' := by
  refine ⟨fun a o h _ => e a o h, fun a h => ?_, fun t => t.ext e⟩
  cases q : H a with
  | none => rfl
  | some o =>
    rw [e a o q] at h
    cases h
theorem Ex.new {H : Hp} {p : Addr} {o : HO} (h : H p = none) : Ex H (upd H p o) := .of fun a u q => by
  rw [upd_ne (ne_of_none q h)]
  exact q
/-- a list that was not there ahead may change -/
theorem Ex.mut {H H' : Hp} {p : Addr} {o : HO} {xs : List V} (e : Ex H H') (h : H p = none) (hp : H' p = some (.lst xs)) : Ex H (upd H' p o) := by
  refine ⟨fun a u q n => ?_, fun a q => ?_, fun t => (e.tabs t).lst hp⟩
  · rw [upd_ne (ne_of_none q h)]
    exact e.keep a u q n
  · by_cases ha : a = p
    · rw [ha]
      exact h
    · rw [upd_ne ha] at q
      exact e.dom a q
/-- what is never changed in place but by its maker -/
def Imm : HO → Prop
  | .lst _ => True
  | .tup _ => True
  | .frz _ (.lst _) => True
  | .frz _ (.tup _) => True
  | _ => False
/-- what may change: dicts, instances; lists and tuples stand -/
structure ExW (H H' : Hp) : Prop where
  keep : ∀ (a : Addr) (o : HO), H a = some o → Imm o → H' a = some o
  dom : ∀ a : Addr, H' a = none → H a = none
  tabs : TabsOk H → TabsOk H'
theorem Ex.w {H H' : Hp} (e : Ex H H') : ExW H H' := ⟨fun a o h i => e.keep a o h fun ps z => by rw [z] at i; exact i, e.dom, e.tabs⟩
instance {H H' : Hp} : Coe (Ex H H') (ExW H H') := ⟨Ex.w⟩
theorem ExW.refl (H : Hp) : ExW H H := (Ex.refl H).w
theorem ExW.trans {H H1 H2 : Hp} (a : ExW H H1) (b : ExW H1 H2) : ExW H H2 :=
  ⟨fun x o h n => b.keep x o (a.keep x o h n) n, fun x h => a.dom x (b.dom x h), fun h => b.tabs (a.tabs h)⟩
theorem ExW.k {H H' : Hp} {a : Addr} {o : HO} (e : ExW H H') (h : H a = some o) (n : Imm o := by trivial) : H' a = some o := e.keep a o h n
theorem ExW.l {K : PySem.W.Frag} {H H' : Hp} {a : Addr} {xs : List V} (e : ExW H H') (h : SqL K H a xs) : SqL K H' a xs :=
  h.elim (fun r => .inl (r.elim (fun r => .inl (e.k r)) fun ⟨o, r⟩ => .inr ⟨o, e.k r⟩)) .inr
/-- a list that was not there ahead may change -/
theorem ExW.mut {H H' : Hp} {p : Addr} {o : HO} {xs : List V} (e : ExW H H') (h : H p = none) (hp : H' p = some (.lst xs)) : ExW H (upd H' p o) := by
  refine ⟨fun a u q n => ?_, fun a q => ?_, fun t => (e.tabs t).lst hp⟩
  · rw [upd_ne (ne_of_none q h)]
    exact e.keep a u q n
  · by_cases ha : a = p
    · rw [ha]
      exact h
    · rw [upd_ne ha] at q
      exact e.dom a q

theorem fresh_back {H H' : Hp} {p : Addr} (e : Ex H H') (h : H' p = none) : H p = none := e.dom p h
theorem ex_l {K : PySem.W.Frag} {H H' : Hp} {a : Addr} {xs : List V} (e : Ex H H') (h : SqL K H a xs) : SqL K H' a xs :=
  h.elim (fun r => .inl (r.elim (fun r => .inl (e.k r)) fun ⟨o, r⟩ => .inr ⟨o, e.k r⟩)) .inr
theorem ex_t {K : PySem.W.Frag} {H H' : Hp} {a : Addr} {xs : List V} (e : Ex H H') (h : SqT K H a xs) : SqT K H' a xs :=
  h.elim (fun r => .inl (r.elim (fun r => .inl (e.k r)) fun ⟨o, r⟩ => .inr ⟨o, e.k r⟩)) .inr
theorem sq_of {K : PySem.W.Frag} {H : Hp} {a : Addr} {xs : List V} (h : H a = some (.lst xs)) : SqL K H a xs := SqL.of h
theorem st_of {K : PySem.W.Frag} {H : Hp} {a : Addr} {xs : List V} (h : H a = some (.tup xs)) : SqT K H a xs := SqT.of h
theorem sz_of {n : Nat} (h : n ≤ 100000) : n ≤ sizeLine := Nat.le_trans h (by decide)
theorem sz_lt {n : Nat} (h : n < 100000) : n < sizeLine := Nat.lt_of_lt_of_le h (by decide)

/-! ### what a reading comes to, in every heap that has grown out of this one -/
/-- P: the heap ahead, the value, the heap behind -/
def EvG (te : TE) (σ : L2.St) (H : Hp) (P : Hp → V → Hp → Prop) : Prop := ∀ A, Ex H A → ∀ Q : VK, (∀ v B, Ex A B → P A v B → Q v B) → te σ A Q
def Ev (te : TE) (σ : L2.St) (H : Hp) (v : V) : Prop := ∀ A, Ex H A → ∀ Q : VK, (∀ B, Ex A B → Q v B) → te σ A Q
def EvT (t : TT) (σ : L2.St) (H : Hp) (b : Bool) : Prop := ∀ A, Ex H A → ∀ Q : Bool → Hp → Prop, (∀ B, Ex A B → Q b B) → t σ A Q
def EvA (t : TA) (σ : L2.St) (H : Hp) (vs : List V) : Prop := ∀ A, Ex H A → ∀ Q : List V → Hp → Prop, (∀ B, Ex A B → Q vs B) → t σ A Q
def EvO (t : TO) (σ : L2.St) (H : Hp) (o : Option Int) : Prop := ∀ A, Ex H A → ∀ Q : Option Int → Hp → Prop, (∀ B, Ex A B → Q o B) → t σ A Q
def RV (r : R2) (x y : V) (H : Hp) (z : V) : Prop := ∀ A, Ex H A → ∀ Q : VK, (∀ B, Ex A B → Q z B) → r x y A Q
def RC (r : List V → Hp → VK → Prop) (vs : List V) (H : Hp) (z : V) : Prop := ∀ A, Ex H A → ∀ Q : VK, (∀ B, Ex A B → Q z B) → r vs A Q
def RetV (v : V) (H : Hp) (Q : VK) : Prop := ∀ B, Ex H B → Q v B
def SpV (sp : Sp) (vs : List V) (H : Hp) (z : V) : Prop := ∀ A, Ex H A → ∀ Q : VK, RetV z A Q → ∀ E : XK, sp vs A Q E
/-- a new tuple, a new list, of just these -/
abbrev NewT (xs : List V) : Hp → V → Hp → Prop := fun A v B => ∃ p, v = .ref p ∧ A p = none ∧ B p = some (.tup xs)
abbrev NewL (xs : List V) : Hp → V → Hp → Prop := fun A v B => ∃ p, v = .ref p ∧ A p = none ∧ B p = some (.lst xs)
section
variable {K : PySem.W.Frag} {σ : L2.St} {H H' : Hp} {ta tb tc te tx : TE} {t u : TT} {x y z v : V} {r r' : R2} {P P' : Hp → V → Hp → Prop}
theorem Ev.mono (e : Ex H H') (h : Ev te σ H v) : Ev te σ H' v := fun A a => h A (e.trans a)
theorem EvT.mono {b : Bool} (e : Ex H H') (h : EvT t σ H b) : EvT t σ H' b := fun A a => h A (e.trans a)
theorem EvA.mono {ta : TA} {vs : List V} (e : Ex H H') (h : EvA ta σ H vs) : EvA ta σ H' vs := fun A a => h A (e.trans a)
theorem EvG.mono (e : Ex H H') (h : EvG te σ H P) : EvG te σ H' P := fun A a => h A (e.trans a)
theorem RetV.mono {Q : VK} (e : Ex H H') (k : RetV v H Q) : RetV v H' Q := fun B b => k B (e.trans b)
theorem EvG.imp (h : EvG te σ H P) (i : ∀ A v B, Ex H A → Ex A B → P A v B → P' A v B) : EvG te σ H P' := fun A a Q q => h A a Q fun v B b p => q v B b (i A v B a b p)
theorem Ev.g (h : Ev te σ H v) (i : ∀ A B, Ex H A → Ex A B → P A v B) : EvG te σ H P := fun A a Q q => h A a _ fun B b => q v B b (i A B a b)
theorem ev_var {i : Nat} (h : σ[i]? = some (some v)) : Ev (tVar i) σ H v := fun A _ _ q => ⟨v, h, q A (.refl A)⟩
theorem ev_c : Ev (tC v) σ H v := fun A _ _ q => q A (.refl A)
theorem ev_op (ha : Ev ta σ H x) (hb : Ev tb σ H y) (hr : RV r x y H z) : Ev (tOp r ta tb) σ H z := fun A a Q q =>
  ha A a _ fun B b => hb B (a.trans b) _ fun C c => hr C ((a.trans b).trans c) Q fun D d => q D ((b.trans c).trans d)
theorem ev_un {r : V → Hp → VK → Prop} (ha : Ev ta σ H x) (hr : ∀ A, Ex H A → ∀ Q : VK, (∀ B, Ex A B → Q z B) → r x A Q) : Ev (tUn r ta) σ H z := fun A a Q q =>
  ha A a _ fun B b => hr B (a.trans b) Q fun C c => q C (b.trans c)
/-- the right operand is told by P -/
theorem ev_opR (ha : Ev ta σ H x) (hb : EvG tb σ H P) (hr : ∀ A w B, Ex H A → Ex A B → P A w B → RV r x w B z) : Ev (tOp r ta tb) σ H z := fun A a Q q =>
  ha A a _ fun B b => hb B (a.trans b) _ fun w C c p => hr B w C (a.trans b) c p C (.refl C) Q fun D d => q D ((b.trans c).trans d)
theorem ev_cb {r : List V → Hp → VK → Prop} {ta : TA} {vs : List V} (ha : EvA ta σ H vs) (hr : RC r vs H z) : Ev (tCB r ta) σ H z := fun A a Q q =>
  ha A a _ fun B b => hr B (a.trans b) Q fun C c => q C (b.trans c)
theorem ev_call {sp : Sp} {dvs vs : List V} {E : XK} {ta : TA} (ha : EvA ta σ H vs) (hs : SpV sp (vs ++ dvs) H z) : Ev (tCall sp dvs E ta) σ H z := fun A a Q q =>
  ha A a _ fun B b => hs B (a.trans b) Q (fun C c => q C (b.trans c)) E
theorem ev_is {w : V} (h : Ev te σ H v) (e : v = w) : Ev te σ H w := e ▸ h
theorem ev_notV {a : Bool} (h : Ev ta σ H (.bl a)) : Ev (tNotV ta) σ H (.bl (!a)) := fun A e _ q => h A e _ fun B b => ⟨a, rfl, q B b⟩
theorem ev_andV {a b : Bool} (h : Ev ta σ H (.bl a)) (i : a = true → Ev tb σ H (.bl b)) : Ev (tAndV ta tb) σ H (.bl (a && b)) := fun A e Q q => h A e _ fun B f => ⟨a, rfl, by
  cases a with
  | false => exact q B f
  | true => exact i rfl B (e.trans f) Q fun C g => q C (f.trans g)⟩
theorem ev_orV {a b : Bool} (h : Ev ta σ H (.bl a)) (i : a = false → Ev tb σ H (.bl b)) : Ev (tOrV ta tb) σ H (.bl (a || b)) := fun A e Q q => h A e _ fun B f => ⟨a, rfl, by
  cases a with
  | true => exact q B f
  | false => exact i rfl B (e.trans f) Q fun C g => q C (f.trans g)⟩
theorem ev_if {b : Bool} (h : EvT t σ H b) (h1 : b = true → Ev ta σ H v) (h2 : b = false → Ev tb σ H v) : Ev (tIf t ta tb) σ H v := fun A e Q q => h A e _ fun B f => by
  cases b with
  | true => exact h1 rfl B (e.trans f) Q fun C g => q C (f.trans g)
  | false => exact h2 rfl B (e.trans f) Q fun C g => q C (f.trans g)
theorem rv_I0 {g : Int → Int → V} {i j : Int} : RV (rI0 g) (.int i) (.int j) H (g i j) := fun A _ _ q => ⟨i, j, rfl, rfl, q A (.refl A)⟩
theorem rv_I {C : Int → Int → Prop} {g : Int → Int → V} {i j : Int} (h : C i j) : RV (rI C g) (.int i) (.int j) H (g i j) := fun A _ _ q => ⟨i, j, rfl, rfl, h, q A (.refl A)⟩
theorem rv_eq (h : scal x y = true) : RV rEq x y H (.bl (decide (x = y))) := fun A _ _ q => ⟨h, q A (.refl A)⟩
theorem rv_ne (h : scal x y = true) : RV rNe x y H (.bl (!decide (x = y))) := fun A _ _ q => ⟨h, q A (.refl A)⟩
theorem rv_ixL {p : Addr} {xs : List V} {i : Int} (h : SqL K H p xs) (ha : atI xs i = some v) : RV (rIxL K) (.ref p) (.int i) H v := fun A a _ q => ⟨p, xs, i, v, rfl, rfl, ex_l a h, ha, q A (.refl A)⟩
theorem rv_ixT {p : Addr} {xs : List V} {i : Int} (h : SqT K H p xs) (ha : atI xs i = some v) : RV (rIxT K) (.ref p) (.int i) H v := fun A a _ q => ⟨p, xs, i, v, rfl, rfl, ex_t a h, ha, q A (.refl A)⟩
theorem rv_ixS {s : Str} {i : Int} {c : Nat} (h : s.length ≤ 100000) (ha : atI s.cps.toList i = some c) : RV rIxS (.str s) (.int i) H (.str ⟨#[c]⟩) := fun A _ _ q => ⟨s, i, c, rfl, rfl, sz_of h, ha, q A (.refl A)⟩
theorem rv_in {neg : Bool} {p : Addr} {xs : List V} (h : SqL K H p xs ∨ SqT K H p xs) (hx : flatV x = true) (hf : xs.all flatV = true) : RV (rIn K neg) x (.ref p) H (.bl (if neg then !inV x xs else inV x xs)) :=
  fun A a _ q => ⟨p, xs, rfl, h.elim (fun h => .inl (ex_l a h)) (fun h => .inr (ex_t a h)), hx, hf, q A (.refl A)⟩
theorem et_is {a b : Bool} (h : EvT t σ H a) (e : a = b) : EvT t σ H b := e ▸ h
theorem et_test {b : Bool} (h : Ev te σ H (.bl b)) : EvT (tTest te) σ H b := fun A a _ q => h A a _ fun B f => ⟨b, rfl, q B f⟩
theorem et_B {b : Bool} (h : Ev te σ H (.bl b)) : EvT (tB te) σ H b := fun A a _ q => h A a _ fun B f => ⟨b, rfl, q B f⟩
theorem et_not {a : Bool} (h : EvT t σ H a) : EvT (tNot t) σ H (!a) := fun A e _ q => h A e _ fun B f => q B f
theorem et_and {a b : Bool} (h : EvT t σ H a) (i : a = true → EvT u σ H b) : EvT (tAnd t u) σ H (a && b) := fun A e Q q => h A e _ fun B f => by
  cases a with
  | false => exact q B f
  | true => exact i rfl B (e.trans f) Q fun C g => q C (f.trans g)
theorem et_or {a b : Bool} (h : EvT t σ H a) (i : a = false → EvT u σ H b) : EvT (tOr t u) σ H (a || b) := fun A e Q q => h A e _ fun B f => by
  cases a with
  | true => exact q B f
  | false => exact i rfl B (e.trans f) Q fun C g => q C (f.trans g)
theorem et_chain {a b : Bool} (ha : Ev ta σ H x) (hb : Ev tb σ H y) (hr : RV r x y H (.bl a)) (hc : a = true → Ev tc σ H z) (hr2 : a = true → RV r' y z H (.bl b)) : EvT (tTest (tChain r r' ta tb tc)) σ H (a && b) := fun A e Q q =>
  ha A e _ fun B f => hb B (e.trans f) _ fun C g => hr C ((e.trans f).trans g) _ fun D d => ⟨a, rfl, by
    cases a with
    | false => exact ⟨false, rfl, q D ((f.trans g).trans d)⟩
    | true => exact hc rfl D (((e.trans f).trans g).trans d) _ fun G i => hr2 rfl G ((((e.trans f).trans g).trans d).trans i) _ fun J j => ⟨b, rfl, q J ((((f.trans g).trans d).trans i).trans j)⟩⟩
theorem ea_nil : EvA tNil σ H [] := fun A _ _ q => q A (.refl A)
theorem ea_cons {tr : TA} {vs : List V} (h : Ev ta σ H x) (i : EvA tr σ H vs) : EvA (tCons ta tr) σ H (x :: vs) := fun A e _ q => h A e _ fun B f => i B (e.trans f) _ fun C g => q C (f.trans g)
theorem eo_none : EvO tNoPart σ H none := fun A _ _ q => q A (.refl A)
theorem eo_some {i : Int} (h : Ev te σ H (.int i)) : EvO (tPart te) σ H (some i) := fun A e _ q => h A e _ fun B f => ⟨i, rfl, q B f⟩
theorem eg_tup {ta : TA} {vs : List V} (h : EvA ta σ H vs) (l : vs.length ≤ 100000) : EvG (tTup ta) σ H (NewT vs) := fun A e _ q =>
  h A e _ fun B f => ⟨sz_of l, fun p hp => q _ _ (f.trans (.new hp)) ⟨p, rfl, fresh_back f hp, upd_same⟩⟩
theorem eg_lst {ta : TA} {vs : List V} (h : EvA ta σ H vs) (l : vs.length ≤ 100000) : EvG (tLst ta) σ H (NewL vs) := fun A e _ q =>
  h A e _ fun B f => ⟨sz_of l, fun p hp => q _ _ (f.trans (.new hp)) ⟨p, rfl, fresh_back f hp, upd_same⟩⟩

/-! ### statements -/
variable {D : Ends} {tu tw : TS} {tz : TS}
theorem s_asgG {i : Nat} (h : EvG te σ H P) (k : ∀ v B, Ex H B → P H v B → D.nx (σ.set i (some v)) B) : tAsg te (gName i) D σ H := h H (.refl H) _ fun v B b p => k v B b p
theorem q_asgG {i : Nat} (h : EvG te σ H P) (k : ∀ v B, Ex H B → P H v B → tz D (σ.set i (some v)) B) : tSeq (tAsg te (gName i)) tz D σ H := s_asgG (D := { D with nx := tz D }) h k
theorem s_asg {i : Nat} (h : Ev te σ H v) (k : ∀ B, Ex H B → D.nx (σ.set i (some v)) B) : tAsg te (gName i) D σ H := h H (.refl H) _ k
theorem q_asg {i : Nat} (h : Ev te σ H v) (k : ∀ B, Ex H B → tz D (σ.set i (some v)) B) : tSeq (tAsg te (gName i)) tz D σ H := s_asg (D := { D with nx := tz D }) h k
theorem s_retk (h : Ev te σ H v) (k : RetV v H D.rt) : tRet te D σ H := h H (.refl H) _ k
theorem s_retG (h : EvG te σ H P) (k : ∀ v B, Ex H B → P H v B → D.rt v B) : tRet te D σ H := h H (.refl H) _ k
theorem s_if {b : Bool} (h : EvT t σ H b) (h1 : b = true → ∀ B, Ex H B → tu D σ B) (h2 : b = false → ∀ B, Ex H B → tw D σ B) : tIfS t tu tw D σ H := h H (.refl H) _ fun B e => by
  cases b with
  | true => exact h1 rfl B e
  | false => exact h2 rfl B e
theorem q_if {b : Bool} (h : EvT t σ H b) (h1 : b = true → ∀ B, Ex H B → tu { D with nx := tz D } σ B) (h2 : b = false → ∀ B, Ex H B → tw { D with nx := tz D } σ B) : tSeq (tIfS t tu tw) tz D σ H := s_if (D := { D with nx := tz D }) h h1 h2
theorem s_when {b : Bool} (h : EvT t σ H b) (h1 : b = true → ∀ B, Ex H B → tu D σ B) (h2 : b = false → ∀ B, Ex H B → D.nx σ B) : tIfS t tu tNext D σ H := s_if h h1 h2
theorem q_when {b : Bool} (h : EvT t σ H b) (h1 : b = true → ∀ B, Ex H B → tu { D with nx := tz D } σ B) (h2 : b = false → ∀ B, Ex H B → tz D σ B) : tSeq (tIfS t tu tNext) tz D σ H := s_if (D := { D with nx := tz D }) h h1 h2
theorem s_drop (h : Ev te σ H v) (k : ∀ B, Ex H B → D.nx σ B) : tDrop te D σ H := h H (.refl H) _ k
theorem q_drop (h : Ev te σ H v) (k : ∀ B, Ex H B → tz D σ B) : tSeq (tDrop te) tz D σ H := s_drop (D := { D with nx := tz D }) h k
/-- if c: x = e, by the value that x has behind it -/
theorem q_ifAsg {b : Bool} {i : Nat} (h : EvT t σ H b) (h1 : b = true → Ev te σ H v) (h2 : b = false → σ.set i (some v) = σ) (k : ∀ B, Ex H B → tz D (σ.set i (some v)) B) : tSeq (tIfS t (tAsg te (gName i)) tNext) tz D σ H :=
  q_when h (fun hb B e => s_asg (D := { D with nx := tz D }) ((h1 hb).mono e) fun C f => k C (e.trans f)) (fun hb B e => (h2 hb) ▸ k B e)
theorem s_app {l : Addr} {xs : List V} (hl : H l = some (.lst xs)) (ha : Ev ta σ H (.ref l)) (h : EvG te σ H P) (hz : xs.length < 100000) (k : ∀ A v B, Ex H A → Ex A B → P A v B → D.nx σ (upd B l (.lst (xs ++ [v])))) :
    tDrop (tBM K "list" rAppend ta (tCons te tNil)) D σ H := ha H (.refl H) _ fun A a =>
  ⟨.inl ⟨rfl, xs, sq_of (a.k hl)⟩, h A a _ fun v B b p => ⟨l, xs, v, rfl, rfl, b.k (a.k hl), sz_lt hz, k A v B a b p⟩⟩
theorem q_app {l : Addr} {xs : List V} (hl : H l = some (.lst xs)) (ha : Ev ta σ H (.ref l)) (h : EvG te σ H P) (hz : xs.length < 100000) (k : ∀ A v B, Ex H A → Ex A B → P A v B → tz D σ (upd B l (.lst (xs ++ [v])))) :
    tSeq (tDrop (tBM K "list" rAppend ta (tCons te tNil))) tz D σ H := s_app (D := { D with nx := tz D }) hl ha h hz k

/-! ### loops -/
theorem q_forR1 {ta : TA} {j : Nat} {n : Nat} (h : EvA ta σ H [.int (n : Int)]) (hn : n ≤ 100000) (W : Nat → L2.St → Hp → Prop) (h0 : ∀ B, Ex H B → W 0 σ B)
    (hs : ∀ (i : Nat) σ' B, i < n → W i σ' B → tu { D with nx := W (i + 1), ct := W (i + 1), bk := tz D } (σ'.set j (some (.int (i : Int)))) B) (hd : ∀ σ' B, W n σ' B → tz D σ' B) : tSeq (tFor (iRng1 ta) (gName j) tu) tz D σ H :=
  h H (.refl H) _ fun B e => ⟨(n : Int), rfl, by omega, by omega, for_range (lo := 0) (n := n) W (h0 B e) (fun i σ' C hi w => by
    have z := hs i σ' C hi w
    rw [← Int.zero_add (i : Int)] at z
    exact z) hd⟩
theorem q_forL {a : Addr} {xs : List V} {tl : TE} {g : TG} (h : Ev tl σ H (.ref a)) (hx : SqL K H a xs) (W : Nat → L2.St → Hp → Prop) (h0 : ∀ B, Ex H B → W 0 σ B) (hl : ∀ i σ' B, i ≤ xs.length → W i σ' B → SqL K B a xs)
    (hs : ∀ i x σ' B, xs[i]? = some x → W i σ' B → g x σ' B fun σ2 C => tu { D with nx := W (i + 1), ct := W (i + 1), bk := tz D } σ2 C) (hd : ∀ σ' B, W xs.length σ' B → tz D σ' B) : tSeq (tFor (iList K tl) g tu) tz D σ H :=
  h H (.refl H) _ fun B e => ⟨a, rfl, ⟨xs, ex_l e hx⟩, for_list (D := { D with nx := tz D }) W (h0 B e) hl hs hd⟩
/-- over a list that is made for it -/
theorem q_forNL {xs : List V} {tl : TE} {g : TG} (h : EvG tl σ H (NewL xs)) (W : Addr → Nat → L2.St → Hp → Prop) (h0 : ∀ p B, Ex H B → B p = some (.lst xs) → W p 0 σ B) (hl : ∀ p i σ' B, i ≤ xs.length → W p i σ' B → SqL K B p xs)
    (hs : ∀ p i x σ' B, xs[i]? = some x → W p i σ' B → g x σ' B fun σ2 C => tu { D with nx := W p (i + 1), ct := W p (i + 1), bk := tz D } σ2 C) (hd : ∀ p σ' B, W p xs.length σ' B → tz D σ' B) : tSeq (tFor (iList K tl) g tu) tz D σ H :=
  h H (.refl H) _ fun v B e ⟨p, ev, _, hp⟩ => ⟨p, ev, ⟨xs, sq_of hp⟩, for_list (D := { D with nx := tz D }) (W p) (h0 p B e hp) (hl p) (hs p) (hd p)⟩
theorem q_forS {s : Str} {j : Nat} (h : Ev te σ H (.str s)) (W : Nat → L2.St → Hp → Prop) (h0 : ∀ B, Ex H B → W 0 σ B)
    (hs : ∀ i c σ' B, s.cps[i]? = some c → W i σ' B → tu { D with nx := W (i + 1), ct := W (i + 1), bk := tz D } (σ'.set j (some (.str ⟨#[c]⟩))) B) (hd : ∀ σ' B, W s.cps.size σ' B → tz D σ' B) : tSeq (tFor (iStr te) (gName j) tu) tz D σ H :=
  h H (.refl H) _ fun B e => ⟨s, rfl, for_it (D := { D with nx := tz D }) walk_str W (h0 B e) (fun _ _ _ _ _ => trivial) (fun i x σ' C C' hi w y => by
    obtain ⟨rfl, c, hc, rfl⟩ := y
    exact hs i c σ' C' hc w) hd⟩
theorem q_asgCall {sp : Sp} {dvs vs : List V} {E : XK} {ta : TA} {i : Nat} (h : EvA ta σ H vs) (k : ∀ B, Ex H B → sp (vs ++ dvs) B (fun v C => tz D (σ.set i (some v)) C) E) : tSeq (tAsg (tCall sp dvs E ta) (gName i)) tz D σ H := h H (.refl H) _ k
theorem st_nf {t : TS} {σ' : L2.St} (e : σ = σ') (h : t D σ' H) : t D σ H := e ▸ h
end
def spLaw (K : PySem.W.Frag) : Sp := fun vs H Q _ => ∃ (a : Addr) (ns : List Int), vs = [.ref a] ∧ SqL K H a (ns.map V.int) ∧ ns.length ≤ 63 ∧ ∀ B, Q (.bl true) B

end
section
variable [TabCx]
/-! ### calls of what is built in; the tactics that lay these lines -/
section
variable {K : PySem.W.Frag} {σ : L2.St} {H H' : Hp} {ta tb tc te tx : TE} {t u : TT} {x y z v : V} {r r' : R2}
abbrev rLen (K : PySem.W.Frag) : List V → Hp → VK → Prop := fun vs H Q => ∃ p ys, vs = [V.ref p] ∧ (SqL K H p ys ∨ SqT K H p ys) ∧ Q (.int ys.length) H
abbrev rList (K : PySem.W.Frag) : List V → Hp → VK → Prop := fun vs H Q => ∃ p ys, vs = [V.ref p] ∧ (SqL K H p ys ∨ SqT K H p ys) ∧ ∀ l, H l = none → Q (.ref l) (upd H l (.lst ys))
theorem rc_len {p : Addr} {xs : List V} (h : SqL K H p xs) : RC (rLen K) [.ref p] H (.int xs.length) := fun A e _ q => ⟨p, xs, rfl, .inl (ex_l e h), q A (.refl A)⟩
theorem rc_lenT {p : Addr} {xs : List V} (h : SqT K H p xs) : RC (rLen K) [.ref p] H (.int xs.length) := fun A e _ q => ⟨p, xs, rfl, .inr (ex_t e h), q A (.refl A)⟩
theorem rc_lenS {s : Str} (h : s.length ≤ 100000) : RC (fun vs H Q => ∃ z, vs = [V.str z] ∧ z.length ≤ sizeLine ∧ Q (.int z.length) H) [.str s] H (.int s.length) := fun A _ _ q => ⟨s, rfl, sz_of h, q A (.refl A)⟩
theorem rc_intB {b : Bool} : RC (fun vs H Q => (∃ i, vs = [V.int i] ∧ Q (.int i) H) ∨ ∃ k, vs = [V.bl k] ∧ Q (.int (if k then 1 else 0)) H) [.bl b] H (.int (if b then 1 else 0)) := fun A _ _ q => .inr ⟨b, rfl, q A (.refl A)⟩
theorem rc_strI {i : Int} (h : i.natAbs.log2 < 1920) : RC (fun vs H Q => ∃ i, vs = [V.int i] ∧ i.natAbs.log2 < 1920 ∧ Q (.str (toString i)) H) [.int i] H (.str (toString i)) := fun A _ _ q => ⟨i, rfl, h, q A (.refl A)⟩
/-- isinstance of a value whose type is known, and a built-in type -/
theorem rc_isi {c : String} {n : String} {b : Bool} (ht : ∀ B, Ex H B → TyX K B x (.type c)) (hk : kitB c n = some b) : RC (rIsi K) [x, .ty n] H (.bl b) := fun A e _ q => ⟨x, .ty n, .type c, .type n, b, rfl, .ty n, ht A e, kit_ty hk, q A (.refl A)⟩
theorem tx_int {i : Int} : ∀ B, Ex H B → TyX K B (.int i) (.type "int") := fun _ _ => .base (.int i)
theorem tx_str {s : Str} : ∀ B, Ex H B → TyX K B (.str s) (.type "str") := fun _ _ => .base (.str s)
theorem tx_lst {a : Addr} {xs : List V} (h : H a = some (.lst xs)) : ∀ B, Ex H B → TyX K B (.ref a) (.type "list") := fun _ e => .base (.lst (e.k h))
theorem tx_tup {a : Addr} {xs : List V} (h : H a = some (.tup xs)) : ∀ B, Ex H B → TyX K B (.ref a) (.type "tuple") := fun _ e => .base (.tup (e.k h))
theorem rv_add_str {a b : Str} (h : a.length + b.length ≤ 100000) : RV (fun x y H Q => ∃ i j, x = V.str i ∧ y = V.str j ∧ i.length + j.length ≤ sizeLine ∧ Q (.str (i ++ j)) H) (.str a) (.str b) H (.str (a ++ b)) := fun A _ _ q => ⟨a, b, rfl, rfl, sz_of h, q A (.refl A)⟩
theorem rv_NT {a b : String} : RV rNT (.ty a) (.ty b) H (.bl (!decide (a = b))) := fun A _ _ q => ⟨a, b, rfl, rfl, q A (.refl A)⟩
theorem rc_typI {i : Int} : RC (rTyp K) [.int i] H (.ty "int") := fun A _ _ q => ⟨.int i, "int", rfl, .int i, q A (.refl A)⟩
theorem rv_isN : RV (fun x y H Q => y = V.non ∧ Q (.bl (decide (x = .non))) H) x .non H (.bl (decide (x = .non))) := fun A _ _ q => ⟨rfl, q A (.refl A)⟩
theorem ev_neg {i : Int} (h : Ev ta σ H (.int i)) : Ev (tUn (rU fun i => .int (-i)) ta) σ H (.int (-i)) := ev_un h fun A _ _ q => ⟨i, rfl, q A (.refl A)⟩
end
theorem kb_ss : kitB "str" "str" = some true := by decide +kernel
theorem kb_ii : kitB "int" "int" = some true := by decide +kernel
theorem kb_ib : kitB "int" "bool" = some false := by decide +kernel
theorem kb_ll : kitB "list" "list" = some true := by decide +kernel
theorem kb_tt : kitB "tuple" "tuple" = some true := by decide +kernel
theorem decide_int (i j : Int) : decide (V.int i = V.int j) = decide (i = j) := by
  by_cases h : i = j
  · rw [h, decide_eq_true rfl, decide_eq_true rfl]
  · rw [decide_eq_false h, decide_eq_false (fun q => h (V.int.inj q))]
theorem decide_str (i j : Str) : decide (V.str i = V.str j) = decide (i = j) := by
  by_cases h : i = j
  · rw [h, decide_eq_true rfl, decide_eq_true rfl]
  · rw [decide_eq_false h, decide_eq_false (fun q => h (V.str.inj q))]
local macro_rules | `(tactic| walk_at "cond") => `(tactic| first | (with_reducible assumption) | decide | (show (0 : Int) < _; decide) | (exact ⟨by decide, by decide⟩) | (exact ⟨by decide, by decide, by decide⟩) | (exact ⟨by omega, by omega⟩) | (exact Or.inl ⟨by decide, by decide⟩) | (exact Or.inr ⟨by decide, by decide⟩) | (exact Or.inl ⟨by omega, by omega⟩) | (exact Or.inr ⟨by omega, by omega⟩) | omega)
local macro_rules | `(tactic| walk_at "seq") => `(tactic| first | (with_reducible assumption) | (exact sq_of (by with_reducible assumption)) | (exact st_of (by with_reducible assumption)) | (exact ex_l (by with_reducible assumption) (by with_reducible assumption)) | (exact ex_t (by with_reducible assumption) (by with_reducible assumption)))
local macro_rules | `(tactic| walk_at "rv") => `(tactic| first | (with_reducible exact rv_I0) | ((with_reducible apply rv_I); walk_at "cond") | ((with_reducible apply rv_eq); rfl) | ((with_reducible apply rv_ne); rfl) | (with_reducible exact rv_NT) | (with_reducible exact rv_isN) | ((with_reducible apply rv_add_str); walk_at "cond") | ((with_reducible apply rv_ixT); walk_at "seq"; rfl))
local macro_rules | `(tactic| walk_at "rc") => `(tactic| first | ((with_reducible apply rc_len); walk_at "seq") | ((with_reducible apply rc_lenT); walk_at "seq") | ((with_reducible apply rc_lenS); walk_at "cond") | (with_reducible exact rc_intB) | (with_reducible exact rc_typI) | ((with_reducible apply rc_strI); walk_at "cond") | (exact rc_isi tx_str kb_ss) | (exact rc_isi tx_int kb_ii) | (exact rc_isi tx_int kb_ib) | (exact rc_isi (tx_lst (by with_reducible assumption)) kb_ll) | (exact rc_isi (tx_tup (by with_reducible assumption)) kb_tt))
local macro_rules | `(tactic| walk_at "spv") => `(tactic| fail "no promise")
local macro_rules | `(tactic| walk_at "ea") => `(tactic| first | (with_reducible exact ea_nil) | ((with_reducible apply ea_cons); walk_at "ev"; walk_at "ea"))
local macro_rules | `(tactic| walk_at "eo") => `(tactic| first | (with_reducible exact eo_none) | ((with_reducible apply eo_some); walk_at "ev"))
local macro_rules | `(tactic| walk_at "ev") => `(tactic| first
  | (with_reducible exact ev_c)
  | ((with_reducible apply ev_var); rfl)
  | ((with_reducible apply ev_op); walk_at "ev"; walk_at "ev"; walk_at "rv")
  | ((with_reducible apply ev_cb); walk_at "ea"; walk_at "rc")
  | ((with_reducible apply ev_call); walk_at "ea"; walk_at "spv")
  | ((with_reducible apply ev_neg); walk_at "ev")
  | ((with_reducible apply ev_notV); walk_at "ev")
  | ((with_reducible apply ev_andV); walk_at "ev"; (intro _; walk_at "ev"))
  | ((with_reducible apply ev_orV); walk_at "ev"; (intro _; walk_at "ev")))
local macro_rules | `(tactic| walk_at "et") => `(tactic| first
  | ((with_reducible apply et_chain); walk_at "ev"; walk_at "ev"; walk_at "rv"; (intro _; walk_at "ev"); (intro _; walk_at "rv"))
  | ((with_reducible apply et_test); walk_at "ev")
  | ((with_reducible apply et_B); walk_at "ev")
  | ((with_reducible apply et_not); walk_at "et")
  | ((with_reducible apply et_or); walk_at "et"; (intro _; walk_at "et"))
  | ((with_reducible apply et_and); walk_at "et"; (intro _; walk_at "et")))
local macro_rules | `(tactic| walk_at "asg") => `(tactic| ((first | with_reducible apply q_asg | with_reducible apply s_asg); walk_at "ev"))
local macro_rules | `(tactic| walk_at "drop") => `(tactic| ((first | with_reducible apply q_drop | with_reducible apply s_drop); walk_at "ev"))
local macro_rules | `(tactic| walk_at "ret") => `(tactic| ((with_reducible apply s_retk); walk_at "ev"))
local macro_rules | `(tactic| walk_at "when") => `(tactic| ((first | with_reducible apply q_when | with_reducible apply s_when | with_reducible apply q_if | with_reducible apply s_if); walk_at "et"))

variable [TabCx]
/-! ### lists of things told by data -/
/-- F: places at which none of its lists stands -/
structure Rp (α : Type) where
  R : (Addr → Prop) → Hp → V → α → Prop
  mono : ∀ {F : Addr → Prop} {H H' : Hp} {v : V} {a : α}, ExW H H' → R F H v a → R F H' v a
  away : ∀ {F G : Addr → Prop} {H : Hp} {v : V} {a : α}, R G H v a → (∀ x, F x → G x ∨ H x = none) → R F H v a
  lst : ∀ {F : Addr → Prop} {H : Hp} {D : Addr} {xs : List V} {o : HO} {v : V} {a : α}, F D → H D = some (.lst xs) → R F H v a → R F (upd H D o) v a
abbrev F0 : Addr → Prop := fun _ => False
abbrev F1 (D : Addr) : Addr → Prop := fun x => x = D
def rpInt : Rp Int := ⟨fun _ _ v i => v = .int i, fun _ h => h, fun h _ => h, fun _ _ h => h⟩
def rpStr : Rp Str := ⟨fun _ _ v s => v = .str s, fun _ h => h, fun h _ => h, fun _ _ h => h⟩
/-- a thing: a tuple of a name and a value -/
def Thg (H : Hp) (v : V) (p : Int × Int) : Prop := ∃ t, v = .ref t ∧ H t = some (.tup [.int p.1, .int p.2])
def rpT : Rp (Int × Int) := ⟨fun _ => Thg, fun e ⟨t, h1, h2⟩ => ⟨t, h1, e.k h2⟩, fun h _ => h, fun _ hD ⟨t, h1, h2⟩ => ⟨t, h1, by rw [upd_ne (ne_of h2 hD (by intro z; cases z))]; exact h2⟩⟩
abbrev PRF {α : Type} (r : Rp α) (F : Addr → Prop) (H : Hp) (xs : List V) (as : List α) : Prop := Paired (r.R F H) xs as
abbrev PR {α : Type} (r : Rp α) (H : Hp) (xs : List V) (as : List α) : Prop := PRF r F0 H xs as
/-- at p a list that is told by as -/
def LR {α : Type} (r : Rp α) (H : Hp) (p : Addr) (as : List α) : Prop := ∃ ys, H p = some (.lst ys) ∧ PR r H ys as
section
variable {α β : Type} {r : Rp α} {r' : Rp β} {H H' : Hp} {xs ys : List V} {as bs : List α} {F G : Addr → Prop}
theorem pr_monoW (e : ExW H H') : ∀ {xs : List V} {as : List α}, PRF r F H xs as → PRF r F H' xs as
  | _, _, .nil => .nil
  | _, _, .cons h t => .cons (r.mono e h) (pr_monoW e t)
theorem pr_mono (e : Ex H H') {xs : List V} {as : List α} (h : PRF r F H xs as) : PRF r F H' xs as := pr_monoW e.w h
theorem Rp.mo (r : Rp α) (e : Ex H H') {v : V} {a : α} (h : r.R F H v a) : r.R F H' v a := r.mono e.w h
theorem pr_lst {D : Addr} {zs : List V} {o : HO} (f : F D) (h : H D = some (.lst zs)) : ∀ {xs : List V} {as : List α}, PRF r F H xs as → PRF r F (upd H D o) xs as
  | _, _, .nil => .nil
  | _, _, .cons a t => .cons (r.lst f h a) (pr_lst f h t)
theorem pr_away (k : ∀ x, F x → G x ∨ H x = none) : ∀ {xs : List V} {as : List α}, PRF r G H xs as → PRF r F H xs as
  | _, _, .nil => .nil
  | _, _, .cons a t => .cons (r.away a k) (pr_away k t)
theorem pr_0 {xs : List V} {as : List α} (h : PRF r F H xs as) : PR r H xs as := pr_away (fun _ z => nomatch z) h
theorem pr_get : ∀ {xs : List V} {as : List α} {i : Nat} {x : V}, PRF r F H xs as → xs[i]? = some x → ∃ a, as[i]? = some a ∧ r.R F H x a
  | _, _, i, x, .nil, h => by simp at h
  | _, _, 0, x, .cons a t, h => by
    cases (Option.some.inj h)
    exact ⟨_, rfl, a⟩
  | _, _, i + 1, x, .cons a t, h => pr_get (i := i) t h
theorem pr_at : ∀ {xs : List V} {as : List α} {i : Nat} {a : α}, PRF r F H xs as → as[i]? = some a → ∃ x, xs[i]? = some x ∧ r.R F H x a
  | _, _, i, x, .nil, h => by simp at h
  | _, _, 0, x, .cons a t, h => by
    cases (Option.some.inj h)
    exact ⟨_, rfl, a⟩
  | _, _, i + 1, x, .cons a t, h => pr_at (i := i) t h
theorem pr_app : ∀ {xs ys : List V} {as bs : List α}, PRF r F H xs as → PRF r F H ys bs → PRF r F H (xs ++ ys) (as ++ bs)
  | _, _, _, _, .nil, h => h
  | _, _, _, _, .cons a t, h => .cons a (pr_app t h)
theorem LR.monoW (e : ExW H H') {p : Addr} (h : LR r H p as) : LR r H' p as := by
  obtain ⟨ys, h1, h2⟩ := h
  exact ⟨ys, e.k h1, pr_monoW e h2⟩
theorem LR.mono (e : Ex H H') {p : Addr} (h : LR r H p as) : LR r H' p as := h.monoW e.w
theorem pr_ints : ∀ {ms : List Int}, PRF rpInt F H (ms.map V.int) ms
  | [] => .nil
  | _ :: _ => .cons rfl pr_ints
theorem pr_ints_eq : ∀ {xs : List V} {ms : List Int}, PRF rpInt F H xs ms → xs = ms.map V.int
  | _, _, .nil => rfl
  | _, _, .cons h t => by
    rw [pr_ints_eq t, show _ = V.int _ from h]
    rfl
theorem take_snoc {γ : Type} {l : List γ} {i : Nat} {x : γ} (h : l[i]? = some x) : l.take (i + 1) = l.take i ++ [x] := by
  rw [List.take_add_one, h]
  rfl
theorem Ex.fdom (e : Ex H H') {F : Addr → Prop} (h : ∀ y, F y → H y ≠ none) : ∀ y, F y → H' y ≠ none := fun y f z => h y f (e.dom y z)
/-- a list of lists -/
def rpL (r : Rp α) : Rp (List α) := ⟨fun F H v as => ∃ p ys, v = .ref p ∧ ¬ F p ∧ H p = some (.lst ys) ∧ PRF r F H ys as, fun e ⟨p, ys, h1, h2, h3, h4⟩ => ⟨p, ys, h1, h2, e.k h3, pr_monoW e h4⟩,
  fun ⟨p, ys, h1, h2, h3, h4⟩ k => ⟨p, ys, h1, (fun f => (k p f).elim h2 fun z => by rw [h3] at z; cases z), h3, pr_away k h4⟩,
  fun {F H D xs o v a} f hD ⟨p, ys, h1, h2, h3, h4⟩ => ⟨p, ys, h1, h2, (by rw [upd_ne (show p ≠ D from fun z => h2 (by rw [z]; exact f))]; exact h3), pr_lst f hD h4⟩⟩
/-- a pair of two told values -/
def rpP (r : Rp α) (r' : Rp β) : Rp (α × β) := ⟨fun F H v c => ∃ t x y, v = .ref t ∧ H t = some (.tup [x, y]) ∧ r.R F H x c.1 ∧ r'.R F H y c.2, fun e ⟨t, x, y, h1, h2, h3, h4⟩ => ⟨t, x, y, h1, e.k h2, r.mono e h3, r'.mono e h4⟩,
  fun ⟨t, x, y, h1, h2, h3, h4⟩ k => ⟨t, x, y, h1, h2, r.away h3 k, r'.away h4 k⟩,
  fun f hD ⟨t, x, y, h1, h2, h3, h4⟩ => ⟨t, x, y, h1, by rw [upd_ne (ne_of h2 hD (by intro z; cases z))]; exact h2, r.lst f hD h3, r'.lst f hD h4⟩⟩
end
/-- what evaluates to something told; to a new list of things told -/
abbrev EvR (te : TE) (σ : L2.St) (H : Hp) (P : Hp → V → Prop) : Prop := EvG te σ H fun _ v B => P B v
/-- a value told, none of whose lists is among places that stand already -/
abbrev EvE {β : Type} (r : Rp β) (F : Addr → Prop) (te : TE) (σ : L2.St) (H : Hp) (b : β) : Prop := EvG te σ H fun _ v B => r.R F B v b
abbrev EvLR {β : Type} (r : Rp β) (te : TE) (σ : L2.St) (H : Hp) (bs : List β) : Prop := EvG te σ H fun A v B => ∃ p, v = .ref p ∧ A p = none ∧ LR r B p bs
def RetLR {β : Type} (r : Rp β) (bs : List β) (H : Hp) (Q : VK) : Prop := ∀ p B, H p = none → Ex H B → LR r B p bs → Q (.ref p) B
section
variable {α β : Type} {r : Rp α} {r' : Rp β} {K : PySem.W.Frag} {σ : L2.St} {H H' : Hp} {ta tb te tl : TE} {t : TT} {x y v : V} {D : Ends} {tz : TS} {F : Addr → Prop}
theorem RetLR.mono {bs : List β} {Q : VK} (e : Ex H H') (k : RetLR r' bs H Q) : RetLR r' bs H' Q := fun p B hp b h => k p B (fresh_back e hp) (e.trans b) h
theorem ev_R {P : Hp → V → Prop} (h : Ev te σ H v) (hp : ∀ B, Ex H B → P B v) : EvR te σ H P := h.g fun A B a b => hp B (a.trans b)
theorem ev_Rtup {vs : List V} {ta : TA} {P : Hp → V → Prop} (h : EvA ta σ H vs) (hl : vs.length ≤ 100000) (hp : ∀ p B, B p = some (.tup vs) → P B (.ref p)) : EvR (tTup ta) σ H P := (eg_tup h hl).imp fun A v B _ _ ⟨p, e, _, h⟩ => e ▸ hp p B h
theorem EvLR.to {as bs : List β} (h : EvLR r' te σ H as) (e : as = bs) : EvLR r' te σ H bs := e ▸ h
/-- a value that stands -/
theorem ee_var {b : β} (h : Ev te σ H v) (hv : r'.R F H v b) : EvE r' F te σ H b := h.g fun A B a b => r'.mo (a.trans b) hv
theorem EvE.mono {b : β} (e : Ex H H') (h : EvE r' F te σ H b) : EvE r' F te σ H' b := EvG.mono e h
/-- a new list, told -/
theorem ee_L {bs : List β} (h : EvLR r' te σ H bs) (hF : ∀ y, F y → H y ≠ none) (hb : ∀ B ys, Ex H B → PRF r' F0 B ys bs → PRF r' F B ys bs) : EvE (rpL r') F te σ H bs := fun A a Q q =>
  h A a _ fun v B b ⟨p, e, hp, ys, h1, h2⟩ => q v B b ⟨p, ys, e, fun f => hF p f (a.dom p hp), h1, hb B ys (a.trans b) h2⟩
/-- a pair, made -/
theorem ee_P {ta tb : TE} {a : α} {b : β} (ha : EvE r F ta σ H a) (hb : EvE r' F tb σ H b) : EvE (rpP r r') F (tTup (tCons ta (tCons tb tNil))) σ H (a, b) := fun A aa Q q =>
  ha A aa _ fun v B e hv => hb B (aa.trans e) _ fun u C c hu => ⟨by show 2 ≤ sizeLine; decide, fun p hp => q _ _ ((e.trans c).trans (.new hp)) ⟨p, v, u, rfl, upd_same, r.mo (c.trans (.new hp)) hv, r'.mo (Ex.new hp) hu⟩⟩
theorem lcE {xs : List V} {as : List α} {a : Addr} {j : TG} {vs : List Nat} (sj : V → L2.St) (q : α → Bool) (g : α → β) (h : Ev tl σ H (.ref a)) (hx : SqL K H a xs) (hp : PR r H xs as) (hz : as.length ≤ 40000)
    (hg : ∀ x b H1 F Q, Ex H H1 → b ∈ as → r.R F H1 x b → Q (sj x) H1 → j x (wipe σ vs) H1 Q)
    (hw : ∀ x, wipe (sj x) vs = wipe σ vs)
    (ht : ∀ x b H1 F, Ex H H1 → b ∈ as → r.R F H1 x b → EvT t (sj x) H1 (q b))
    (he : ∀ x b H1 F, Ex H H1 → (∀ y, F y → H1 y ≠ none) → b ∈ as → r.R F H1 x b → q b = true → EvE r' F te (sj x) H1 (g b)) :
    EvLR r' (tLc (iList K tl) j t te vs) σ H ((as.filter q).map g) := fun H0 e Q qq => h H0 e _ fun H1 e1 => ⟨a, rfl, ⟨xs, ex_l (e.trans e1) hx⟩, fun Dl hD => by
  have hlen := hp.length
  have hp1 : PRF r (F1 Dl) H1 xs as := pr_away (fun x z => .inr (z ▸ hD)) (pr_mono (e.trans e1) hp)
  refine lc_list (xs := xs) (fun i H' => Ex H1 H' ∧ ∃ ys, H' Dl = some (.lst ys) ∧ ys.length ≤ i ∧ PRF r' (F1 Dl) H' ys (((as.take i).filter q).map g)) ⟨Ex.new hD, [], upd_same, Nat.le_refl _, by rw [List.take_zero]; exact .nil⟩ (fun i H' _ p => ex_l ((e.trans e1).trans p.1) hx) (fun i x H' hi p => ?_) fun H' p => ?_
  · obtain ⟨p1, ys, p2, p3, p4⟩ := p
    obtain ⟨b, hb, rb⟩ := pr_get hp1 hi
    have hmem : b ∈ as := List.mem_of_getElem? hb
    have hil : i < xs.length := (List.getElem?_eq_some_iff.mp hi).1
    have eE := (e.trans e1).trans p1
    have rb' := r.mo p1 rb
    refine hg x b H' (F1 Dl) _ eE hmem rb' ⟨hw x, ?_⟩
    refine ht x b H' (F1 Dl) eE hmem rb' H' (Ex.refl H') _ fun H3 e3 => ?_
    cases hq : q b with
    | true =>
      show te (sj x) H3 _
      refine he x b H' (F1 Dl) eE (fun y z => by rw [show y = Dl from z, p2]; intro w; cases w) hmem rb' hq H3 e3 _ fun y H4 e4 ry => ⟨ys, e4.k (e3.k p2), sz_lt (by omega), Ex.mut ((p1.trans e3).trans e4) hD (e4.k (e3.k p2)), ys ++ [y], upd_same, by rw [List.length_append]; exact Nat.succ_le_succ p3, ?_⟩
      have hD4 : H4 Dl = some (.lst ys) := e4.k (e3.k p2)
      rw [take_snoc hb, List.filter_append, List.map_append, List.filter_cons, if_pos hq]
      exact pr_lst (show F1 Dl Dl from rfl) hD4 (pr_app (pr_mono (e3.trans e4) p4) (.cons ry .nil))
    | false =>
      show Ex H1 H3 ∧ _
      refine ⟨p1.trans e3, ys, e3.k p2, by omega, ?_⟩
      rw [take_snoc hb, List.filter_append, List.filter_cons, if_neg (by rw [hq]; decide), List.filter_nil, List.append_nil]
      exact pr_mono (e3) p4
  · obtain ⟨p1, ys, p2, p3, p4⟩ := p
    refine qq _ H' (e1.trans p1) ⟨Dl, rfl, fresh_back e1 hD, ys, p2, ?_⟩
    rw [hlen, List.take_length] at p4
    exact pr_0 p4⟩
/-- with a plain name -/
theorem lcLR {xs : List V} {as : List α} {a : Addr} {j : Nat} {vs : List Nat} (q : α → Bool) (g : α → β) (h : Ev tl σ H (.ref a)) (hx : SqL K H a xs) (hp : PR r H xs as) (hz : as.length ≤ 40000)
    (hw : ∀ x, wipe ((wipe σ vs).set j (some x)) vs = wipe σ vs)
    (ht : ∀ x b H1 F, Ex H H1 → b ∈ as → r.R F H1 x b → EvT t ((wipe σ vs).set j (some x)) H1 (q b))
    (he : ∀ x b H1 F, Ex H H1 → (∀ y, F y → H1 y ≠ none) → b ∈ as → r.R F H1 x b → q b = true → EvE r' F te ((wipe σ vs).set j (some x)) H1 (g b)) :
    EvLR r' (tLc (iList K tl) (gName j) t te vs) σ H ((as.filter q).map g) :=
  lcE (r := r) (r' := r') (fun x => (wipe σ vs).set j (some x)) q g h hx hp hz (fun _ _ _ _ _ _ _ _ k => k) hw ht he
/-- over range(n) -/
theorem lcRR {ta : TA} {j : Nat} {vs : List Nat} {n : Nat} (q : Nat → Bool) (g : Nat → β) (h : EvA ta σ H [.int (n : Int)]) (hn : n ≤ 40000) (hw : ∀ x, wipe ((wipe σ vs).set j (some x)) vs = wipe σ vs)
    (ht : ∀ (i : Nat) H1, Ex H H1 → i < n → EvT t ((wipe σ vs).set j (some (.int (i : Int)))) H1 (q i))
    (he : ∀ (i : Nat) H1 F, Ex H H1 → (∀ y, F y → H1 y ≠ none) → i < n → q i = true → EvE r' F te ((wipe σ vs).set j (some (.int (i : Int)))) H1 (g i)) :
    EvLR r' (tLc (iRng1 ta) (gName j) t te vs) σ H (((List.range n).filter q).map g) := fun H0 e Q qq => h H0 e _ fun H1 e1 => ⟨(n : Int), rfl, by omega, by omega, fun Dl hD => by
  refine lc_range (lo := 0) (n := n) (fun i H' => Ex H1 H' ∧ ∃ ys, H' Dl = some (.lst ys) ∧ ys.length ≤ i ∧ PRF r' (F1 Dl) H' ys (((List.range i).filter q).map g)) ⟨Ex.new hD, [], upd_same, Nat.le_refl _, .nil⟩ (fun i H' hi p => ?_) fun H' p => ?_
  · obtain ⟨p1, ys, p2, p3, p4⟩ := p
    have e0 : (0 : Int) + (i : Int) = (i : Int) := Int.zero_add _
    rw [e0]
    refine ⟨hw _, ?_⟩
    have eE := (e.trans e1).trans p1
    refine ht i H' eE hi H' (Ex.refl H') _ fun H3 e3 => ?_
    cases hq : q i with
    | true =>
      show te ((wipe σ vs).set j (some (.int (i : Int)))) H3 _
      refine he i H' (F1 Dl) eE (fun y z => by rw [show y = Dl from z, p2]; intro w; cases w) hi hq H3 e3 _ fun y H4 e4 ry => ⟨ys, e4.k (e3.k p2), sz_lt (by omega), Ex.mut ((p1.trans e3).trans e4) hD (e4.k (e3.k p2)), ys ++ [y], upd_same, by rw [List.length_append]; exact Nat.succ_le_succ p3, ?_⟩
      have hD4 : H4 Dl = some (.lst ys) := e4.k (e3.k p2)
      rw [List.range_succ, List.filter_append, List.map_append, List.filter_cons, if_pos hq]
      exact pr_lst (show F1 Dl Dl from rfl) hD4 (pr_app (pr_mono (e3.trans e4) p4) (.cons ry .nil))
    | false =>
      show Ex H1 H3 ∧ _
      refine ⟨p1.trans e3, ys, e3.k p2, by omega, ?_⟩
      rw [List.range_succ, List.filter_append, List.filter_cons, if_neg (by rw [hq]; decide), List.filter_nil, List.append_nil]
      exact pr_mono (e3) p4
  · obtain ⟨p1, ys, p2, p3, p4⟩ := p
    exact qq _ H' (e1.trans p1) ⟨Dl, rfl, fresh_back e1 hD, ys, p2, pr_0 p4⟩⟩
theorem q_asgLR {i : Nat} {bs : List β} (h : EvLR r' te σ H bs) (k : ∀ p B, H p = none → Ex H B → LR r' B p bs → tz D (σ.set i (some (.ref p))) B) : tSeq (tAsg te (gName i)) tz D σ H := q_asgG h fun _ B e ⟨p, ev, hp, l⟩ => ev ▸ k p B hp e l
theorem s_retLR {bs : List β} (h : EvLR r' te σ H bs) (k : RetLR r' bs H D.rt) : tRet te D σ H := s_retG h fun _ B e ⟨p, ev, hp, l⟩ => ev ▸ k p B hp e l
/-- a promise that hands back a new list -/
def SpLR (r : Rp β) (sp : Sp) (vs : List V) (H : Hp) (bs : List β) : Prop := ∀ A, Ex H A → ∀ Q : VK, RetLR r bs A Q → ∀ E : XK, sp vs A Q E
theorem ev_callLR {sp : Sp} {dvs vs : List V} {E : XK} {ta : TA} {bs : List β} (h : EvA ta σ H vs) (hs : SpLR r' sp (vs ++ dvs) H bs) : EvLR r' (tCall sp dvs E ta) σ H bs := fun A a Q q =>
  h A a _ fun B b => hs B (a.trans b) Q (fun p C hp c l => q _ C (b.trans c) ⟨p, rfl, fresh_back b hp, l⟩) E
/-- l + m of two lists, both new -/
theorem ev_catLR {as bs : List β} (ha : EvLR r' ta σ H as) (hb : EvLR r' tb σ H bs) (hz : as.length + bs.length ≤ 100000) : EvLR r' (tOp rCat ta tb) σ H (as ++ bs) := fun A a Q q =>
  ha A a _ fun _ B b ⟨p, ev, _, xs, h1, h2⟩ => hb B (a.trans b) _ fun _ C c ⟨p', ev', _, ys, h3, h4⟩ => by
    refine ⟨p, p', xs, ys, ev, ev', c.k h1, h3, ?_, fun l hl => ?_⟩
    · rw [h2.length, h4.length]
      exact sz_of hz
    · exact q _ _ ((b.trans c).trans (.new hl)) ⟨l, rfl, fresh_back (b.trans c) hl, _, upd_same, pr_mono (Ex.new hl) (pr_app (pr_mono (c) h2) h4)⟩
/-- l + m of two lists that stand -/
theorem ev_catV {as bs : List β} {p p' : Addr} (ha : Ev ta σ H (.ref p)) (hb : Ev tb σ H (.ref p')) (h1 : LR r' H p as) (h2 : LR r' H p' bs) (hz : as.length + bs.length ≤ 100000) : EvLR r' (tOp rCat ta tb) σ H (as ++ bs) := fun A a Q q =>
  ha A a _ fun B b => hb B (a.trans b) _ fun C c => by
    obtain ⟨xs, g1, g2⟩ := h1.mono ((a.trans b).trans c)
    obtain ⟨ys, g3, g4⟩ := h2.mono ((a.trans b).trans c)
    refine ⟨p, p', xs, ys, rfl, rfl, g1, g3, ?_, fun l hl => ?_⟩
    · rw [g2.length, g4.length]
      exact sz_of hz
    · exact q _ _ ((b.trans c).trans (.new hl)) ⟨l, rfl, fresh_back (b.trans c) hl, _, upd_same, pr_mono (Ex.new hl) (pr_app g2 g4)⟩
/-- l + m, the right one new -/
theorem ev_catVN {as bs : List β} {p : Addr} (ha : Ev ta σ H (.ref p)) (h1 : LR r' H p as) (hb : EvLR r' tb σ H bs) (hz : as.length + bs.length ≤ 100000) : EvLR r' (tOp rCat ta tb) σ H (as ++ bs) := fun A a Q q =>
  ha A a _ fun B b => hb B (a.trans b) _ fun _ C c ⟨p', ev', _, ys, h3, h4⟩ => by
    obtain ⟨xs, g1, g2⟩ := h1.mono ((a.trans b).trans c)
    subst ev'
    refine ⟨p, p', xs, ys, rfl, rfl, g1, h3, ?_, fun l hl => ?_⟩
    · rw [g2.length, h4.length]
      exact sz_of hz
    · exact q _ _ ((b.trans c).trans (.new hl)) ⟨l, rfl, fresh_back (b.trans c) hl, _, upd_same, pr_mono (Ex.new hl) (pr_app g2 h4)⟩
theorem ev_catNV {as bs : List β} {p : Addr} (hb : EvLR r' ta σ H as) (ha : Ev tb σ H (.ref p)) (h1 : LR r' H p bs) (hz : as.length + bs.length ≤ 100000) : EvLR r' (tOp rCat ta tb) σ H (as ++ bs) := fun A a Q q =>
  hb A a _ fun _ B b ⟨p', ev', _, ys, h3, h4⟩ => ha B (a.trans b) _ fun C c => by
    obtain ⟨xs, g1, g2⟩ := h1.mono ((a.trans b).trans c)
    subst ev'
    refine ⟨p', p, ys, xs, rfl, rfl, c.k h3, g1, ?_, fun l hl => ?_⟩
    · rw [g2.length, h4.length]
      exact sz_of hz
    · exact q _ _ ((b.trans c).trans (.new hl)) ⟨l, rfl, fresh_back (b.trans c) hl, _, upd_same, pr_mono (Ex.new hl) (pr_app (pr_mono (c) h4) g2)⟩
end
/-! ### data compared -/
mutual
theorem eqv_self : ∀ d : PyData, d.canLay0 = true → PyData.eqv d d = true
  | .none, _ => by simp [PyData.eqv]
  | .bool b, _ => by simp [PyData.eqv]
  | .int i, _ => by simp [PyData.eqv]
  | .str s, _ => by simp [PyData.eqv]
  | .list xs, h => by
    have := eqv_selfAll xs (by simpa [PyData.canLay0] using h)
    simpa [PyData.eqv] using this
  | .tuple xs, h => by
    have := eqv_selfAll xs (by simpa [PyData.canLay0] using h)
    simpa [PyData.eqv] using this
  | .dict _, h => by simp [PyData.canLay0] at h
theorem eqv_selfAll : ∀ ds : List PyData, PyData.canLayAll0 ds = true → PyData.eqvAll ds ds = true
  | [], _ => by simp [PyData.eqvAll]
  | d :: r, h => by
    have h' : d.canLay0 = true ∧ PyData.canLayAll0 r = true := by simpa [PyData.canLayAll0] using h
    simp only [PyData.eqvAll, eqv_self d h'.1, eqv_selfAll r h'.2, Bool.and_true]
end
/-- told as data: what it is, of at most dep levels -/
structure Enc {α : Type} (r : Rp α) (ok : α → Prop) where
  enc : α → PyData
  dp : ∀ {K : PySem.W.Frag} {F : Addr → Prop} {H : Hp} {v : V} {a : α}, r.R F H v a → Dp K H v (enc a)
  lay : ∀ {a : α}, ok a → (enc a).canLay0 = true
  dep : Nat
  hd : ∀ a : α, (enc a).depth ≤ dep
section
variable {α β : Type} {r : Rp α} {r' : Rp β} {ok : α → Prop} {ok' : β → Prop} {K : PySem.W.Frag} {σ : L2.St} {H H' : Hp} {ta tb te : TE} {F : Addr → Prop}
theorem dp_all (E : Enc r ok) : ∀ {xs : List V} {as : List α}, PRF r F H xs as → DpAll K H xs (as.map E.enc)
  | _, _, .nil => .nil
  | _, _, .cons a t => .cons (E.dp a) (dp_all E t)
theorem lay_all (E : Enc r ok) : ∀ {as : List α}, (∀ a ∈ as, ok a) → PyData.canLayAll0 (as.map E.enc) = true
  | [], _ => rfl
  | a :: t, h => by
    show ((E.enc a).canLay0 && PyData.canLayAll0 (t.map E.enc)) = true
    rw [E.lay (h a List.mem_cons_self), lay_all E fun b hb => h b (List.mem_cons_of_mem _ hb)]
    rfl
theorem dep_all (E : Enc r ok) : ∀ {as : List α}, PyData.depthAll (as.map E.enc) ≤ E.dep
  | [] => by simp [PyData.depthAll]
  | a :: t => by
    have h1 := E.hd a
    have h2 := dep_all E (as := t)
    show max (E.enc a).depth (PyData.depthAll (t.map E.enc)) ≤ E.dep
    omega
def encInt : Enc rpInt (fun _ => True) := ⟨PyData.int, fun h => by rw [show _ = V.int _ from h]; exact .int _, fun _ => rfl, 0, fun _ => by simp [PyData.depth]⟩
def encStr : Enc rpStr (fun s => PyData.strOk s = true) := ⟨PyData.str, fun h => by rw [show _ = V.str _ from h]; exact .str _, fun h => h, 0, fun _ => by simp [PyData.depth]⟩
def encT : Enc rpT (fun _ => True) := ⟨fun p => .tuple [.int p.1, .int p.2], fun ⟨t, e, h⟩ => by rw [e]; exact .tup (st_of h) (.cons (.int _) (.cons (.int _) .nil)), fun _ => rfl, 1, fun _ => by simp [PyData.depth, PyData.depthAll]⟩
def encL (E : Enc r ok) : Enc (rpL r) (fun as => ∀ a ∈ as, ok a) := ⟨fun as => .list (as.map E.enc), fun ⟨p, ys, e, _, h, hp⟩ => by rw [e]; exact .lst (sq_of h) (dp_all E hp), fun h => lay_all E h, E.dep + 1, fun as => by
  have := dep_all E (as := as)
  show PyData.depthAll (as.map E.enc) + 1 ≤ E.dep + 1
  omega⟩
def encP (E : Enc r ok) (E' : Enc r' ok') : Enc (rpP r r') (fun c => ok c.1 ∧ ok' c.2) := ⟨fun c => .tuple [E.enc c.1, E'.enc c.2], fun ⟨t, x, y, e, h, h1, h2⟩ => by rw [e]; exact .tup (st_of h) (.cons (E.dp h1) (.cons (E'.dp h2) .nil)), fun {c} h => by
  show ((E.enc c.1).canLay0 && ((E'.enc c.2).canLay0 && true)) = true
  rw [E.lay h.1, E'.lay h.2]
  rfl, max E.dep E'.dep + 1, fun c => by
  have h1 := E.hd c.1
  have h2 := E'.hd c.2
  show max (E.enc c.1).depth (max (E'.enc c.2).depth 0) + 1 ≤ _
  omega⟩
theorem shaped_l (E : Enc r ok) (hd : E.dep ≤ 60) {as : List α} (h : ∀ a ∈ as, ok a) : SeqAt.shaped (.list (as.map E.enc)) = true := by
  unfold SeqAt.shaped
  have h1 : (PyData.list (as.map E.enc)).canLay0 = true := lay_all E h
  have h2 : (PyData.list (as.map E.enc)).depth ≤ 64 := by
    have := dep_all E (as := as)
    show PyData.depthAll (as.map E.enc) + 1 ≤ 64
    omega
  rw [h1, decide_eq_true h2]
  rfl
theorem eqv_nilL (ds : List PyData) : PyData.eqv (.list ds) (.list []) = ds.isEmpty := by
  cases ds <;> simp [PyData.eqv, PyData.eqvAll]
/-- xs != [] -/
theorem ev_neNil (E : Enc r ok) (hd : E.dep ≤ 60) {p : Addr} {as : List α} (ha : Ev ta σ H (.ref p)) (h : LR r H p as) (ho : ∀ a ∈ as, ok a) : Ev (tOp (rNeD K) ta (tLst tNil)) σ H (.bl (!as.isEmpty)) := by
  obtain ⟨ys, h1, h2⟩ := h
  refine ev_opR ha (eg_lst ea_nil (by decide)) fun A w B a b ⟨q, e, _, hq⟩ C c Q k => ?_
  subst e
  refine ⟨.list (as.map E.enc), .list [], .lst (sq_of (((a.trans b).trans c).k h1)) (dp_all E (pr_mono ((a.trans b).trans c) h2)), .lst (sq_of (c.k hq)) .nil, shaped_l E hd ho, by decide +kernel, ?_⟩
  rw [eqv_nilL, List.isEmpty_map]
  exact k C (.refl C)
theorem ev_eqNil (E : Enc r ok) (hd : E.dep ≤ 60) {p : Addr} {as : List α} (ha : Ev ta σ H (.ref p)) (h : LR r H p as) (ho : ∀ a ∈ as, ok a) : Ev (tOp (rEqD K) ta (tLst tNil)) σ H (.bl as.isEmpty) := by
  obtain ⟨ys, h1, h2⟩ := h
  refine ev_opR ha (eg_lst ea_nil (by decide)) fun A w B a b ⟨q, e, _, hq⟩ C c Q k => ?_
  subst e
  refine ⟨.list (as.map E.enc), .list [], .lst (sq_of (((a.trans b).trans c).k h1)) (dp_all E (pr_mono ((a.trans b).trans c) h2)), .lst (sq_of (c.k hq)) .nil, shaped_l E hd ho, by decide +kernel, ?_⟩
  rw [eqv_nilL, List.isEmpty_map]
  exact k C (.refl C)
/-- two lists told alike -/
theorem rv_eqL (E : Enc r ok) (hd : E.dep ≤ 60) {p p' : Addr} {as : List α} (h1 : LR r H p as) (h2 : LR r H p' as) (ho : ∀ a ∈ as, ok a) : RV (rEqD K) (.ref p) (.ref p') H (.bl true) := fun A a Q q => by
  obtain ⟨xs, g1, g2⟩ := h1.mono (a)
  obtain ⟨ys, g3, g4⟩ := h2.mono (a)
  refine ⟨.list (as.map E.enc), .list (as.map E.enc), .lst (sq_of g1) (dp_all E g2), .lst (sq_of g3) (dp_all E g4), shaped_l E hd ho, shaped_l E hd ho, ?_⟩
  rw [eqv_self (.list (as.map E.enc)) (show (PyData.list (as.map E.enc)).canLay0 = true from lay_all E ho)]
  exact q A (.refl A)
theorem rv_neL (E : Enc r ok) (hd : E.dep ≤ 60) {p p' : Addr} {as : List α} (h1 : LR r H p as) (h2 : LR r H p' as) (ho : ∀ a ∈ as, ok a) : RV (rNeD K) (.ref p) (.ref p') H (.bl false) := fun A a Q q => by
  obtain ⟨xs, g1, g2⟩ := h1.mono (a)
  obtain ⟨ys, g3, g4⟩ := h2.mono (a)
  refine ⟨.list (as.map E.enc), .list (as.map E.enc), .lst (sq_of g1) (dp_all E g2), .lst (sq_of g3) (dp_all E g4), shaped_l E hd ho, shaped_l E hd ho, ?_⟩
  rw [eqv_self (.list (as.map E.enc)) (show (PyData.list (as.map E.enc)).canLay0 = true from lay_all E ho)]
  exact q A (.refl A)
theorem ev_listLR {p : Addr} {as : List α} (ha : Ev ta σ H (.ref p)) (h : LR r H p as) : EvLR r (tCB (rList K) (tCons ta tNil)) σ H as := fun A a Q q =>
  ha A a _ fun B b => by
    obtain ⟨ys, h1, h2⟩ := h.mono (a.trans b)
    exact ⟨p, ys, rfl, .inl (sq_of h1), fun l hl => q _ _ (b.trans (.new hl)) ⟨l, rfl, fresh_back b hl, ys, upd_same, pr_mono (Ex.new hl) h2⟩⟩
theorem el_nil : EvLR r (tLst tNil) σ H [] := (eg_lst ea_nil (by decide)).imp fun A v B _ _ ⟨p, e, hp, h⟩ => ⟨p, e, hp, _, h, .nil⟩
theorem el_one {b : α} (h : EvE r F0 te σ H b) : EvLR r (tLst (tCons te tNil)) σ H [b] := fun A a Q q =>
  h A a _ fun v B e hv => ⟨by show 1 ≤ sizeLine; decide, fun l hl => q _ _ (e.trans (.new hl)) ⟨l, rfl, fresh_back e hl, _, upd_same, .cons (r.mo (Ex.new hl) hv) .nil⟩⟩
theorem el_two {b c : α} (h : EvE r F0 ta σ H b) (h2 : EvE r F0 tb σ H c) : EvLR r (tLst (tCons ta (tCons tb tNil))) σ H [b, c] := fun A a Q q =>
  h A a _ fun v B e hv => h2 B (a.trans e) _ fun u C f hu => ⟨by show 2 ≤ sizeLine; decide, fun l hl => q _ _ ((e.trans f).trans (.new hl)) ⟨l, rfl, fresh_back (e.trans f) hl, _, upd_same, .cons (r.mo (f.trans (.new hl)) hv) (.cons (r.mo (Ex.new hl) hu) .nil)⟩⟩
end

end
section
local macro_rules | `(tactic| walk_at "cond") => `(tactic| first | (with_reducible assumption) | decide | (show (0 : Int) < _; decide) | (exact ⟨by decide, by decide⟩) | (exact ⟨by decide, by decide, by decide⟩) | (exact ⟨by omega, by omega⟩) | (exact Or.inl ⟨by decide, by decide⟩) | (exact Or.inr ⟨by decide, by decide⟩) | (exact Or.inl ⟨by omega, by omega⟩) | (exact Or.inr ⟨by omega, by omega⟩) | omega)

local macro_rules | `(tactic| walk_at "seq") => `(tactic| first | (with_reducible assumption) | (exact sq_of (by with_reducible assumption)) | (exact st_of (by with_reducible assumption)) | (exact ex_l (by with_reducible assumption) (by with_reducible assumption)) | (exact ex_t (by with_reducible assumption) (by with_reducible assumption)))

local macro_rules | `(tactic| walk_at "rv") => `(tactic| first | (with_reducible exact rv_I0) | ((with_reducible apply rv_I); walk_at "cond") | ((with_reducible apply rv_eq); rfl) | ((with_reducible apply rv_ne); rfl) | (with_reducible exact rv_NT) | (with_reducible exact rv_isN) | ((with_reducible apply rv_add_str); walk_at "cond") | ((with_reducible apply rv_ixT); walk_at "seq"; rfl))

local macro_rules | `(tactic| walk_at "rc") => `(tactic| first | ((with_reducible apply rc_len); walk_at "seq") | ((with_reducible apply rc_lenT); walk_at "seq") | ((with_reducible apply rc_lenS); walk_at "cond") | (with_reducible exact rc_intB) | (with_reducible exact rc_typI) | ((with_reducible apply rc_strI); walk_at "cond") | (exact rc_isi tx_str kb_ss) | (exact rc_isi tx_int kb_ii) | (exact rc_isi tx_int kb_ib) | (exact rc_isi (tx_lst (by with_reducible assumption)) kb_ll) | (exact rc_isi (tx_tup (by with_reducible assumption)) kb_tt))

local macro_rules | `(tactic| walk_at "spv") => `(tactic| fail "no promise")

local macro_rules | `(tactic| walk_at "ea") => `(tactic| first | (with_reducible exact ea_nil) | ((with_reducible apply ea_cons); walk_at "ev"; walk_at "ea"))

local macro_rules | `(tactic| walk_at "eo") => `(tactic| first | (with_reducible exact eo_none) | ((with_reducible apply eo_some); walk_at "ev"))

local macro_rules | `(tactic| walk_at "ev") => `(tactic| first
  | (with_reducible exact ev_c)
  | ((with_reducible apply ev_var); rfl)
  | ((with_reducible apply ev_op); walk_at "ev"; walk_at "ev"; walk_at "rv")
  | ((with_reducible apply ev_cb); walk_at "ea"; walk_at "rc")
  | ((with_reducible apply ev_call); walk_at "ea"; walk_at "spv")
  | ((with_reducible apply ev_neg); walk_at "ev")
  | ((with_reducible apply ev_notV); walk_at "ev")
  | ((with_reducible apply ev_andV); walk_at "ev"; (intro _; walk_at "ev"))
  | ((with_reducible apply ev_orV); walk_at "ev"; (intro _; walk_at "ev")))

local macro_rules | `(tactic| walk_at "et") => `(tactic| first
  | ((with_reducible apply et_chain); walk_at "ev"; walk_at "ev"; walk_at "rv"; (intro _; walk_at "ev"); (intro _; walk_at "rv"))
  | ((with_reducible apply et_test); walk_at "ev")
  | ((with_reducible apply et_B); walk_at "ev")
  | ((with_reducible apply et_not); walk_at "et")
  | ((with_reducible apply et_or); walk_at "et"; (intro _; walk_at "et"))
  | ((with_reducible apply et_and); walk_at "et"; (intro _; walk_at "et")))

local macro_rules | `(tactic| walk_at "asg") => `(tactic| ((first | with_reducible apply q_asg | with_reducible apply s_asg); walk_at "ev"))

local macro_rules | `(tactic| walk_at "drop") => `(tactic| ((first | with_reducible apply q_drop | with_reducible apply s_drop); walk_at "ev"))

local macro_rules | `(tactic| walk_at "ret") => `(tactic| ((with_reducible apply s_retk); walk_at "ev"))

local macro_rules | `(tactic| walk_at "when") => `(tactic| ((first | with_reducible apply q_when | with_reducible apply s_when | with_reducible apply q_if | with_reducible apply s_if); walk_at "et"))

variable [TabCx]
/-! ### more of what evaluates -/
theorem ev_opL {K : PySem.W.Frag} {σ : L2.St} {H : Hp} {ta tb : TE} {y z : V} {r : R2} {P : Hp → V → Hp → Prop} (ha : EvG ta σ H P) (hb : Ev tb σ H y) (hr : ∀ A w B, Ex H A → Ex A B → P A w B → RV r w y B z) : Ev (tOp r ta tb) σ H z := fun A a Q q =>
  ha A a _ fun w B b p => hb B (a.trans b) _ fun C c => hr A w B a b p C c Q fun D d => q D ((b.trans c).trans d)
theorem el_sortI {K : PySem.W.Frag} {σ : L2.St} {H : Hp} {te : TE} {ns : List Int} (h : EvLR rpInt te σ H ns) : EvG (tCB (rSortedI K) (tCons te tNil)) σ H (fun A v B => ∃ p ms, v = .ref p ∧ A p = none ∧ LR rpInt B p ms ∧ ms.Perm ns ∧ ms.Pairwise (· ≤ ·)) := fun A a Q q =>
  h A a _ fun v B b ⟨p, ev, hp, xs, h1, h2⟩ => ⟨p, ns, by rw [ev], sq_of (by rw [h1, pr_ints_eq h2]), fun ms p' perm pw hp' => q _ _ (b.trans (.new hp')) ⟨p', ms, rfl, fresh_back b hp', ⟨_, upd_same, pr_ints⟩, perm, pw⟩⟩
/-! ### a comprehension over what is told; a slice; sorted pairs -/
section
variable {K : PySem.W.Frag} {σ : L2.St} {H H' : Hp} {ta tb te tl : TE} {t : TT} {g : TG} {vs : List Nat} {P P3 : Hp → V → Hp → Prop}
theorem lcG (h : EvG tl σ H P) (k : ∀ A v B, Ex H A → Ex A B → P A v B → EvG (tLc (iList K (tC v)) g t te vs) σ B (fun _ w C => P3 A w C)) : EvG (tLc (iList K tl) g t te vs) σ H P3 := fun A a Q q =>
  h A a _ fun v B b p => k A v B a b p B (.refl B) Q fun w C c r => q w C (b.trans c) r
theorem ev_callG {sp : Sp} {dvs us : List V} {E : XK} {ta : TA} {R : V → Hp → Prop} (h : EvA ta σ H us) (hs : ∀ B, Ex H B → ∀ Q : VK, (∀ v C, Ex B C → R v C → Q v C) → ∀ E, sp (us ++ dvs) B Q E) : EvG (tCall sp dvs E ta) σ H (fun _ v C => R v C) := fun A a Q q =>
  h A a _ fun B b => hs B (a.trans b) Q (fun v C c r => q v C (b.trans c) r) E
theorem cutV_take (xs : List V) (n : Nat) : cutV xs none (some (n : Int)) = xs.take n := by
  unfold cutV
  rw [HT.sIx_none, HT.sIx_nat, List.drop_zero, Nat.sub_zero]
  rcases Nat.le_total n xs.length with h | h
  · rw [Nat.min_eq_left h]
  · rw [Nat.min_eq_right h, List.take_length, List.take_of_length_le h]
theorem pr_take {α : Type} {r : Rp α} : ∀ (n : Nat) {xs : List V} {as : List α}, PR r H xs as → PR r H (xs.take n) (as.take n)
  | 0, _, _, _ => by
    rw [List.take_zero, List.take_zero]
    exact .nil
  | _ + 1, _, _, .nil => .nil
  | n + 1, _, _, .cons a t => .cons a (pr_take n t)
theorem el_slice {α : Type} {r : Rp α} {as : List α} {p : Addr} {th : TO} (n : Nat) (h : Ev te σ H (.ref p)) (hl : LR r H p as) (hh : EvO th σ H (some (n : Int))) : EvLR r (tSl (rSlL K) te tNoPart th) σ H (as.take n) := fun A a Q q =>
  h A a _ fun B b => hh B (a.trans b) _ fun C c => by
    obtain ⟨xs, h1, h2⟩ := hl.mono ((a.trans b).trans c)
    refine ⟨p, xs, rfl, sq_of h1, fun l hnew => ?_⟩
    rw [cutV_take]
    exact q _ _ ((b.trans c).trans (.new hnew)) ⟨l, rfl, fresh_back (b.trans c) hnew, _, upd_same, pr_mono (.new hnew) (pr_take n h2)⟩
def kH (H : Hp) : V → Int × Int
  | .ref t => (match H t with
    | some (.tup [.int i, .int j]) => (i, j)
    | _ => (0, 0))
  | _ => (0, 0)
theorem kH_is {v : V} {p : Int × Int} (h : Thg H v p) : kH H v = p := by
  obtain ⟨t, rfl, h⟩ := h
  show (match H t with
    | some (.tup [.int i, .int j]) => (i, j)
    | _ => ((0, 0) : Int × Int)) = p
  rw [h]
theorem kH_all : ∀ {xs : List V} {as : List (Int × Int)}, PR rpT H xs as → xs.map (kH H) = as ∧ ∀ x ∈ xs, ∃ t, x = .ref t ∧ H t = some (.tup [.int (kH H x).1, .int (kH H x).2])
  | _, _, .nil => ⟨rfl, by simp⟩
  | _, _, .cons h t => by
    obtain ⟨h1, h2⟩ := kH_all t
    refine ⟨by rw [List.map_cons, kH_is h, h1], fun x hx => ?_⟩
    rcases List.mem_cons.mp hx with e | e
    · obtain ⟨u, e1, e2⟩ := id h
      rw [e, kH_is h]
      exact ⟨u, e1, e2⟩
    · exact h2 x e
theorem kH_pr : ∀ {xs : List V}, (∀ x ∈ xs, ∃ t, x = .ref t ∧ H t = some (.tup [.int (kH H x).1, .int (kH H x).2])) → PR rpT H xs (xs.map (kH H))
  | [], _ => .nil
  | x :: xs, h => .cons (h x List.mem_cons_self) (kH_pr fun y hy => h y (List.mem_cons_of_mem _ hy))
theorem lex_le {a b : Int × Int} (h : SrtO.lexB b a = false) : a.1 ≤ b.1 := by
  unfold SrtO.lexB at h
  by_cases e : b.1 = a.1
  · omega
  · rw [if_neg e] at h
    have := of_decide_eq_false h
    omega
theorem el_sortT {as : List (Int × Int)} (h : EvLR rpT te σ H as) : EvG (tCB (rSortedPO K) (tCons te tNil)) σ H (fun A v B => ∃ p rs, v = .ref p ∧ A p = none ∧ LR rpT B p rs ∧ rs.Perm as ∧ rs.Pairwise (fun a b => a.1 ≤ b.1)) := fun A a Q q =>
  h A a _ fun v B b ⟨p, ev, hp, xs, h1, h2⟩ => by
    obtain ⟨e1, e2⟩ := kH_all h2
    refine ⟨p, xs, kH B, by rw [ev], sq_of h1, e2, fun ys p' srt stb hp' => ?_⟩
    refine q _ _ (b.trans (.new hp')) ⟨p', ys.map (kH B), rfl, fresh_back b hp', ⟨ys, upd_same, pr_mono (.new hp') (kH_pr fun x hx => e2 x (stb.perm.mem_iff.mp hx))⟩, ?_, ?_⟩
    · rw [← e1]
      exact stb.perm.map _
    · rw [List.pairwise_map]
      exact srt.imp fun {x y} hxy => lex_le hxy
end
theorem ev_slS {te : TE} {tl th : TO} {σ : L2.St} {H : Hp} {s : Str} {lo hi : Option Int} (h : Ev te σ H (.str s)) (h1 : EvO tl σ H lo) (h2 : EvO th σ H hi) (hz : s.length ≤ 100000) : Ev (tSl rSlS te tl th) σ H (.str (cutS s lo hi)) := fun A a Q q =>
  h A a _ fun B b => h1 B (a.trans b) _ fun C c => h2 C ((a.trans b).trans c) _ fun D d => ⟨s, rfl, sz_of hz, q D ((b.trans c).trans d)⟩
section
variable {α β : Type} {r : Rp α} {K : PySem.W.Frag} {σ : L2.St} {H : Hp} {ta te : TE} {z : V}
/-- a call with a new list -/
theorem ev_callL1 {sp : Sp} {E : XK} {as : List α} (h : EvLR r te σ H as) (hs : ∀ p B, LR r B p as → SpV sp [.ref p] B z) : Ev (tCall sp [] E (tCons te tNil)) σ H z := fun A a Q q =>
  h A a _ fun _ B b ⟨p, ev, _, l⟩ => by
    subst ev
    exact hs p B l B (.refl B) Q (fun C c => q C (b.trans c)) E
theorem ev_callL2 {sp : Sp} {E : XK} {as : List α} {y : V} (h : EvLR r te σ H as) (ht : Ev ta σ H y) (hs : ∀ p B, Ex H B → LR r B p as → SpV sp [.ref p, y] B z) : Ev (tCall sp [] E (tCons te (tCons ta tNil))) σ H z := fun A a Q q =>
  h A a _ fun _ B b ⟨p, ev, _, l⟩ => ht B (a.trans b) _ fun C c => by
    subst ev
    exact hs p C ((a.trans b).trans c) (l.mono c) C (.refl C) Q (fun D d => q D ((b.trans c).trans d)) E
theorem rv_isB {a b : Bool} : RV rIsB (.bl a) (.bl b) H (.bl (decide (a = b))) := fun A _ _ q => ⟨a, b, rfl, rfl, q A (.refl A)⟩
theorem rv_notB {a b : Bool} : RV rNotB (.bl a) (.bl b) H (.bl (!decide (a = b))) := fun A _ _ q => ⟨a, b, rfl, rfl, q A (.refl A)⟩
theorem tx_bl {b : Bool} : ∀ B, Ex H B → TyX K B (.bl b) (.type "bool") := fun _ _ => .base (.bl b)
end
theorem kb_bb : kitB "bool" "bool" = some true := by decide +kernel
theorem decide_bl (i j : Bool) : decide (V.bl i = V.bl j) = decide (i = j) := by
  by_cases h : i = j
  · rw [h, decide_eq_true rfl, decide_eq_true rfl]
  · rw [decide_eq_false h, decide_eq_false (fun q => h (V.bl.inj q))]
section
variable {α β : Type} {r : Rp α} {r' : Rp β} {K : PySem.W.Frag} {σ : L2.St} {H : Hp} {ta tb te : TE} {z y : V}
/-- a call with two new lists -/
theorem ev_callP2 {sp : Sp} {E : XK} {as : List α} {bs : List β} (ha : EvLR r ta σ H as) (hb : EvLR r' tb σ H bs) (hs : ∀ p q B, LR r B p as → LR r' B q bs → SpV sp [.ref p, .ref q] B z) : Ev (tCall sp [] E (tCons ta (tCons tb tNil))) σ H z := fun A a Q k =>
  ha A a _ fun _ B b ⟨p, ev, _, l⟩ => hb B (a.trans b) _ fun _ C c ⟨q, ev', _, l'⟩ => by
    subst ev ev'
    exact hs p q C (l.mono c) l' C (.refl C) Q (fun D d => k D ((b.trans c).trans d)) E
/-- a call with a new list, that hands back a new list -/
theorem ev_callG1 {sp : Sp} {E : XK} {as : List α} {bs : List β} (ha : EvLR r ta σ H as) (hb : Ev tb σ H y) (hs : ∀ p B, LR r B p as → SpLR r' sp [.ref p, y] B bs) : EvLR r' (tCall sp [] E (tCons ta (tCons tb tNil))) σ H bs := fun A a Q k =>
  ha A a _ fun _ B b ⟨p, ev, _, l⟩ => hb B (a.trans b) _ fun C c => by
    subst ev
    exact hs p C (l.mono c) C (.refl C) Q (fun q D hq d l => k _ D ((b.trans c).trans d) ⟨q, rfl, fresh_back (b.trans c) hq, l⟩) E
end

end
section
/-! ### texts of signs, by their length and their number -/
abbrev Code := Nat × Nat
def bl (l k : Nat) : List Nat := (List.range l).map fun t => 48 + k / 2 ^ (l - 1 - t) % 2
def bt (c : Code) : Str := ⟨(bl c.1 c.2).toArray⟩
theorem bl_len (l k : Nat) : (bl l k).length = l := by simp [bl]
theorem bt_len (c : Code) : (bt c).length = c.1 := by
  show (bl c.1 c.2).toArray.size = c.1
  rw [List.size_toArray, bl_len]
theorem bl_get {l t : Nat} (k : Nat) (h : t < l) : (bl l k)[t]? = some (48 + k / 2 ^ (l - 1 - t) % 2) := by
  unfold bl
  rw [List.getElem?_map, List.getElem?_range h]
  rfl
theorem bl_snoc (l k : Nat) : bl (l + 1) k = bl l (k / 2) ++ [48 + k % 2] := by
  unfold bl
  rw [List.range_succ, List.map_append]
  congr 1
  · refine List.map_congr_left fun t ht => ?_
    have ht := List.mem_range.mp ht
    rw [Nat.div_div_eq_div_mul, show l + 1 - 1 - t = (l - 1 - t) + 1 by omega, Nat.pow_succ, Nat.mul_comm (2 ^ _) 2]
  · rw [List.map_cons, List.map_nil, show l + 1 - 1 - l = 0 by omega, Nat.pow_zero, Nat.div_one]
theorem bl_take {j l : Nat} (k : Nat) (h : j ≤ l) : (bl l k).take j = bl j (k / 2 ^ (l - j)) := by
  unfold bl
  rw [← List.map_take, List.take_range, Nat.min_eq_left h]
  refine List.map_congr_left fun t ht => ?_
  have ht := List.mem_range.mp ht
  rw [Nat.div_div_eq_div_mul, ← Nat.pow_add, show l - j + (j - 1 - t) = l - 1 - t by omega]
theorem bl_cons (l k : Nat) : bl (l + 1) k = (48 + k / 2 ^ l % 2) :: bl l (k % 2 ^ l) := by
  apply List.ext_getElem?
  intro t
  cases t with
  | zero => rw [bl_get k (by omega)]; rfl
  | succ t =>
    rw [List.getElem?_cons_succ]
    by_cases h : t < l
    · rw [bl_get k (by omega), bl_get _ h]
      refine congrArg (fun x => some (48 + x)) ?_
      rw [show l + 1 - 1 - (t + 1) = l - 1 - t by omega]
      have e : 2 ^ l = 2 ^ (l - 1 - t) * 2 ^ (t + 1) := by rw [← Nat.pow_add]; congr 1; omega
      rw [e, Nat.mod_mul_right_div_self, Nat.pow_succ, Nat.mul_comm (2 ^ t) 2, Nat.mod_mul_right_mod]
    · rw [List.getElem?_eq_none (by rw [bl_len]; omega), List.getElem?_eq_none (by rw [bl_len]; omega)]
theorem bl_inj : ∀ {l k j : Nat}, k < 2 ^ l → j < 2 ^ l → bl l k = bl l j → k = j
  | 0, k, j, h1, h2, _ => by
    rw [Nat.pow_zero] at h1 h2
    omega
  | l + 1, k, j, h1, h2, e => by
    rw [bl_snoc, bl_snoc] at e
    have e2 := List.append_inj e (by rw [bl_len, bl_len])
    rw [Nat.pow_succ] at h1 h2
    have e3 := bl_inj (l := l) (by omega) (by omega) e2.1
    have e4 : 48 + k % 2 = 48 + j % 2 := List.head_eq_of_cons_eq e2.2
    omega
def Cv (c : Code) : Prop := c.2 < 2 ^ c.1
theorem toL_inj {a b : List Nat} (h : (⟨a.toArray⟩ : Str) = ⟨b.toArray⟩) : a = b := by
  have := congrArg (fun s : Str => s.cps.toList) h
  simpa using this
theorem bt_inj {c d : Code} (hc : Cv c) (hd : Cv d) (e : bt c = bt d) : c = d := by
  have h := toL_inj e
  have hl := congrArg List.length h
  rw [bl_len, bl_len] at hl
  obtain ⟨l, k⟩ := c
  obtain ⟨m, j⟩ := d
  simp only at hl h
  subst hl
  have e4 : k = j := bl_inj hc hd h
  rw [e4]
theorem bt_iff {c d : Code} (hc : Cv c) (hd : Cv d) : bt c = bt d ↔ c = d := ⟨bt_inj hc hd, congrArg bt⟩
theorem bt_ok (c : Code) : PyData.strOk (bt c) = true := by
  show (bl c.1 c.2).toArray.all _ = true
  rw [List.all_toArray]
  refine List.all_eq_true.mpr fun x hx => ?_
  obtain ⟨t, _, rfl⟩ := List.mem_map.mp hx
  refine decide_eq_true ?_
  omega
def c0 (c : Code) : Code := (c.1 + 1, 2 * c.2)
def c1 (c : Code) : Code := (c.1 + 1, 2 * c.2 + 1)
def up (c : Code) : Code := (c.1 - 1, c.2 / 2)
theorem app_one (a : List Nat) (x : Nat) : (⟨a.toArray⟩ : Str) ++ (⟨#[x]⟩ : Str) = ⟨(a ++ [x]).toArray⟩ := by
  show (⟨a.toArray ++ #[x]⟩ : Str) = _
  simp
theorem s0_eq : ("0" : Str) = ⟨#[48]⟩ := by decide +kernel
theorem s1_eq : ("1" : Str) = ⟨#[49]⟩ := by decide +kernel
theorem bt_0 (c : Code) : bt c ++ ("0" : Str) = bt (c0 c) := by
  rw [s0_eq]
  refine (app_one _ _).trans ?_
  show (⟨_⟩ : Str) = ⟨(bl (c.1 + 1) (2 * c.2)).toArray⟩
  rw [bl_snoc, show 2 * c.2 / 2 = c.2 by omega, show 48 + 2 * c.2 % 2 = 48 by omega]
theorem bt_1 (c : Code) : bt c ++ ("1" : Str) = bt (c1 c) := by
  rw [s1_eq]
  refine (app_one _ _).trans ?_
  show (⟨_⟩ : Str) = ⟨(bl (c.1 + 1) (2 * c.2 + 1)).toArray⟩
  rw [bl_snoc, show (2 * c.2 + 1) / 2 = c.2 by omega, show 48 + (2 * c.2 + 1) % 2 = 49 by omega]
theorem cv0 {c : Code} (h : Cv c) : Cv (c0 c) := by
  show 2 * c.2 < 2 ^ (c.1 + 1)
  have h : c.2 < 2 ^ c.1 := h
  rw [Nat.pow_succ]
  omega
theorem cv1 {c : Code} (h : Cv c) : Cv (c1 c) := by
  show 2 * c.2 + 1 < 2 ^ (c.1 + 1)
  have h : c.2 < 2 ^ c.1 := h
  rw [Nat.pow_succ]
  omega
theorem cvu {c : Code} (h : Cv c) (h1 : 0 < c.1) : Cv (up c) := by
  show c.2 / 2 < 2 ^ (c.1 - 1)
  have h : c.2 < 2 ^ c.1 := h
  rw [show c.1 = c.1 - 1 + 1 by omega, Nat.pow_succ] at h
  omega
theorem up0 (c : Code) : up (c0 c) = c := by
  show (c.1 + 1 - 1, 2 * c.2 / 2) = c
  rw [show 2 * c.2 / 2 = c.2 by omega]
  rfl
theorem up1 (c : Code) : up (c1 c) = c := by
  show (c.1 + 1 - 1, (2 * c.2 + 1) / 2) = c
  rw [show (2 * c.2 + 1) / 2 = c.2 by omega]
  rfl
theorem c01 (c : Code) : c0 c ≠ c1 c := fun h => by
  have := congrArg Prod.snd h
  simp only [c0, c1] at this
  omega
theorem cut_len (s : Str) : ∀ l : List Nat, s = ⟨l.toArray⟩ → s.length = l.length := fun l e => by
  rw [e]
  show l.toArray.size = _
  rw [List.size_toArray]
/-- the first j signs -/
theorem bt_pre {D j : Nat} (i : Nat) (h : j ≤ D) : cutS (bt (D, i)) none (some (j : Int)) = bt (j, i / 2 ^ (D - j)) := by
  unfold cutS
  rw [HT.sIx_none, HT.sIx_nat, bt_len]
  show (⟨((((bl D i).toArray.toList).drop 0).take (min j D - 0)).toArray⟩ : Str) = ⟨(bl j _).toArray⟩
  rw [Nat.min_eq_left h, List.drop_zero, Nat.sub_zero, List.toList_toArray, bl_take i h]
theorem sIx_neg1 (n : Nat) : HT.sIx (n + 1) (n + 1) (some (-1)) = n :=
  (show (if (-1 : Int) < 0 then ((-1 : Int) + ((n + 1 : Nat) : Int)).toNat else min (-1 : Int).toNat (n + 1)) = n from (if_pos (by decide)).trans (by omega))
theorem sIx_neg1' (n : Nat) : HT.sIx (n + 1) 0 (some (-1)) = n :=
  (show (if (-1 : Int) < 0 then ((-1 : Int) + ((n + 1 : Nat) : Int)).toNat else min (-1 : Int).toNat (n + 1)) = n from (if_pos (by decide)).trans (by omega))
theorem bt_up (c : Code) (h : 0 < c.1) : cutS (bt c) none (some (-1)) = bt (up c) := by
  obtain ⟨l, k⟩ := c
  obtain ⟨n, rfl⟩ : ∃ n, l = n + 1 := ⟨l - 1, by show l = l - 1 + 1; have h : 0 < l := h; omega⟩
  unfold cutS
  rw [HT.sIx_none, bt_len, sIx_neg1]
  show (⟨((((bl (n + 1) k).toArray.toList).drop 0).take (n - 0)).toArray⟩ : Str) = ⟨(bl n (k / 2)).toArray⟩
  rw [List.drop_zero, Nat.sub_zero, List.toList_toArray, bl_snoc, List.take_append_of_le_length (by rw [bl_len]; exact Nat.le_refl _), List.take_of_length_le (by rw [bl_len]; exact Nat.le_refl _)]
theorem bt_last (c : Code) (h : 0 < c.1) : cutS (bt c) (some (-1)) none = ⟨#[48 + c.2 % 2]⟩ := by
  obtain ⟨l, k⟩ := c
  obtain ⟨n, rfl⟩ : ∃ n, l = n + 1 := ⟨l - 1, by show l = l - 1 + 1; have h : 0 < l := h; omega⟩
  unfold cutS
  rw [HT.sIx_none, bt_len, sIx_neg1']
  show (⟨((((bl (n + 1) k).toArray.toList).drop n).take (n + 1 - n)).toArray⟩ : Str) = _
  rw [List.toList_toArray, bl_snoc, List.drop_append_of_le_length (by rw [bl_len]; exact Nat.le_refl _), List.drop_of_length_le (by rw [bl_len]; exact Nat.le_refl _), List.nil_append, List.take_of_length_le (by simp)]
theorem bt_nil (k : Nat) : bt (0, k) = ("" : Str) := by
  show (⟨(bl 0 k).toArray⟩ : Str) = _
  have : bl 0 k = [] := rfl
  rw [this]
  decide +kernel
/-! ### which code a place has -/
def inB (D i : Nat) (c : Code) : Bool := decide (c.1 ≤ D) && decide (i / 2 ^ (D - c.1) = c.2)
theorem inB_iff {D i : Nat} {c : Code} : inB D i c = true ↔ c.1 ≤ D ∧ i / 2 ^ (D - c.1) = c.2 := by
  unfold inB
  rw [Bool.and_eq_true_iff, decide_eq_true_iff, decide_eq_true_iff]
structure Cov (R : List Code) (D : Nat) : Prop where
  val : ∀ c ∈ R, Cv c ∧ c.1 ≤ D
  ex : ∀ i, i < 2 ^ D → ∃ c ∈ R, inB D i c = true
  uq : ∀ i, i < 2 ^ D → ∀ c ∈ R, ∀ d ∈ R, inB D i c = true → inB D i d = true → c = d
def atC (R : List Code) (D i : Nat) : Code := (R.filter (inB D i)).headD (0, 0)
def boardC (R : List Code) (D : Nat) : List Code := (List.range (2 ^ D)).map (atC R D)
theorem atC_eq {R : List Code} {D i : Nat} {c : Code} (h : Cov R D) (hi : i < 2 ^ D) (hc : c ∈ R) (hb : inB D i c = true) : atC R D i = c := by
  unfold atC
  have hm : c ∈ R.filter (inB D i) := List.mem_filter.mpr ⟨hc, hb⟩
  cases hf : R.filter (inB D i) with
  | nil => rw [hf] at hm; simp at hm
  | cons d t =>
    have hd : d ∈ R.filter (inB D i) := by rw [hf]; exact List.mem_cons_self
    have := List.mem_filter.mp hd
    exact h.uq i hi d this.1 c hc this.2 hb
theorem atC_mem {R : List Code} {D i : Nat} (h : Cov R D) (hi : i < 2 ^ D) : atC R D i ∈ R ∧ inB D i (atC R D i) = true := by
  obtain ⟨c, hc, hb⟩ := h.ex i hi
  rw [atC_eq h hi hc hb]
  exact ⟨hc, hb⟩
theorem atC_iff {R : List Code} {D i : Nat} {c : Code} (h : Cov R D) (hi : i < 2 ^ D) : atC R D i = c ↔ c ∈ R ∧ inB D i c = true :=
  ⟨fun e => e ▸ atC_mem h hi, fun ⟨a, b⟩ => atC_eq h hi a b⟩
def partR (R : List Code) (c : Code) : List Code := R.filter (fun d => decide (d ≠ c)) ++ [c0 c, c1 c]
def joinR (R : List Code) (c : Code) : List Code := R.filter (fun d => decide (d ≠ c0 c) && decide (d ≠ c1 c)) ++ [c]
theorem div_half (i D l : Nat) (h : l < D) : i / 2 ^ (D - l) = i / 2 ^ (D - (l + 1)) / 2 := by
  rw [Nat.div_div_eq_div_mul, ← Nat.pow_succ, show (D - (l + 1)).succ = D - l by omega]
theorem inB_half {D i : Nat} {c : Code} (h : c.1 < D) : inB D i c = true ↔ (inB D i (c0 c) = true ∨ inB D i (c1 c) = true) := by
  rw [inB_iff, inB_iff, inB_iff]
  show _ ↔ (c.1 + 1 ≤ D ∧ i / 2 ^ (D - (c.1 + 1)) = 2 * c.2) ∨ (c.1 + 1 ≤ D ∧ i / 2 ^ (D - (c.1 + 1)) = 2 * c.2 + 1)
  rw [div_half i D c.1 h]
  omega
theorem inB_not {D i : Nat} {c : Code} : ¬ (inB D i (c0 c) = true ∧ inB D i (c1 c) = true) := by
  rw [inB_iff, inB_iff]
  show ¬ ((c.1 + 1 ≤ D ∧ i / 2 ^ (D - (c.1 + 1)) = 2 * c.2) ∧ (c.1 + 1 ≤ D ∧ i / 2 ^ (D - (c.1 + 1)) = 2 * c.2 + 1))
  omega
theorem Cov.part {R : List Code} {D : Nat} {c : Code} (h : Cov R D) (hc : c ∈ R) (hl : c.1 < D) : Cov (partR R c) D := by
  have mem : ∀ d, d ∈ partR R c ↔ (d ∈ R ∧ d ≠ c) ∨ d = c0 c ∨ d = c1 c := fun d => by
    unfold partR
    rw [List.mem_append, List.mem_filter, decide_eq_true_iff]
    simp
  refine ⟨fun d hd => ?_, fun i hi => ?_, fun i hi d hd e he bd be => ?_⟩
  · rcases (mem d).mp hd with ⟨h1, _⟩ | rfl | rfl
    · exact h.val d h1
    · exact ⟨cv0 (h.val c hc).1, hl⟩
    · exact ⟨cv1 (h.val c hc).1, hl⟩
  · obtain ⟨d, hd, hb⟩ := h.ex i hi
    by_cases e : d = c
    · subst e
      rcases (inB_half hl).mp hb with z | z
      · exact ⟨_, (mem _).mpr (.inr (.inl rfl)), z⟩
      · exact ⟨_, (mem _).mpr (.inr (.inr rfl)), z⟩
    · exact ⟨d, (mem d).mpr (.inl ⟨hd, e⟩), hb⟩
  · have half : ∀ d, d = c0 c ∨ d = c1 c → inB D i d = true → inB D i c = true := fun d hd b => (inB_half hl).mpr (hd.elim (fun e => .inl (e ▸ b)) fun e => .inr (e ▸ b))
    rcases (mem d).mp hd with ⟨h1, n1⟩ | h1 <;> rcases (mem e).mp he with ⟨h2, n2⟩ | h2
    · exact h.uq i hi d h1 e h2 bd be
    · exact absurd (h.uq i hi d h1 c hc bd (half e h2 be)) n1
    · exact absurd (h.uq i hi e h2 c hc be (half d h1 bd)) n2
    · rcases h1 with rfl | rfl <;> rcases h2 with rfl | rfl
      · rfl
      · exact absurd ⟨bd, be⟩ inB_not
      · exact absurd ⟨be, bd⟩ inB_not
      · rfl
theorem mem_part {R : List Code} {c d : Code} : d ∈ partR R c ↔ (d ∈ R ∧ d ≠ c) ∨ d = c0 c ∨ d = c1 c := by
  unfold partR
  rw [List.mem_append, List.mem_filter, decide_eq_true_iff]
  simp
theorem mem_join {R : List Code} {c d : Code} : d ∈ joinR R c ↔ (d ∈ R ∧ d ≠ c0 c ∧ d ≠ c1 c) ∨ d = c := by
  unfold joinR
  rw [List.mem_append, List.mem_filter, Bool.and_eq_true_iff, decide_eq_true_iff, decide_eq_true_iff]
  simp
theorem Cov.join {R : List Code} {D : Nat} {c : Code} (h : Cov R D) (hv : Cv c) (h0 : c0 c ∈ R) (h1 : c1 c ∈ R) : Cov (joinR R c) D := by
  have hl : c.1 < D := (h.val _ h0).2
  have key : ∀ i, i < 2 ^ D → inB D i c = true → ∀ d, d ∈ R → inB D i d = true → d = c0 c ∨ d = c1 c := fun i hi b d hd bd => by
    rcases (inB_half hl).mp b with z | z
    · exact .inl (h.uq i hi d hd _ h0 bd z)
    · exact .inr (h.uq i hi d hd _ h1 bd z)
  refine ⟨fun d hd => ?_, fun i hi => ?_, fun i hi d hd e he bd be => ?_⟩
  · rcases mem_join.mp hd with ⟨h1, _⟩ | rfl
    · exact h.val d h1
    · exact ⟨hv, Nat.le_of_lt hl⟩
  · obtain ⟨d, hd, hb⟩ := h.ex i hi
    by_cases e : d = c0 c ∨ d = c1 c
    · exact ⟨c, mem_join.mpr (.inr rfl), (inB_half hl).mpr (e.elim (fun e => .inl (e ▸ hb)) fun e => .inr (e ▸ hb))⟩
    · exact ⟨d, mem_join.mpr (.inl ⟨hd, fun z => e (.inl z), fun z => e (.inr z)⟩), hb⟩
  · rcases mem_join.mp hd with ⟨g1, n1, n1'⟩ | g1 <;> rcases mem_join.mp he with ⟨g2, n2, n2'⟩ | g2
    · exact h.uq i hi d g1 e g2 bd be
    · subst g2
      exact absurd (key i hi be d g1 bd) (fun z => z.elim n1 n1')
    · subst g1
      exact absurd (key i hi bd e g2 be) (fun z => z.elim n2 n2')
    · rw [g1, g2]
/-- a board parted -/
def partGo {α : Type} [DecidableEq α] (b b0 b1 : α) : Nat → List α → List α
  | _, [] => []
  | z, s :: t => if s = b then (if 0 < z then b0 :: partGo b b0 b1 (z - 1) t else b1 :: partGo b b0 b1 z t) else s :: partGo b b0 b1 z t
def joinGo {α : Type} [DecidableEq α] (b b0 b1 : α) (l : List α) : List α := l.map fun s => if s = b0 ∨ s = b1 then b else s
theorem partGo_run {c x0 x1 : Code} {f g : Nat → Code} {st h : Nat} : ∀ n i0 : Nat, (∀ i, i0 ≤ i → i < i0 + n → (f i = c ↔ st ≤ i ∧ i < st + 2 * h)) → (∀ i, i0 ≤ i → i < i0 + n → g i = if f i = c then (if i < st + h then x0 else x1) else f i) →
    partGo c x0 x1 (h - (i0 - st)) ((List.range' i0 n).map f) = (List.range' i0 n).map g
  | 0, _, _, _ => rfl
  | n + 1, i0, hf, hg => by
    rw [List.range'_succ, List.map_cons, List.map_cons]
    have ih := partGo_run (c := c) (x0 := x0) (x1 := x1) (f := f) (g := g) (st := st) (h := h) n (i0 + 1) (fun i a b => hf i (by omega) (by omega)) (fun i a b => hg i (by omega) (by omega))
    have f0 := hf i0 (Nat.le_refl _) (by omega)
    rw [hg i0 (Nat.le_refl _) (by omega), partGo]
    by_cases e : f i0 = c
    · have e2 := f0.mp e
      rw [if_pos e, if_pos e]
      by_cases z : i0 < st + h
      · rw [if_pos z, if_pos (by omega), show h - (i0 - st) - 1 = h - (i0 + 1 - st) by omega, ih]
      · rw [if_neg z, if_neg (by omega), show h - (i0 - st) = h - (i0 + 1 - st) by omega, ih]
    · rw [if_neg e, if_neg e]
      have e2 : ¬ (st ≤ i0 ∧ i0 < st + 2 * h) := fun z => e (f0.mpr z)
      rw [show h - (i0 - st) = h - (i0 + 1 - st) by omega, ih]
theorem count_run {c : Code} {f : Nat → Code} {st h : Nat} : ∀ n i0 : Nat, (∀ i, i0 ≤ i → i < i0 + n → (f i = c ↔ st ≤ i ∧ i < st + 2 * h)) → ((List.range' i0 n).map f).count c = min (i0 + n) (st + 2 * h) - max i0 st
  | 0, i0, _ => by
    show 0 = _
    omega
  | n + 1, i0, hf => by
    rw [List.range'_succ, List.map_cons, List.count_cons]
    rw [count_run (c := c) (f := f) (st := st) (h := h) n (i0 + 1) (fun i a b => hf i (by omega) (by omega))]
    have f0 := hf i0 (Nat.le_refl _) (by omega)
    by_cases e : f i0 = c
    · have e2 := f0.mp e
      rw [if_pos (by rw [e]; exact beq_self_eq_true c)]
      omega
    · have e2 : ¬ (st ≤ i0 ∧ i0 < st + 2 * h) := fun z => e (f0.mpr z)
      rw [if_neg (by rw [beq_iff_eq]; exact e)]
      omega
theorem blk_iff {D i : Nat} {c : Code} (hl : c.1 ≤ D) : inB D i c = true ↔ c.2 * 2 ^ (D - c.1) ≤ i ∧ i < c.2 * 2 ^ (D - c.1) + 2 ^ (D - c.1) := by
  rw [inB_iff, Nat.div_eq_iff (Nat.two_pow_pos _)]
  constructor
  · rintro ⟨_, h1, h2⟩
    have := Nat.two_pow_pos (D - c.1)
    omega
  · rintro ⟨h1, h2⟩
    exact ⟨hl, by omega, by omega⟩
theorem atC_part {R : List Code} {D i : Nat} {c : Code} (h : Cov R D) (hc : c ∈ R) (hl : c.1 < D) (hi : i < 2 ^ D) : atC (partR R c) D i = if atC R D i = c then (if i < c.2 * 2 ^ (D - c.1) + 2 ^ (D - (c.1 + 1)) then c0 c else c1 c) else atC R D i := by
  have h' := h.part hc hl
  have hm := atC_mem h hi
  by_cases e : atC R D i = c
  · rw [if_pos e]
    rw [e] at hm
    have hb := (inB_half hl).mp hm.2
    have b0 := blk_iff (D := D) (i := i) (c := c0 c) hl
    have b1 := blk_iff (D := D) (i := i) (c := c1 c) hl
    have e2 : c.2 * 2 ^ (D - c.1) = 2 * c.2 * 2 ^ (D - (c.1 + 1)) := by
      rw [show D - c.1 = D - (c.1 + 1) + 1 by omega, Nat.pow_succ, Nat.mul_comm 2 c.2, Nat.mul_assoc, Nat.mul_comm 2]
    have e3 : (2 * c.2 + 1) * 2 ^ (D - (c.1 + 1)) = 2 * c.2 * 2 ^ (D - (c.1 + 1)) + 2 ^ (D - (c.1 + 1)) := by rw [Nat.add_mul, Nat.one_mul]
    have b0' : inB D i (c0 c) = true ↔ 2 * c.2 * 2 ^ (D - (c.1 + 1)) ≤ i ∧ i < 2 * c.2 * 2 ^ (D - (c.1 + 1)) + 2 ^ (D - (c.1 + 1)) := b0
    have b1' : inB D i (c1 c) = true ↔ (2 * c.2 + 1) * 2 ^ (D - (c.1 + 1)) ≤ i ∧ i < (2 * c.2 + 1) * 2 ^ (D - (c.1 + 1)) + 2 ^ (D - (c.1 + 1)) := b1
    rw [e2]
    rcases hb with z | z
    · rw [if_pos (b0'.mp z).2]
      exact atC_eq h' hi (mem_part.mpr (.inr (.inl rfl))) z
    · have z2 := b1'.mp z
      rw [if_neg (by omega)]
      exact atC_eq h' hi (mem_part.mpr (.inr (.inr rfl))) z
  · rw [if_neg e]
    exact atC_eq h' hi (mem_part.mpr (.inl ⟨hm.1, e⟩)) hm.2
theorem atC_join {R : List Code} {D i : Nat} {c : Code} (h : Cov R D) (hv : Cv c) (h0 : c0 c ∈ R) (h1 : c1 c ∈ R) (hi : i < 2 ^ D) : atC (joinR R c) D i = if atC R D i = c0 c ∨ atC R D i = c1 c then c else atC R D i := by
  have h' := h.join hv h0 h1
  have hl : c.1 < D := (h.val _ h0).2
  have hm := atC_mem h hi
  by_cases e : atC R D i = c0 c ∨ atC R D i = c1 c
  · rw [if_pos e]
    exact atC_eq h' hi (mem_join.mpr (.inr rfl)) ((inB_half hl).mpr (e.elim (fun e => .inl (e ▸ hm.2)) fun e => .inr (e ▸ hm.2)))
  · rw [if_neg e]
    exact atC_eq h' hi (mem_join.mpr (.inl ⟨hm.1, fun z => e (.inl z), fun z => e (.inr z)⟩)) hm.2
theorem board_f {R : List Code} {D : Nat} {c : Code} (h : Cov R D) (hc : c ∈ R) (hl : c.1 < D) : ∀ i, 0 ≤ i → i < 0 + 2 ^ D → (atC R D i = c ↔ c.2 * 2 ^ (D - c.1) ≤ i ∧ i < c.2 * 2 ^ (D - c.1) + 2 * 2 ^ (D - (c.1 + 1))) := fun i _ hi => by
  have hi : i < 2 ^ D := by omega
  rw [atC_iff h hi, blk_iff (Nat.le_of_lt hl)]
  have e : 2 ^ (D - c.1) = 2 * 2 ^ (D - (c.1 + 1)) := by rw [show D - c.1 = D - (c.1 + 1) + 1 by omega, Nat.pow_succ, Nat.mul_comm]
  rw [← e]
  exact ⟨fun z => z.2, fun z => ⟨hc, z⟩⟩
theorem blk_end {D : Nat} {c : Code} (hv : Cv c) (hl : c.1 ≤ D) : c.2 * 2 ^ (D - c.1) + 2 ^ (D - c.1) ≤ 2 ^ D := by
  have h : c.2 + 1 ≤ 2 ^ c.1 := hv
  have := Nat.mul_le_mul_right (2 ^ (D - c.1)) h
  rw [← Nat.pow_add, show c.1 + (D - c.1) = D by omega, Nat.add_mul, Nat.one_mul] at this
  exact this
theorem part_count {R : List Code} {D : Nat} {c : Code} (h : Cov R D) (hc : c ∈ R) (hl : c.1 < D) : (boardC R D).count c = 2 * 2 ^ (D - (c.1 + 1)) := by
  unfold boardC
  rw [List.range_eq_range', count_run _ _ (board_f h hc hl)]
  have e : 2 ^ (D - c.1) = 2 * 2 ^ (D - (c.1 + 1)) := by rw [show D - c.1 = D - (c.1 + 1) + 1 by omega, Nat.pow_succ, Nat.mul_comm]
  have := blk_end (h.val c hc).1 (Nat.le_of_lt hl)
  omega
theorem part_board {R : List Code} {D : Nat} {c : Code} (h : Cov R D) (hc : c ∈ R) (hl : c.1 < D) : partGo c (c0 c) (c1 c) ((boardC R D).count c / 2) (boardC R D) = boardC (partR R c) D := by
  rw [part_count h hc hl, show 2 * 2 ^ (D - (c.1 + 1)) / 2 = 2 ^ (D - (c.1 + 1)) by omega]
  unfold boardC
  have := partGo_run (x0 := c0 c) (x1 := c1 c) (g := atC (partR R c) D) (2 ^ D) 0 (board_f h hc hl) (fun i _ hi => atC_part h hc hl (by omega))
  rw [Nat.zero_sub, Nat.sub_zero, ← List.range_eq_range'] at this
  exact this
theorem join_board {R : List Code} {D : Nat} {c : Code} (h : Cov R D) (hv : Cv c) (h0 : c0 c ∈ R) (h1 : c1 c ∈ R) : joinGo c (c0 c) (c1 c) (boardC R D) = boardC (joinR R c) D := by
  unfold joinGo boardC
  rw [List.map_map]
  refine List.map_congr_left fun i hi => ?_
  show (if atC R D i = c0 c ∨ atC R D i = c1 c then c else atC R D i) = _
  rw [atC_join h hv h0 h1 (List.mem_range.mp hi)]
/-- the same by texts -/
theorem partGo_bt {c : Code} (hc : Cv c) : ∀ (z : Nat) (L : List Code), (∀ d ∈ L, Cv d) → partGo (bt c) (bt (c0 c)) (bt (c1 c)) z (L.map bt) = (partGo c (c0 c) (c1 c) z L).map bt
  | _, [], _ => rfl
  | z, d :: t, h => by
    have ih := fun z => partGo_bt hc z t fun d hd => h d (List.mem_cons_of_mem _ hd)
    rw [List.map_cons, partGo, partGo]
    have hd := h d List.mem_cons_self
    by_cases e : d = c
    · rw [if_pos (congrArg bt e), if_pos e]
      by_cases hz : 0 < z
      · rw [if_pos hz, if_pos hz, ih, List.map_cons]
      · rw [if_neg hz, if_neg hz, ih, List.map_cons]
    · rw [if_neg fun z => e (bt_inj hd hc z), if_neg e, ih, List.map_cons]
theorem count_bt {c : Code} (hc : Cv c) : ∀ L : List Code, (∀ d ∈ L, Cv d) → (L.map bt).count (bt c) = L.count c
  | [], _ => rfl
  | d :: t, h => by
    have ih := count_bt hc t fun d hd => h d (List.mem_cons_of_mem _ hd)
    have hd := h d List.mem_cons_self
    rw [List.map_cons, List.count_cons, List.count_cons, ih]
    by_cases e : d = c
    · rw [if_pos (by rw [e]; exact beq_self_eq_true _), if_pos (by rw [e]; exact beq_self_eq_true _)]
    · rw [if_neg (by rw [beq_iff_eq]; exact fun z => e (bt_inj hd hc z)), if_neg (by rw [beq_iff_eq]; exact e)]
theorem joinGo_bt {c : Code} (hc : Cv c) (L : List Code) (h : ∀ d ∈ L, Cv d) : joinGo (bt c) (bt (c0 c)) (bt (c1 c)) (L.map bt) = (joinGo c (c0 c) (c1 c) L).map bt := by
  unfold joinGo
  rw [List.map_map, List.map_map]
  refine List.map_congr_left fun d hd => ?_
  show (if bt d = bt (c0 c) ∨ bt d = bt (c1 c) then bt c else bt d) = bt (if d = c0 c ∨ d = c1 c then c else d)
  have k : (bt d = bt (c0 c) ∨ bt d = bt (c1 c)) ↔ (d = c0 c ∨ d = c1 c) := or_congr (bt_iff (h d hd) (cv0 hc)) (bt_iff (h d hd) (cv1 hc))
  by_cases e : d = c0 c ∨ d = c1 c
  · rw [if_pos (k.mpr e), if_pos e]
  · rw [if_neg fun z => e (k.mp z), if_neg e]
theorem board_cv {R : List Code} {D : Nat} (h : Cov R D) : ∀ d ∈ boardC R D, Cv d := fun d hd => by
  obtain ⟨i, hi, rfl⟩ := List.mem_map.mp hd
  exact (h.val _ (atC_mem h (List.mem_range.mp hi)).1).1
theorem board_len (R : List Code) (D : Nat) : (boardC R D).length = 2 ^ D := by
  unfold boardC
  rw [List.length_map, List.length_range]

end
section
theorem Cov.lift {R : List Code} {D N : Nat} (h : Cov R D) (hN : D ≤ N) : Cov R N := by
  have key : ∀ m, m < 2 ^ N → ∀ c ∈ R, (inB N m c = true ↔ inB D (m / 2 ^ (N - D)) c = true) := fun m _ c hc => by
    have hv := (h.val c hc).2
    rw [inB_iff, inB_iff, Nat.div_div_eq_div_mul, ← Nat.pow_add, show N - D + (D - c.1) = N - c.1 by omega]
    exact ⟨fun z => ⟨hv, z.2⟩, fun z => ⟨by omega, z.2⟩⟩
  have hlt : ∀ m, m < 2 ^ N → m / 2 ^ (N - D) < 2 ^ D := fun m hm => by
    rw [Nat.div_lt_iff_lt_mul (Nat.two_pow_pos _), ← Nat.pow_add, show D + (N - D) = N by omega]
    exact hm
  refine ⟨fun c hc => ⟨(h.val c hc).1, Nat.le_trans (h.val c hc).2 hN⟩, fun m hm => ?_, fun m hm c hc d hd bc bd => ?_⟩
  · obtain ⟨c, hc, hb⟩ := h.ex _ (hlt m hm)
    exact ⟨c, hc, (key m hm c hc).mpr hb⟩
  · exact h.uq _ (hlt m hm) c hc d hd ((key m hm c hc).mp bc) ((key m hm d hd).mp bd)
theorem Cov.down {R : List Code} {D N : Nat} (h : Cov R N) (hN : D ≤ N) (hl : ∀ c ∈ R, c.1 ≤ D) : Cov R D := by
  have key : ∀ i, i < 2 ^ D → ∀ c ∈ R, (inB N (i * 2 ^ (N - D)) c = true ↔ inB D i c = true) := fun i _ c hc => by
    have hv := hl c hc
    rw [inB_iff, inB_iff, show N - c.1 = (N - D) + (D - c.1) by omega, Nat.pow_add, ← Nat.div_div_eq_div_mul, Nat.mul_div_cancel _ (Nat.two_pow_pos _)]
    exact ⟨fun z => ⟨hv, z.2⟩, fun z => ⟨by omega, z.2⟩⟩
  have hlt : ∀ i, i < 2 ^ D → i * 2 ^ (N - D) < 2 ^ N := fun i hi => by
    have e : 2 ^ N = 2 ^ D * 2 ^ (N - D) := by rw [← Nat.pow_add, show D + (N - D) = N by omega]
    rw [e]
    exact Nat.mul_lt_mul_of_pos_right hi (Nat.two_pow_pos _)
  refine ⟨fun c hc => ⟨(h.val c hc).1, hl c hc⟩, fun i hi => ?_, fun i hi c hc d hd bc bd => ?_⟩
  · obtain ⟨c, hc, hb⟩ := h.ex _ (hlt i hi)
    exact ⟨c, hc, (key i hi c hc).mp hb⟩
  · exact h.uq _ (hlt i hi) c hc d hd ((key i hi c hc).mpr bc) ((key i hi d hd).mpr bd)
theorem cov_one (D : Nat) : Cov [(0, 0)] D := by
  refine ⟨fun c hc => ?_, fun i hi => ⟨(0, 0), List.mem_singleton.mpr rfl, ?_⟩, fun i hi c hc d hd _ _ => ?_⟩
  · rw [List.mem_singleton.mp hc]
    exact ⟨by show 0 < 2 ^ 0; decide, Nat.zero_le _⟩
  · rw [inB_iff]
    exact ⟨Nat.zero_le _, by rw [Nat.sub_zero]; exact Nat.div_eq_of_lt hi⟩
  · rw [List.mem_singleton.mp hc, List.mem_singleton.mp hd]
theorem cov_pos {R : List Code} {D : Nat} (h : Cov R D) : 0 < R.length := by
  obtain ⟨c, hc, _⟩ := h.ex 0 (Nat.two_pow_pos D)
  exact List.length_pos_of_mem hc

/-! ### a store's rooms, by plain numbers -/
def mixN (n : Nat) : Nat := (171 * n + 37) % 256
theorem mixN_lt (n : Nat) : mixN n < 256 := Nat.mod_lt _ (by decide)
theorem mix_int (n : Nat) : (171 * (n : Int) + 37) % 256 = ((mixN n : Nat) : Int) := by
  unfold mixN
  omega
theorem mixN_inj {a b : Nat} (ha : a < 256) (hb : b < 256) (h : mixN a = mixN b) : a = b := by
  unfold mixN at h
  omega
def mx (n : Int) : Nat := mixN n.toNat
theorem mx_lt (n : Int) : mx n < 2 ^ 8 := mixN_lt _
/-- names rising, of 0 to 255 -/
structure Names (ps : List (Int × Int)) : Prop where
  up : ps.Pairwise fun a b => a.1 < b.1
  all : ∀ p ∈ ps, 0 ≤ p.1 ∧ p.1 < 256
theorem Names.sub {ps qs : List (Int × Int)} (h : Names ps) (s : qs.Sublist ps) : Names qs := ⟨h.up.sublist s, fun p hp => h.all p (s.subset hp)⟩
theorem Names.fil {ps : List (Int × Int)} (h : Names ps) (q : Int × Int → Bool) : Names (ps.filter q) := h.sub List.filter_sublist
theorem Names.len {ps : List (Int × Int)} (h : Names ps) : ps.length ≤ 256 := by
  have key : ∀ (L : List Int) (lo : Int), L.Pairwise (· < ·) → (∀ x ∈ L, lo ≤ x ∧ x < 256) → (L.length : Int) ≤ max 0 (256 - lo) := by
    intro L
    induction L with
    | nil => intro lo _ _; simp; omega
    | cons a t ih =>
      intro lo hp ha
      have h1 := List.pairwise_cons.mp hp
      have h2 := ha a List.mem_cons_self
      have := ih (a + 1) h1.2 fun x hx => ⟨by have := h1.1 x hx; omega, (ha x (List.mem_cons_of_mem _ hx)).2⟩
      rw [List.length_cons]
      omega
  have := key (ps.map (·.1)) 0 (List.pairwise_map.mpr h.up) fun x hx => by
    obtain ⟨p, hp, rfl⟩ := List.mem_map.mp hx
    exact h.all p hp
  rw [List.length_map] at this
  omega
def inn (c : Code) (p : Int × Int) : Bool := inB 8 (mx p.1) c
def thg (ps : List (Int × Int)) (c : Code) : List (Int × Int) := ps.filter (inn c)
def cnt (ps : List (Int × Int)) (c : Code) : Nat := (thg ps c).length
theorem inn_half {c : Code} (h : c.1 < 8) (p : Int × Int) : inn c p = (inn (c0 c) p || inn (c1 c) p) := by
  unfold inn
  rw [Bool.eq_iff_iff, inB_half h, Bool.or_eq_true_iff]
theorem inn_not {c : Code} (p : Int × Int) (h : inn (c0 c) p = true) : inn (c1 c) p = false := by
  cases e : inn (c1 c) p with
  | false => rfl
  | true => exact absurd ⟨h, e⟩ inB_not
theorem cnt_half {c : Code} (h : c.1 < 8) (ps : List (Int × Int)) : cnt ps c = cnt ps (c0 c) + cnt ps (c1 c) := by
  unfold cnt thg
  induction ps with
  | nil => rfl
  | cons p t ih =>
    rw [List.filter_cons, List.filter_cons, List.filter_cons, inn_half h]
    cases e0 : inn (c0 c) p with
    | true =>
      rw [inn_not p e0]
      simp only [Bool.or_false, if_true, Bool.false_eq_true, if_false, List.length_cons, ih]
      omega
    | false =>
      cases e1 : inn (c1 c) p with
      | true =>
        simp only [Bool.or_true, if_true, Bool.false_eq_true, if_false, List.length_cons, ih]
        omega
      | false =>
        simp only [Bool.or_false, Bool.false_eq_true, if_false, ih]
/-- d is c or in it -/
def Below (d c : Code) : Prop := c.1 ≤ d.1 ∧ d.2 / 2 ^ (d.1 - c.1) = c.2
theorem Below.refl (c : Code) : Below c c := ⟨Nat.le_refl _, by rw [Nat.sub_self, Nat.pow_zero, Nat.div_one]⟩
theorem Below.trans {a b c : Code} (h : Below a b) (k : Below b c) : Below a c := by
  refine ⟨Nat.le_trans k.1 h.1, ?_⟩
  rw [← k.2, ← h.2, Nat.div_div_eq_div_mul, ← Nat.pow_add]
  have h1 := h.1
  have h2 := k.1
  rw [show a.1 - b.1 + (b.1 - c.1) = a.1 - c.1 by omega]
theorem below0 (c : Code) : Below (c0 c) c := ⟨Nat.le_succ _, by show 2 * c.2 / 2 ^ (c.1 + 1 - c.1) = c.2; rw [show c.1 + 1 - c.1 = 1 by omega]; omega⟩
theorem below1 (c : Code) : Below (c1 c) c := ⟨Nat.le_succ _, by show (2 * c.2 + 1) / 2 ^ (c.1 + 1 - c.1) = c.2; rw [show c.1 + 1 - c.1 = 1 by omega]; omega⟩
theorem Below.inB {d c : Code} {D i : Nat} (h : Below d c) (k : inB D i d = true) : inB D i c = true := by
  rw [inB_iff] at k ⊢
  have h1 := h.1
  refine ⟨by omega, ?_⟩
  rw [← h.2, ← k.2, Nat.div_div_eq_div_mul, ← Nat.pow_add, show D - d.1 + (d.1 - c.1) = D - c.1 by omega]
/-- two that hold one place: one is in the other -/
theorem below_of {d c : Code} {D i : Nat} (hd : inB D i d = true) (hc : inB D i c = true) (h : c.1 ≤ d.1) : Below d c := by
  rw [inB_iff] at hd hc
  refine ⟨h, ?_⟩
  rw [← hd.2, ← hc.2, Nat.div_div_eq_div_mul, ← Nat.pow_add, show D - d.1 + (d.1 - c.1) = D - c.1 by omega]
theorem Below.eq {d c : Code} (h : Below d c) (hl : d.1 = c.1) : d = c := by
  have := h.2
  rw [hl, Nat.sub_self, Nat.pow_zero, Nat.div_one] at this
  exact Prod.ext hl this
theorem filter_len_le {α : Type} {p q : α → Bool} (h : ∀ a, p a = true → q a = true) : ∀ l : List α, (l.filter p).length ≤ (l.filter q).length
  | [] => Nat.le_refl _
  | a :: t => by
    have ih := filter_len_le h t
    rw [List.filter_cons, List.filter_cons]
    cases hp : p a with
    | true =>
      rw [h a hp]
      simp only [if_true, List.length_cons]
      omega
    | false =>
      simp only [Bool.false_eq_true, if_false]
      cases q a with
      | true =>
        simp only [if_true, List.length_cons]
        omega
      | false =>
        simp only [Bool.false_eq_true, if_false]
        exact ih
theorem Below.cnt {d c : Code} (h : Below d c) (ps : List (Int × Int)) : cnt ps d ≤ cnt ps c := filter_len_le (fun p hp => h.inB hp) ps
theorem cnt_8 {c : Code} (h : c.1 = 8) {ps : List (Int × Int)} (hn : Names ps) : cnt ps c ≤ 1 := by
  unfold cnt thg
  have hs := hn.fil (inn c)
  have hall : ∀ p ∈ ps.filter (inn c), mx p.1 = c.2 := fun p hp => by
    have := inB_iff.mp (List.mem_filter.mp hp).2
    rw [h, Nat.sub_self, Nat.pow_zero, Nat.div_one] at this
    exact this.2
  generalize ps.filter (inn c) = qs at hs hall
  match qs, hs, hall with
  | [], _, _ => exact Nat.zero_le _
  | [_], _, _ => exact Nat.le_refl _
  | a :: b :: t, hs, hall =>
    exfalso
    have h1 := hall a List.mem_cons_self
    have h2 := hall b (List.mem_cons_of_mem _ List.mem_cons_self)
    have h3 := (List.pairwise_cons.mp hs.up).1 b List.mem_cons_self
    have h4 := hs.all a List.mem_cons_self
    have h5 := hs.all b (List.mem_cons_of_mem _ List.mem_cons_self)
    have := mixN_inj (a := a.1.toNat) (b := b.1.toNat) (by omega) (by omega) (h1.trans h2.symm)
    omega
/-! #### things put and taken -/
def insT (ps : List (Int × Int)) (n v : Int) : List (Int × Int) := ps.filter (fun p => decide (p.1 < n)) ++ (n, v) :: ps.filter (fun p => decide (n < p.1))
def delT (ps : List (Int × Int)) (n : Int) : List (Int × Int) := ps.filter fun p => decide (p.1 ≠ n)
def valT (ps : List (Int × Int)) (n : Int) : Option Int := (ps.find? fun p => decide (p.1 = n)).map (·.2)
theorem two_halves {ps : List (Int × Int)} (hn : ps.Pairwise fun a b => a.1 < b.1) (n : Int) (h : ∀ p ∈ ps, p.1 ≠ n) : ps.filter (fun p => decide (p.1 < n)) ++ ps.filter (fun p => decide (n < p.1)) = ps := by
  induction ps with
  | nil => rfl
  | cons p t ih =>
    have h1 := List.pairwise_cons.mp hn
    have h2 := h p List.mem_cons_self
    have ih := ih h1.2 fun q hq => h q (List.mem_cons_of_mem _ hq)
    rw [List.filter_cons, List.filter_cons]
    by_cases e : p.1 < n
    · rw [decide_eq_true e, decide_eq_false (by omega : ¬ n < p.1)]
      simp only [if_true, Bool.false_eq_true, if_false, List.cons_append, ih]
    · have e2 : n < p.1 := by omega
      rw [decide_eq_false e, decide_eq_true e2]
      have hz : t.filter (fun p => decide (p.1 < n)) = [] := List.filter_eq_nil_iff.mpr fun q hq => by
        have := h1.1 q hq
        rw [decide_eq_true_iff]
        omega
      have ha : t.filter (fun p => decide (n < p.1)) = t := List.filter_eq_self.mpr fun q hq => by
        have := h1.1 q hq
        rw [decide_eq_true_iff]
        omega
      rw [hz, ha]
      rfl
theorem Names.ins {ps : List (Int × Int)} (h : Names ps) {n : Int} (v : Int) (h0 : 0 ≤ n) (h1 : n < 256) : Names (insT ps n v) := by
  refine ⟨?_, fun p hp => ?_⟩
  · unfold insT
    rw [List.pairwise_append]
    refine ⟨h.up.sublist List.filter_sublist, List.pairwise_cons.mpr ⟨fun q hq => ?_, h.up.sublist List.filter_sublist⟩, fun a ha b hb => ?_⟩
    · have := (List.mem_filter.mp hq).2
      exact of_decide_eq_true this
    · have ha := of_decide_eq_true (List.mem_filter.mp ha).2
      rcases List.mem_cons.mp hb with e | e
      · rw [e]
        exact ha
      · have := of_decide_eq_true (List.mem_filter.mp e).2
        omega
  · unfold insT at hp
    rcases List.mem_append.mp hp with e | e
    · exact h.all p (List.mem_filter.mp e).1
    · rcases List.mem_cons.mp e with e | e
      · rw [e]
        exact ⟨h0, h1⟩
      · exact h.all p (List.mem_filter.mp e).1
theorem fil_comm {α : Type} (p q : α → Bool) (l : List α) : (l.filter p).filter q = (l.filter q).filter p := by
  rw [List.filter_filter, List.filter_filter]
  exact List.filter_congr fun a _ => Bool.and_comm _ _
theorem thg_ins {ps : List (Int × Int)} (h : Names ps) (n v : Int) (c : Code) : thg (insT ps n v) c = if inB 8 (mx n) c = true then insT (thg ps c) n v else thg ps c := by
  unfold thg insT
  rw [List.filter_append, List.filter_cons]
  show _ ++ (if inB 8 (mx n) c = true then _ else _) = _
  by_cases e : inB 8 (mx n) c = true
  · rw [if_pos e, if_pos e, fil_comm (fun p : Int × Int => decide (p.1 < n)) (inn c), fil_comm (fun p : Int × Int => decide (n < p.1)) (inn c)]
  · rw [if_neg e, if_neg e, fil_comm (fun p : Int × Int => decide (p.1 < n)) (inn c), fil_comm (fun p : Int × Int => decide (n < p.1)) (inn c)]
    refine two_halves (h.fil (inn c)).up n fun p hp z => e ?_
    have := (List.mem_filter.mp hp).2
    rw [← z]
    exact this
theorem thg_del (ps : List (Int × Int)) (n : Int) (c : Code) : thg (delT ps n) c = delT (thg ps c) n := fil_comm _ _ _
theorem ins_len {ps : List (Int × Int)} (h : ps.Pairwise fun a b => a.1 < b.1) (n v : Int) : ps.length ≤ (insT ps n v).length ∧ (insT ps n v).length ≤ ps.length + 1 := by
  unfold insT
  induction ps with
  | nil => simp
  | cons p t ih =>
    have h1 := List.pairwise_cons.mp h
    have ih := ih h1.2
    rw [List.filter_cons, List.filter_cons]
    simp only [List.length_append, List.length_cons] at ih ⊢
    by_cases e1 : p.1 < n
    · rw [decide_eq_true e1, decide_eq_false (by omega : ¬ n < p.1)]
      simp only [if_true, Bool.false_eq_true, if_false, List.length_cons]
      omega
    · have hz : t.filter (fun p => decide (p.1 < n)) = [] := List.filter_eq_nil_iff.mpr fun q hq => by
        have := h1.1 q hq
        rw [decide_eq_true_iff]
        omega
      have ha : t.filter (fun p => decide (n < p.1)) = t := List.filter_eq_self.mpr fun q hq => by
        have := h1.1 q hq
        rw [decide_eq_true_iff]
        omega
      rw [decide_eq_false e1, hz, ha]
      by_cases e2 : n < p.1
      · rw [decide_eq_true e2]
        simp
      · rw [decide_eq_false e2]
        simp
theorem mem_ins {ps : List (Int × Int)} {n v : Int} : (n, v) ∈ insT ps n v := List.mem_append_right _ List.mem_cons_self
theorem cnt_ins {ps : List (Int × Int)} (h : Names ps) (n v : Int) (c : Code) : cnt ps c ≤ cnt (insT ps n v) c ∧ cnt (insT ps n v) c ≤ cnt ps c + 1 ∧ (inB 8 (mx n) c = false → cnt (insT ps n v) c = cnt ps c) := by
  unfold cnt
  rw [thg_ins h]
  by_cases e : inB 8 (mx n) c = true
  · rw [if_pos e]
    have := ins_len (h.fil (inn c)).up n v
    exact ⟨this.1, this.2, fun z => by rw [e] at z; cases z⟩
  · rw [if_neg e]
    exact ⟨Nat.le_refl _, Nat.le_succ _, fun _ => rfl⟩
theorem cnt_del (ps : List (Int × Int)) (n : Int) (c : Code) : cnt (delT ps n) c ≤ cnt ps c ∧ (inB 8 (mx n) c = false → cnt (delT ps n) c = cnt ps c) := by
  unfold cnt
  rw [thg_del]
  refine ⟨List.length_filter_le _ _, fun e => ?_⟩
  have he : delT (thg ps c) n = thg ps c := List.filter_eq_self.mpr fun p hp => decide_eq_true fun z => by
    have := (List.mem_filter.mp hp).2
    unfold inn at this
    rw [z, e] at this
    cases this
  rw [he]
/-! #### what the rooms are -/
structure Good (b : Nat) (R : List Code) (D : Nat) (ps : List (Int × Int)) : Prop where
  cov : Cov R 8
  nd : R.Nodup
  dep : ∀ c ∈ R, c.1 ≤ D
  top : ∃ c ∈ R, c.1 = D
  nm : Names ps
  le : ∀ c ∈ R, cnt ps c ≤ b
  gt : ∀ c ∈ R, 0 < c.1 → b < cnt ps (up c)
def roomC (R : List Code) (n : Int) : Code := atC R 8 (mx n)
theorem room_mem {R : List Code} (h : Cov R 8) (n : Int) : roomC R n ∈ R ∧ inB 8 (mx n) (roomC R n) = true := atC_mem h (mx_lt n)
theorem room_eq {R : List Code} (h : Cov R 8) {n : Int} {c : Code} (hc : c ∈ R) (hb : inB 8 (mx n) c = true) : roomC R n = c := atC_eq h (mx_lt n) hc hb
/-- while something is put: the room of n may hold one too many -/
structure PutS (b : Nat) (R : List Code) (D : Nat) (ps : List (Int × Int)) (n : Int) : Prop where
  cov : Cov R 8
  nd : R.Nodup
  dep : ∀ c ∈ R, c.1 ≤ D
  top : ∃ c ∈ R, c.1 = D
  nm : Names ps
  le : ∀ c ∈ R, c ≠ roomC R n → cnt ps c ≤ b
  le1 : cnt ps (roomC R n) ≤ b + 1
  has : ∃ p ∈ ps, p.1 = n
  gt : ∀ c ∈ R, 0 < c.1 → b < cnt ps (up c)
theorem Good.put {b : Nat} {R : List Code} {D : Nat} {ps : List (Int × Int)} (h : Good b R D ps) {n : Int} (v : Int) (h0 : 0 ≤ n) (h1 : n < 256) : PutS b R D (insT ps n v) n := by
  refine ⟨h.cov, h.nd, h.dep, h.top, h.nm.ins v h0 h1, fun c hc hne => ?_, ?_, ⟨_, mem_ins, rfl⟩, fun c hc hl => Nat.lt_of_lt_of_le (h.gt c hc hl) (cnt_ins h.nm n v _).1⟩
  · rw [(cnt_ins h.nm n v c).2.2 ?_]
    · exact h.le c hc
    · cases e : inB 8 (mx n) c with
      | false => rfl
      | true => exact absurd (room_eq h.cov hc e).symm hne
  · exact Nat.le_trans (cnt_ins h.nm n v _).2.1 (Nat.succ_le_succ (h.le _ (room_mem h.cov n).1))
theorem PutS.done {b : Nat} {R : List Code} {D : Nat} {ps : List (Int × Int)} {n : Int} (h : PutS b R D ps n) (hb : cnt ps (roomC R n) ≤ b) : Good b R D ps :=
  ⟨h.cov, h.nd, h.dep, h.top, h.nm, fun c hc => by
    by_cases e : c = roomC R n
    · rw [e]
      exact hb
    · exact h.le c hc e, h.gt⟩
theorem part_nd {R : List Code} {c : Code} {D : Nat} (h : Cov R D) (nd : R.Nodup) (hc : c ∈ R) (hl : c.1 < D) : (partR R c).Nodup := by
  unfold partR
  have key : ∀ d ∈ R, d = c0 c ∨ d = c1 c → False := fun d hd e => by
    -- d is in c, both in R
    have hdv := h.val d hd
    have hi : d.2 * 2 ^ (D - d.1) < 2 ^ D := by
      have := blk_end hdv.1 hdv.2
      have := Nat.two_pow_pos (D - d.1)
      omega
    have hb : inB D (d.2 * 2 ^ (D - d.1)) d = true := inB_iff.mpr ⟨hdv.2, Nat.mul_div_cancel _ (Nat.two_pow_pos _)⟩
    have hbc : inB D (d.2 * 2 ^ (D - d.1)) c = true := (e.elim (fun e => e ▸ below0 c) (fun e => e ▸ below1 c) : Below d c).inB hb
    have e2 := h.uq _ hi d hd c hc hb hbc
    have e3 : d.1 = c.1 + 1 := e.elim (fun e => by rw [e]; rfl) (fun e => by rw [e]; rfl)
    rw [e2] at e3
    omega
  rw [List.nodup_append]
  refine ⟨nd.filter _, ?_, fun a ha d hd e => ?_⟩
  · rw [List.nodup_cons]
    exact ⟨fun z => c01 c (List.mem_singleton.mp z), (by simp)⟩
  · subst e
    refine key a (List.mem_filter.mp ha).1 ?_
    rcases List.mem_cons.mp hd with e | e
    · exact .inl e
    · exact .inr (List.mem_singleton.mp e)
theorem join_nd {R : List Code} {c : Code} {D : Nat} (h : Cov R D) (nd : R.Nodup) (h0 : c0 c ∈ R) : (joinR R c).Nodup := by
  unfold joinR
  have hl := (h.val _ h0).2
  have hv := (h.val _ h0).1
  rw [List.nodup_append]
  refine ⟨nd.filter _, (by simp), fun a ha d hd e => ?_⟩
  subst e
  have hac := List.mem_singleton.mp hd
  have haR := (List.mem_filter.mp ha).1
  have hi : (c0 c).2 * 2 ^ (D - (c0 c).1) < 2 ^ D := by
    have := blk_end hv hl
    have := Nat.two_pow_pos (D - (c0 c).1)
    omega
  have hb : inB D ((c0 c).2 * 2 ^ (D - (c0 c).1)) (c0 c) = true := inB_iff.mpr ⟨hl, Nat.mul_div_cancel _ (Nat.two_pow_pos _)⟩
  have hbc : inB D ((c0 c).2 * 2 ^ (D - (c0 c).1)) a = true := hac ▸ (below0 c).inB hb
  have e2 := h.uq _ hi _ haR _ h0 hbc hb
  have : a.1 = c.1 + 1 := by rw [e2]; rfl
  rw [hac] at this
  omega
theorem PutS.part {b : Nat} {R : List Code} {D : Nat} {ps : List (Int × Int)} {n : Int} (hb : 1 ≤ b) (h : PutS b R D ps n) (hg : b < cnt ps (roomC R n)) : (roomC R n).1 < 8 ∧ PutS b (partR R (roomC R n)) (if (roomC R n).1 = D then D + 1 else D) ps n ∧ (roomC R n).1 < (roomC (partR R (roomC R n)) n).1 := by
  obtain ⟨hc, hin⟩ := room_mem h.cov n
  have hle1 := h.le1
  have hgt := h.gt
  have hle := h.le
  generalize hcd : roomC R n = c at *
  have hv := h.cov.val c hc
  have h8 : c.1 < 8 := by
    rcases Nat.lt_or_ge c.1 8 with z | z
    · exact z
    · have := cnt_8 (c := c) (by omega) h.nm
      omega
  have hcov := h.cov.part hc h8
  have hroom := room_mem hcov n
  have hbl : roomC (partR R c) n = c0 c ∨ roomC (partR R c) n = c1 c := by
    rcases (inB_half h8).mp hin with z | z
    · exact .inl (room_eq hcov (mem_part.mpr (.inr (.inl rfl))) z)
    · exact .inr (room_eq hcov (mem_part.mpr (.inr (.inr rfl))) z)
  have hcn : cnt ps c = b + 1 := by omega
  have hsum := cnt_half h8 ps
  have hone : 1 ≤ cnt ps (roomC (partR R c) n) := by
    obtain ⟨p, hp, e⟩ := h.has
    refine List.length_pos_of_mem (a := p) (List.mem_filter.mpr ⟨hp, ?_⟩)
    show inB 8 (mx p.1) _ = true
    rw [e]
    exact hroom.2
  refine ⟨h8, ⟨hcov, part_nd h.cov h.nd hc h8, fun d hd => ?_, ?_, h.nm, fun d hd hne => ?_, ?_, h.has, fun d hd hl => ?_⟩, ?_⟩
  · rcases mem_part.mp hd with ⟨z, _⟩ | z | z
    · have := h.dep d z
      split <;> omega
    · have := h.dep c hc
      rw [z]
      show c.1 + 1 ≤ _
      split <;> omega
    · have := h.dep c hc
      rw [z]
      show c.1 + 1 ≤ _
      split <;> omega
  · by_cases e : c.1 = D
    · rw [if_pos e]
      exact ⟨c0 c, mem_part.mpr (.inr (.inl rfl)), by show c.1 + 1 = _; rw [e]⟩
    · rw [if_neg e]
      obtain ⟨d, hd, hdD⟩ := h.top
      exact ⟨d, mem_part.mpr (.inl ⟨hd, fun z => e (by rw [← z]; exact hdD)⟩), hdD⟩
  · rcases mem_part.mp hd with ⟨z, z2⟩ | z | z
    · exact hle d z z2
    · rcases hbl with y | y
      · exact absurd (z.trans y.symm) hne
      · rw [y] at hone
        rw [z]
        omega
    · rcases hbl with y | y
      · rw [y] at hone
        rw [z]
        omega
      · exact absurd (z.trans y.symm) hne
  · rcases hbl with y | y <;> rw [y] <;> omega
  · rcases mem_part.mp hd with ⟨z, _⟩ | z | z
    · exact hgt d z hl
    · rw [z, up0]
      exact hg
    · rw [z, up1]
      exact hg
  · rcases hbl with y | y <;> rw [y]
    · show c.1 < c.1 + 1
      omega
    · show c.1 < c.1 + 1
      omega
/-- while something is taken: rooms about n may be too small -/
structure TakeS (b : Nat) (R : List Code) (D : Nat) (ps : List (Int × Int)) (n : Int) : Prop where
  cov : Cov R 8
  nd : R.Nodup
  dep : ∀ c ∈ R, c.1 ≤ D
  d8 : D ≤ 8
  nm : Names ps
  le : ∀ c ∈ R, cnt ps c ≤ b
  gt : ∀ c ∈ R, 0 < c.1 → inB 8 (mx n) (up c) = false → b < cnt ps (up c)
theorem Good.d8 {b : Nat} {R : List Code} {D : Nat} {ps : List (Int × Int)} (h : Good b R D ps) : D ≤ 8 := by
  obtain ⟨c, hc, e⟩ := h.top
  rw [← e]
  exact (h.cov.val c hc).2
theorem PutS.d8 {b : Nat} {R : List Code} {D : Nat} {ps : List (Int × Int)} {n : Int} (h : PutS b R D ps n) : D ≤ 8 := by
  obtain ⟨c, hc, e⟩ := h.top
  rw [← e]
  exact (h.cov.val c hc).2
theorem Good.take {b : Nat} {R : List Code} {D : Nat} {ps : List (Int × Int)} (h : Good b R D ps) (n : Int) : TakeS b R D (delT ps n) n :=
  ⟨h.cov, h.nd, h.dep, h.d8, h.nm.fil _, fun c hc => Nat.le_trans (cnt_del ps n c).1 (h.le c hc), fun c hc hl hi => by
    rw [(cnt_del ps n (up c)).2 hi]
    exact h.gt c hc hl⟩
theorem up_in {c : Code} {i : Nat} (hl : 0 < c.1) (h : inB 8 i c = true) : inB 8 i (up c) = true := by
  have hb : Below c (up c) := ⟨Nat.sub_le _ _, by show c.2 / 2 ^ (c.1 - (c.1 - 1)) = c.2 / 2; rw [show c.1 - (c.1 - 1) = 1 by omega]⟩
  exact hb.inB h
theorem child_of {c : Code} (hl : 0 < c.1) : c = c0 (up c) ∨ c = c1 (up c) := by
  rcases Nat.mod_two_eq_zero_or_one c.2 with e | e
  · refine .inl (Prod.ext ?_ ?_)
    · show c.1 = c.1 - 1 + 1
      omega
    · show c.2 = 2 * (c.2 / 2)
      omega
  · refine .inr (Prod.ext ?_ ?_)
    · show c.1 = c.1 - 1 + 1
      omega
    · show c.2 = 2 * (c.2 / 2) + 1
      omega
theorem TakeS.join {b : Nat} {R : List Code} {D : Nat} {ps : List (Int × Int)} {n : Int} (h : TakeS b R D ps n) (hl : 0 < (roomC R n).1) (h0 : c0 (up (roomC R n)) ∈ R) (h1 : c1 (up (roomC R n)) ∈ R) (hs : cnt ps (c0 (up (roomC R n))) + cnt ps (c1 (up (roomC R n))) ≤ b) :
    TakeS b (joinR R (up (roomC R n))) D ps n ∧ roomC (joinR R (up (roomC R n))) n = up (roomC R n) := by
  obtain ⟨hc, hin⟩ := room_mem h.cov n
  generalize roomC R n = c at *
  have hv := h.cov.val c hc
  have hcov := h.cov.join (cvu hv.1 hl) h0 h1
  have h8 : (up c).1 < 8 := by show c.1 - 1 < 8; omega
  have hroom : roomC (joinR R (up c)) n = up c := room_eq hcov (mem_join.mpr (.inr rfl)) (up_in hl hin)
  refine ⟨⟨hcov, join_nd h.cov h.nd h0, fun d hd => ?_, h.d8, h.nm, fun d hd => ?_, fun d hd hdl hi => ?_⟩, hroom⟩
  · rcases mem_join.mp hd with ⟨z, _⟩ | z
    · exact h.dep d z
    · have := h.dep c hc
      rw [z]
      show c.1 - 1 ≤ D
      omega
  · rcases mem_join.mp hd with ⟨z, _⟩ | z
    · exact h.le d z
    · rw [z, cnt_half h8]
      exact hs
  · rcases mem_join.mp hd with ⟨z, _⟩ | z
    · exact h.gt d z hdl hi
    · exfalso
      rw [z] at hi hdl
      rw [up_in hdl (up_in hl hin)] at hi
      cases hi
/-- nothing more to join -/
theorem TakeS.done {b : Nat} {R : List Code} {D : Nat} {ps : List (Int × Int)} {n : Int} (h : TakeS b R D ps n) (hno : ¬ (0 < (roomC R n).1 ∧ c0 (up (roomC R n)) ∈ R ∧ c1 (up (roomC R n)) ∈ R ∧ cnt ps (c0 (up (roomC R n))) + cnt ps (c1 (up (roomC R n))) ≤ b)) :
    ∀ c ∈ R, 0 < c.1 → b < cnt ps (up c) := by
  obtain ⟨hc, hin⟩ := room_mem h.cov n
  generalize roomC R n = c at *
  have hv := h.cov.val c hc
  intro d hd hdl
  cases hi : inB 8 (mx n) (up d) with
  | false => exact h.gt d hd hdl hi
  | true =>
    have hdv := h.cov.val d hd
    -- the first place of d
    have hpl : d.2 * 2 ^ (8 - d.1) < 2 ^ 8 := by
      have := blk_end hdv.1 hdv.2
      have := Nat.two_pow_pos (8 - d.1)
      omega
    have hpb : inB 8 (d.2 * 2 ^ (8 - d.1)) d = true := inB_iff.mpr ⟨hdv.2, Nat.mul_div_cancel _ (Nat.two_pow_pos _)⟩
    -- up d is above c: else d and c are one in the other
    have hcd : (up d).1 < c.1 := by
      rcases Nat.lt_or_ge (up d).1 c.1 with z | z
      · exact z
      · exfalso
        have hb := below_of hi hin z
        have e := h.cov.uq _ hpl d hd c hc hpb (hb.inB (up_in hdl hpb))
        rw [e] at z
        have : (up c).1 = c.1 - 1 := rfl
        have : 0 < c.1 := e ▸ hdl
        omega
    have hcl : 0 < c.1 := by omega
    have hup : Below (up c) (up d) := below_of (up_in hcl hin) hi (by show (up d).1 ≤ c.1 - 1; omega)
    refine Nat.lt_of_lt_of_le ?_ (hup.cnt ps)
    have h8 : (up c).1 < 8 := by show c.1 - 1 < 8; have := hv.2; omega
    -- a half that is no room has been parted
    have parted : ∀ s, (s = c0 (up c) ∨ s = c1 (up c)) → s ∉ R → b < cnt ps (up c) := fun s hs hsR => by
      have hsl : s.1 = c.1 := by
        have : (up c).1 + 1 = c.1 := by show c.1 - 1 + 1 = c.1; omega
        rcases hs with e | e <;> rw [e] <;> exact this
      have hsv : Cv s := by
        rcases hs with e | e <;> rw [e]
        · exact cv0 (cvu hv.1 hcl)
        · exact cv1 (cvu hv.1 hcl)
      have hsu : Below s (up c) := by
        rcases hs with e | e <;> rw [e]
        · exact below0 _
        · exact below1 _
      have hs8 : s.1 ≤ 8 := by rw [hsl]; exact hv.2
      have hsi : s.2 * 2 ^ (8 - s.1) < 2 ^ 8 := by
        have := blk_end hsv hs8
        have := Nat.two_pow_pos (8 - s.1)
        omega
      have hsb : inB 8 (s.2 * 2 ^ (8 - s.1)) s = true := inB_iff.mpr ⟨hs8, Nat.mul_div_cancel _ (Nat.two_pow_pos _)⟩
      obtain ⟨r, hr, hrb⟩ := h.cov.ex _ hsi
      -- r is strictly in s
      have hrs : s.1 < r.1 := by
        rcases Nat.lt_or_ge s.1 r.1 with z | z
        · exact z
        · exfalso
          have hb := below_of hsb hrb z
          rcases Nat.lt_or_ge r.1 s.1 with y | y
          · -- then r holds the place of n too, and is c
            have hru : Below (up c) r := by
              have q := below_of (hsu.inB hsb) hrb (by show r.1 ≤ c.1 - 1; omega)
              exact q
            have e := h.cov.uq _ (mx_lt n) r hr c hc (hru.inB (up_in hcl hin)) hin
            rw [e, hsl] at y
            omega
          · exact hsR ((hb.eq (by omega)).symm ▸ hr)
      have hur : Below (up r) s := below_of (up_in (by omega) hrb) hsb (by show s.1 ≤ r.1 - 1; omega)
      have hnot : inB 8 (mx n) (up r) = false := by
        cases z : inB 8 (mx n) (up r) with
        | false => rfl
        | true =>
          exfalso
          -- s would hold n, as c does
          have hsn := hur.inB z
          have e : s = c := (below_of hsn hin (by omega)).eq hsl
          exact hsR (e ▸ hc)
      exact Nat.lt_of_lt_of_le (h.gt r hr (by omega) hnot) (Nat.le_trans (hur.cnt ps) (hsu.cnt ps))
    rcases Nat.lt_or_ge b (cnt ps (up c)) with z | z
    · exact z
    · by_cases g0 : c0 (up c) ∈ R
      · by_cases g1 : c1 (up c) ∈ R
        · exact absurd ⟨hcl, g0, g1, by rw [← cnt_half h8]; exact z⟩ hno
        · exact parted _ (.inr rfl) g1
      · exact parted _ (.inl rfl) g0
/-! #### boards doubled and halved -/
theorem atC_down {R : List Code} {D m : Nat} (h : Cov R 8) (hD : D ≤ 8) (hl : ∀ c ∈ R, c.1 ≤ D) (hm : m < 2 ^ 8) : atC R D (m / 2 ^ (8 - D)) = atC R 8 m := by
  have h' := h.down hD hl
  have hi : m / 2 ^ (8 - D) < 2 ^ D := by
    rw [Nat.div_lt_iff_lt_mul (Nat.two_pow_pos _), ← Nat.pow_add, show D + (8 - D) = 8 by omega]
    exact hm
  obtain ⟨hc, hb⟩ := atC_mem h hm
  refine atC_eq h' hi hc ?_
  rw [inB_iff] at hb ⊢
  have := hl _ hc
  refine ⟨this, ?_⟩
  rw [Nat.div_div_eq_div_mul, ← Nat.pow_add, show 8 - D + (D - (atC R 8 m).1) = 8 - (atC R 8 m).1 by omega]
  exact hb.2
theorem atC_up {R : List Code} {D i : Nat} (h : Cov R D) (hi : i < 2 ^ (D + 1)) : atC R (D + 1) i = atC R D (i / 2) := by
  have h2 : i / 2 < 2 ^ D := by rw [Nat.pow_succ] at hi; omega
  obtain ⟨hc, hb⟩ := atC_mem h h2
  refine atC_eq (h.lift (Nat.le_succ D)) hi hc ?_
  rw [inB_iff] at hb ⊢
  refine ⟨by omega, ?_⟩
  rw [show D + 1 - (atC R D (i / 2)).1 = 1 + (D - (atC R D (i / 2)).1) by omega, Nat.pow_add, ← Nat.div_div_eq_div_mul]
  exact hb.2

end
section
open PyProof.Rows PySem.Spec
/-! ### the rooms in order -/
def cano (b : Nat) (ps : List (Int × Int)) : Nat → Code → List Code
  | 0, c => [c]
  | f + 1, c => if cnt ps c ≤ b then [c] else cano b ps f (c0 c) ++ cano b ps f (c1 c)
def canon (b : Nat) (ps : List (Int × Int)) : List Code := cano b ps 8 (0, 0)
theorem cano_mem {b : Nat} {ps : List (Int × Int)} {f : Nat} {c d : Code} (h : d ∈ cano b ps (f + 1) c) : (cnt ps c ≤ b ∧ d = c) ∨ (b < cnt ps c ∧ (d ∈ cano b ps f (c0 c) ∨ d ∈ cano b ps f (c1 c))) := by
  rw [cano] at h
  by_cases e : cnt ps c ≤ b
  · rw [if_pos e] at h
    exact .inl ⟨e, List.mem_singleton.mp h⟩
  · rw [if_neg e] at h
    exact .inr ⟨by omega, List.mem_append.mp h⟩
theorem cano_below {b : Nat} {ps : List (Int × Int)} : ∀ {f : Nat} {c d : Code}, d ∈ cano b ps f c → Below d c
  | 0, c, d, h => by
    rw [List.mem_singleton.mp h]
    exact Below.refl c
  | f + 1, c, d, h => by
    rcases cano_mem h with ⟨_, rfl⟩ | ⟨_, h | h⟩
    · exact Below.refl d
    · exact (cano_below h).trans (below0 c)
    · exact (cano_below h).trans (below1 c)
theorem cano_val {b : Nat} {ps : List (Int × Int)} : ∀ {f : Nat} {c d : Code}, Cv c → c.1 + f = 8 → d ∈ cano b ps f c → Cv d ∧ d.1 ≤ 8
  | 0, c, d, hv, hf, h => by
    rw [List.mem_singleton.mp h]
    exact ⟨hv, by omega⟩
  | f + 1, c, d, hv, hf, h => by
    rcases cano_mem h with ⟨_, rfl⟩ | ⟨_, h | h⟩
    · exact ⟨hv, by omega⟩
    · exact cano_val (cv0 hv) (by show c.1 + 1 + f = 8; omega) h
    · exact cano_val (cv1 hv) (by show c.1 + 1 + f = 8; omega) h
theorem cano_ex {b : Nat} {ps : List (Int × Int)} {m : Nat} : ∀ {f : Nat} {c : Code}, c.1 + f = 8 → inB 8 m c = true → ∃ d ∈ cano b ps f c, inB 8 m d = true
  | 0, c, _, h => ⟨c, List.mem_singleton.mpr rfl, h⟩
  | f + 1, c, hf, h => by
    rw [cano]
    by_cases e : cnt ps c ≤ b
    · rw [if_pos e]
      exact ⟨c, List.mem_singleton.mpr rfl, h⟩
    · rw [if_neg e]
      rcases (inB_half (by omega)).mp h with z | z
      · obtain ⟨d, hd, hb⟩ := cano_ex (b := b) (ps := ps) (f := f) (by show c.1 + 1 + f = 8; omega) z
        exact ⟨d, List.mem_append_left _ hd, hb⟩
      · obtain ⟨d, hd, hb⟩ := cano_ex (b := b) (ps := ps) (f := f) (by show c.1 + 1 + f = 8; omega) z
        exact ⟨d, List.mem_append_right _ hd, hb⟩
theorem cano_le {b : Nat} (hb : 1 ≤ b) {ps : List (Int × Int)} (hn : Names ps) : ∀ {f : Nat} {c d : Code}, c.1 + f = 8 → d ∈ cano b ps f c → cnt ps d ≤ b
  | 0, c, d, hf, h => by
    rw [List.mem_singleton.mp h]
    exact Nat.le_trans (cnt_8 (by omega) hn) hb
  | f + 1, c, d, hf, h => by
    rcases cano_mem h with ⟨e, rfl⟩ | ⟨_, h | h⟩
    · exact e
    · exact cano_le hb hn (by show c.1 + 1 + f = 8; omega) h
    · exact cano_le hb hn (by show c.1 + 1 + f = 8; omega) h
theorem cano_gt {b : Nat} {ps : List (Int × Int)} : ∀ {f : Nat} {c d : Code}, d ∈ cano b ps f c → d = c ∨ b < cnt ps (up d)
  | 0, c, d, h => .inl (List.mem_singleton.mp h)
  | f + 1, c, d, h => by
    rcases cano_mem h with ⟨_, rfl⟩ | ⟨e, h | h⟩
    · exact .inl rfl
    · rcases cano_gt h with z | z
      · rw [z, up0]
        exact .inr e
      · exact .inr z
    · rcases cano_gt h with z | z
      · rw [z, up1]
        exact .inr e
      · exact .inr z
theorem bl_below {d c : Code} (h : Below d c) : ∃ r, bl d.1 d.2 = bl c.1 c.2 ++ r := by
  refine ⟨(bl d.1 d.2).drop c.1, ?_⟩
  have := bl_take d.2 h.1
  rw [h.2] at this
  rw [← this, List.take_append_drop]
theorem bl_0 (c : Code) : bl (c0 c).1 (c0 c).2 = bl c.1 c.2 ++ [48] := by
  show bl (c.1 + 1) (2 * c.2) = _
  rw [bl_snoc, show 2 * c.2 / 2 = c.2 by omega, show 48 + 2 * c.2 % 2 = 48 by omega]
theorem bl_1 (c : Code) : bl (c1 c).1 (c1 c).2 = bl c.1 c.2 ++ [49] := by
  show bl (c.1 + 1) (2 * c.2 + 1) = _
  rw [bl_snoc, show (2 * c.2 + 1) / 2 = c.2 by omega, show 48 + (2 * c.2 + 1) % 2 = 49 by omega]
theorem lt_pre : ∀ (p r s : List Nat), p ++ ([48] ++ r) < p ++ ([49] ++ s)
  | [], r, s => List.Lex.rel (by decide)
  | a :: p, r, s => List.Lex.cons (lt_pre p r s)
def CLt (x y : Code) : Prop := bl x.1 x.2 < bl y.1 y.2
theorem cano_up {b : Nat} {ps : List (Int × Int)} : ∀ {f : Nat} {c : Code}, (cano b ps f c).Pairwise CLt
  | 0, c => List.pairwise_singleton _ _
  | f + 1, c => by
    rw [cano]
    by_cases e : cnt ps c ≤ b
    · rw [if_pos e]
      exact List.pairwise_singleton _ _
    · rw [if_neg e, List.pairwise_append]
      refine ⟨cano_up, cano_up, fun x hx y hy => ?_⟩
      obtain ⟨r, hr⟩ := bl_below (cano_below hx)
      obtain ⟨s, hs⟩ := bl_below (cano_below hy)
      show bl x.1 x.2 < bl y.1 y.2
      rw [hr, hs, bl_0, bl_1, List.append_assoc, List.append_assoc]
      exact lt_pre _ _ _
theorem clt_irr {x : Code} (h : CLt x x) : False := List.lt_irrefl _ h
theorem canon_nd {b : Nat} {ps : List (Int × Int)} : (canon b ps).Nodup := List.Pairwise.imp (S := fun a b => a ≠ b) (fun {x y} h e => by rw [e] at h; exact clt_irr h) cano_up
theorem inB_root {m : Nat} (h : m < 2 ^ 8) : inB 8 m (0, 0) = true := inB_iff.mpr ⟨Nat.zero_le _, Nat.div_eq_of_lt h⟩
theorem first_in {c : Code} (hv : Cv c) (h8 : c.1 ≤ 8) : c.2 * 2 ^ (8 - c.1) < 2 ^ 8 ∧ inB 8 (c.2 * 2 ^ (8 - c.1)) c = true := by
  have := blk_end hv h8
  have := Nat.two_pow_pos (8 - c.1)
  exact ⟨by omega, inB_iff.mpr ⟨h8, Nat.mul_div_cancel _ (Nat.two_pow_pos _)⟩⟩
theorem below_up {d c : Code} (h : Below d c) (hl : c.1 < d.1) : Below (up d) c := by
  refine ⟨by show c.1 ≤ d.1 - 1; omega, ?_⟩
  show d.2 / 2 / 2 ^ (d.1 - 1 - c.1) = c.2
  rw [Nat.div_div_eq_div_mul, ← h.2, show d.1 - c.1 = 1 + (d.1 - 1 - c.1) by omega, Nat.pow_add]
/-- two rooms of one place, each within the bound, each one's half beyond it: the same -/
theorem same_room {b : Nat} {ps : List (Int × Int)} {m : Nat} {c d : Code} (hc : inB 8 m c = true) (hd : inB 8 m d = true) (lc : cnt ps c ≤ b) (ld : cnt ps d ≤ b) (gc : 0 < c.1 → b < cnt ps (up c)) (gd : 0 < d.1 → b < cnt ps (up d)) : c = d := by
  rcases Nat.lt_trichotomy c.1 d.1 with z | z | z
  · have := (below_up (below_of hd hc (by omega)) z).cnt ps
    have := gd (by omega)
    omega
  · exact (below_of hc hd (by omega)).eq z
  · have := (below_up (below_of hc hd (by omega)) z).cnt ps
    have := gc (by omega)
    omega
theorem root_cv : Cv (0, 0) := by show 0 < 2 ^ 0; decide
theorem Good.mem {b : Nat} (hb : 1 ≤ b) {R : List Code} {D : Nat} {ps : List (Int × Int)} (h : Good b R D ps) (c : Code) : c ∈ R ↔ c ∈ canon b ps := by
  have gcan : ∀ d ∈ canon b ps, 0 < d.1 → b < cnt ps (up d) := fun d hd hl => (cano_gt hd).elim (fun e => by rw [e] at hl; exact absurd hl (Nat.lt_irrefl 0)) id
  constructor
  · intro hc
    have hv := h.cov.val c hc
    obtain ⟨h1, h2⟩ := first_in hv.1 hv.2
    obtain ⟨d, hd, hdb⟩ := cano_ex (b := b) (ps := ps) (f := 8) (c := (0, 0)) rfl (inB_root h1)
    have : c = d := same_room h2 hdb (h.le c hc) (cano_le hb h.nm rfl hd) (h.gt c hc) (gcan d hd)
    rw [this]
    exact hd
  · intro hc
    have hv := cano_val (b := b) (ps := ps) (f := 8) (c := (0, 0)) root_cv rfl hc
    obtain ⟨h1, h2⟩ := first_in hv.1 hv.2
    obtain ⟨d, hd, hdb⟩ := h.cov.ex _ h1
    have : c = d := same_room h2 hdb (cano_le hb h.nm rfl hc) (h.le d hd) (gcan c hc) (h.gt d hd)
    rw [this]
    exact hd
theorem Good.perm {b : Nat} (hb : 1 ≤ b) {R : List Code} {D : Nat} {ps : List (Int × Int)} (h : Good b R D ps) : R.Perm (canon b ps) := (List.perm_ext_iff_of_nodup h.nd canon_nd).mpr (h.mem hb)
theorem canon_val {b : Nat} {ps : List (Int × Int)} {c : Code} (h : c ∈ canon b ps) : Cv c ∧ c.1 ≤ 8 := cano_val root_cv rfl h
theorem rising_pw : ∀ (p : Str) (ss : List Str), risingS p ss = true → (p :: ss).Pairwise fun a b => ¬ b.cps.toList < a.cps.toList
  | p, [], _ => List.pairwise_singleton _ _
  | p, x :: r, h => by
    obtain ⟨h1, h2⟩ := Bool.and_eq_true_iff.mp (show (!ltCps x.cps.toList p.cps.toList && risingS x r) = true from h)
    have ih := rising_pw x r h2
    have hxp : ¬ x.cps.toList < p.cps.toList := by
      rw [ltCps_eq] at h1
      simpa using h1
    refine List.pairwise_cons.mpr ⟨fun y hy => ?_, ih⟩
    rcases List.mem_cons.mp hy with e | e
    · rw [e]
      exact hxp
    · have hyx := (List.pairwise_cons.mp ih).1 y e
      exact List.not_lt.mpr (List.le_trans (List.not_lt.mp hxp) (List.not_lt.mp hyx))
theorem sorted_pw {ss : List Str} (h : sortedS ss = true) : ss.Pairwise fun a b => ¬ b.cps.toList < a.cps.toList := by
  cases ss with
  | nil => exact .nil
  | cons p r => exact rising_pw p r h
theorem str_ext {a b : Str} (h : a.cps.toList = b.cps.toList) : a = b := by
  obtain ⟨x⟩ := a
  obtain ⟨y⟩ := b
  have : x = y := Array.toList_inj.mp h
  rw [this]
/-- sorted, the rooms are in order -/
theorem Good.sorted {b : Nat} (hb : 1 ≤ b) {R : List Code} {D : Nat} {ps : List (Int × Int)} (h : Good b R D ps) {ys : List Str} (hp : ys.Perm (R.map bt)) (hs : sortedS ys = true) : ys = (canon b ps).map bt := by
  have hp2 : ys.Perm ((canon b ps).map bt) := hp.trans ((h.perm hb).map bt)
  refine hp2.eq_of_pairwise (le := fun a b => ¬ b.cps.toList < a.cps.toList) (fun x y _ _ h1 h2 => ?_) (sorted_pw hs) ?_
  · exact str_ext (List.le_antisymm (List.not_lt.mp h1) (List.not_lt.mp h2))
  · refine List.pairwise_map.mpr (cano_up.imp fun {x y} hxy => ?_)
    show ¬ (bl y.1 y.2).toArray.toList < (bl x.1 x.2).toArray.toList
    exact fun z => List.lt_irrefl _ (List.lt_trans hxy z)
/-! #### all things, and how many -/
theorem flat_perm {R : List Code} (h : Cov R 8) (nd : R.Nodup) {ps : List (Int × Int)} (hn : Names ps) : (R.flatMap (thg ps)).Perm ps := by
  refine (List.perm_ext_iff_of_nodup ?_ (hn.up.imp fun h e => by rw [e] at h; omega)).mpr fun p => ?_
  · have key : ∀ L : List Code, L.Nodup → (∀ c ∈ L, c ∈ R) → (L.flatMap (thg ps)).Nodup := by
      intro L
      induction L with
      | nil => intro _ _; exact .nil
      | cons c t ih =>
        intro hd hs
        have hd := List.nodup_cons.mp hd
        rw [List.flatMap_cons, List.nodup_append]
        refine ⟨(hn.fil (inn c)).up.imp fun h e => by rw [e] at h; omega, ih hd.2 fun d hd => hs d (List.mem_cons_of_mem _ hd), fun x hx y hy e => ?_⟩
        subst e
        obtain ⟨d, hdt, hxd⟩ := List.mem_flatMap.mp hy
        have e1 := h.uq _ (mx_lt x.1) c (hs c List.mem_cons_self) d (hs d (List.mem_cons_of_mem _ hdt)) (List.mem_filter.mp hx).2 (List.mem_filter.mp hxd).2
        exact hd.1 (e1 ▸ hdt)
    exact key R nd fun c hc => hc
  · constructor
    · intro hp
      obtain ⟨c, _, hc⟩ := List.mem_flatMap.mp hp
      exact (List.mem_filter.mp hc).1
    · intro hp
      obtain ⟨c, hc, hb⟩ := h.ex _ (mx_lt p.1)
      exact List.mem_flatMap.mpr ⟨c, hc, List.mem_filter.mpr ⟨hp, hb⟩⟩
theorem sum_cnt {R : List Code} (h : Cov R 8) (nd : R.Nodup) {ps : List (Int × Int)} (hn : Names ps) : (R.map fun c => ((cnt ps c : Nat) : Int)).sum = (ps.length : Int) := by
  have := (flat_perm h nd hn).length_eq
  rw [List.length_flatMap] at this
  rw [← this]
  clear this h nd
  induction R with
  | nil => rfl
  | cons c t ih =>
    rw [List.map_cons, List.map_cons, List.sum_cons, List.sum_cons, ih]
    show ((thg ps c).length : Int) + _ = _
    omega

end
section
variable [TabCx]
/-! ### a number by twos as a text, and the signs of a name -/
def binT (n : Nat) : Str := ⟨((Nat.toDigits 2 n).map Char.toNat).toArray⟩
theorem strCast {x y : Str} {Q : Str → Prop} (h : Q y) (e : x = y) : Q x := e ▸ h
open Builtin Builtin.Float in
set_option maxHeartbeats 4000000 in
theorem gvB_gen {sp : Str} {f : FormatSpec} (hp : parseFormatSpec sp.cps.toList "int" 62 = .ok f) (hne : (sp.length == 0) = false)
    (hasc : ((sp.cps.toList.drop 1).any (· ≥ 128) || (sp.cps.getD 0 0 ≥ 128 && !([60, 62, 61, 94] : List Nat).contains (sp.cps.getD 1 0))) = false)
    (hty : f.type = some 98) (hpr : f.precision = none) (hz : f.noNeg0 = false) (hal : f.alt = false) (hw : f.width = none) (hgr : f.grouping = none) (hsg : f.sign = none) (hfl : f.fill = 32) (hag : f.align = 62)
    (n : Nat) (t u : Tok) : Gives («int.__format__» ⟨[.int (n : Int) t, .str sp u], []⟩) (.str (binT n)) := by
  intro prog w A R s hq
  have hsz : (binT n).length ≤ sizeLine := hq.1
  unfold «int.__format__»
  simp only [selfAndOne, noKeywords, Int.intOfSelf, asInt?, asStr?, List.isEmpty_nil, if_true, pure_bind, hne, hasc, Bool.false_eq_true, if_false, show (Value.str sp u == Value.none) = false from rfl]
  refine wpAny_bind (wpAny_typeNameOf (T := "str") (typeIs_str _ _ _) (by decide) fun _ => ?_)
  refine wpAny_bind (PyProof.Rows.wpAny_typeNameOfCut_int ?_)
  simp only [hp, hty, Option.getD_some]
  rw [if_pos (by decide)]
  show wpAny _ _ (if _ then _ else _) _ _ _
  rw [if_neg (by simp [hpr])]
  show wpAny _ _ (if _ then _ else _) _ _ _
  rw [if_neg (by simp [hz])]
  show wpAny _ _ (if _ then _ else _) _ _ _
  rw [if_neg (by decide)]
  show wpAny _ _ (if _ then _ else _) _ _ _
  rw [if_neg (by decide)]
  show wpAny _ _ (if _ then _ else _) _ _ _
  rw [if_neg (by simp [hw])]
  show wpAny _ _ (retStr _) _ _ _
  unfold retStr
  have hneg : decide ((n : Int) < 0) = false := decide_eq_false (by omega)
  obtain ⟨c, cs, hds⟩ : ∃ c cs, (Nat.toDigits 2 n).map Char.toNat = c :: cs := by
    cases hd : (Nat.toDigits 2 n).map Char.toNat with
    | nil => exact absurd (congrArg List.length hd) (by rw [List.length_map]; exact Nat.ne_of_gt (Nat.length_toDigits_pos))
    | cons c cs => exact ⟨c, cs, rfl⟩
  have hb : binT n = ⟨(c :: cs).toArray⟩ := by unfold binT; rw [hds]
  have hmap : (List.map (fun c => (if ((98 : Nat) == 88) = true then c.toUpper else c).toNat) (Nat.toDigits 2 ((n : Int)).natAbs)) = c :: cs := by
    rw [← hds]
    rfl
  rw [hneg, hmap, hal]
  obtain ⟨fl, al, sg, z0, alt, wd, gr, pr, ty⟩ := f
  simp only at hty hpr hz hal hw hgr hsg hfl hag
  subst hty hpr hz hal hw hgr hsg hfl hag
  refine wpAny_bind (wpAny_mkStr (wpAny_pure ?_) ?_)
  · refine strCast (Q := fun x => R (Except.ok (Flow.ret (Value.str x s.toks))) _) hq.2 ?_
    rw [hb]
    conv => lhs; whnf
    simp
    omega
  · refine strCast (Q := fun x => x.length ≤ sizeLine) hsz ?_
    rw [hb]
    conv => lhs; whnf
    simp
    omega
open Builtin Builtin.Float in
def fB : FormatSpec := { align := 62, type := some 98 }
theorem hpB : Builtin.Float.parseFormatSpec ("b" : Str).cps.toList "int" 62 = .ok fB := by kernel_rfl
theorem neB : (("b" : Str).length == 0) = false := by decide +kernel
theorem ascB : ((("b" : Str).cps.toList.drop 1).any (· ≥ 128) || (("b" : Str).cps.getD 0 0 ≥ 128 && !([60, 62, 61, 94] : List Nat).contains (("b" : Str).cps.getD 1 0))) = false := by decide +kernel
section
variable {X : Cx}
/-- {e:b} of a number not below nought -/
def tFmtB (te : TE) : TE := fun σ H Q => te σ H fun x H1 => ∃ n : Nat, x = .int (n : Int) ∧ (binT n).length ≤ sizeLine ∧ Q (.str (binT n)) H1
theorem pe_fmtB {e : Expr} {te : TE} {j : Nat} {p1 p2 pos : Pos} (he : PE X e te) : PE X (.FormattedValue e (-1) (some (.JoinedStr [.Constant (.str "b") j p1] p2)) pos) (tFmtB te) := by
  refine ⟨fun pins s σ H Q I h => ?_⟩
  refine wpAny_FormattedValue_spec (thn (he.run pins s σ H _ I h) fun v s1 hv => ?_)
  obtain ⟨x, H1, I1, r1, n, rfl, hz, q⟩ := hv
  obtain ⟨t, rfl⟩ := r1
  refine wpAny_JoinedStr_one (Calls.Constant_str ?_)
  refine ⟨_, _, rfl, ?_⟩
  refine wpAny_formatField_spec neB (fun s' => typeIs_int s' _ _) PyProof.Rows.slot_int_format PyProof.Rows.entry_int_format (PyProof.Rows.args_int_format) (fun u => gvB_gen hpB neB ascB rfl rfl rfl rfl rfl rfl rfl rfl rfl n t u) ?_ (by decide +kernel) hz
  exact ⟨.str (binT n), H1, I1.tok _, ⟨_, rfl⟩, q⟩
end
theorem zf8 : ∀ m : Nat, m < 256 → Txt.zfill (binT m) 8 = bt (8, m) := by decide +kernel
theorem binT_len : ∀ m : Nat, m < 256 → (binT m).length ≤ sizeLine := fun m h => Nat.le_trans (by revert m; decide +kernel : (binT m).length ≤ 8) (by decide)
section
variable {K : PySem.W.Frag} {σ : L2.St} {H H' : Hp} {ta te : TE} {z : V}
theorem ev_fmtB {n : Nat} (h : Ev te σ H (.int (n : Int))) (hn : n < 256) : Ev (tFmtB te) σ H (.str (binT n)) := fun A a Q q => h A a _ fun B b => ⟨n, rfl, binT_len n hn, q B b⟩
theorem ev_bmS {r : V → List V → Hp → VK → Prop} {t : TA} {s : Str} {vs : List V} (h : Ev te σ H (.str s)) (ha : EvA t σ H vs) (hr : ∀ A, Ex H A → ∀ Q : VK, (∀ B, Ex A B → Q z B) → r (.str s) vs A Q) : Ev (tBM K "str" r te t) σ H z := fun A a Q q =>
  h A a _ fun B b => ⟨rfl, ha B (a.trans b) _ fun C c => hr C ((a.trans b).trans c) Q fun D d => q D ((b.trans c).trans d)⟩
theorem ev_zfill {t : TA} {s : Str} {i : Int} (h : Ev te σ H (.str s)) (ha : EvA t σ H [.int i]) (hi : PadOk i = true) : Ev (tBM K "str" (fun x xs H Q => ∃ (a : Str) (i : Int), x = .str a ∧ xs = [.int i] ∧ PadOk i = true ∧ Q (.str (Txt.zfill a i)) H) te t) σ H (.str (Txt.zfill s i)) :=
  ev_bmS h ha fun A _ Q q => ⟨s, i, rfl, rfl, hi, q A (.refl A)⟩
end

end
section
local macro_rules | `(tactic| walk_at "cond") => `(tactic| first | (with_reducible assumption) | decide | (show (0 : Int) < _; decide) | (exact ⟨by decide, by decide⟩) | (exact ⟨by decide, by decide, by decide⟩) | (exact ⟨by omega, by omega⟩) | (exact Or.inl ⟨by decide, by decide⟩) | (exact Or.inr ⟨by decide, by decide⟩) | (exact Or.inl ⟨by omega, by omega⟩) | (exact Or.inr ⟨by omega, by omega⟩) | omega)

local macro_rules | `(tactic| walk_at "seq") => `(tactic| first | (with_reducible assumption) | (exact sq_of (by with_reducible assumption)) | (exact st_of (by with_reducible assumption)) | (exact ex_l (by with_reducible assumption) (by with_reducible assumption)) | (exact ex_t (by with_reducible assumption) (by with_reducible assumption)))

local macro_rules | `(tactic| walk_at "rv") => `(tactic| first | (with_reducible exact rv_I0) | ((with_reducible apply rv_I); walk_at "cond") | ((with_reducible apply rv_eq); rfl) | ((with_reducible apply rv_ne); rfl) | (with_reducible exact rv_NT) | (with_reducible exact rv_isN) | ((with_reducible apply rv_add_str); walk_at "cond") | ((with_reducible apply rv_ixT); walk_at "seq"; rfl))

local macro_rules | `(tactic| walk_at "rc") => `(tactic| first | ((with_reducible apply rc_len); walk_at "seq") | ((with_reducible apply rc_lenT); walk_at "seq") | ((with_reducible apply rc_lenS); walk_at "cond") | (with_reducible exact rc_intB) | (with_reducible exact rc_typI) | ((with_reducible apply rc_strI); walk_at "cond") | (exact rc_isi tx_str kb_ss) | (exact rc_isi tx_int kb_ii) | (exact rc_isi tx_int kb_ib) | (exact rc_isi (tx_lst (by with_reducible assumption)) kb_ll) | (exact rc_isi (tx_tup (by with_reducible assumption)) kb_tt))

local macro_rules | `(tactic| walk_at "spv") => `(tactic| fail "no promise")

local macro_rules | `(tactic| walk_at "ea") => `(tactic| first | (with_reducible exact ea_nil) | ((with_reducible apply ea_cons); walk_at "ev"; walk_at "ea"))

local macro_rules | `(tactic| walk_at "eo") => `(tactic| first | (with_reducible exact eo_none) | ((with_reducible apply eo_some); walk_at "ev"))

local macro_rules | `(tactic| walk_at "ev") => `(tactic| first
  | (with_reducible exact ev_c)
  | ((with_reducible apply ev_var); rfl)
  | ((with_reducible apply ev_op); walk_at "ev"; walk_at "ev"; walk_at "rv")
  | ((with_reducible apply ev_cb); walk_at "ea"; walk_at "rc")
  | ((with_reducible apply ev_call); walk_at "ea"; walk_at "spv")
  | ((with_reducible apply ev_neg); walk_at "ev")
  | ((with_reducible apply ev_notV); walk_at "ev")
  | ((with_reducible apply ev_andV); walk_at "ev"; (intro _; walk_at "ev"))
  | ((with_reducible apply ev_orV); walk_at "ev"; (intro _; walk_at "ev")))

local macro_rules | `(tactic| walk_at "et") => `(tactic| first
  | ((with_reducible apply et_chain); walk_at "ev"; walk_at "ev"; walk_at "rv"; (intro _; walk_at "ev"); (intro _; walk_at "rv"))
  | ((with_reducible apply et_test); walk_at "ev")
  | ((with_reducible apply et_B); walk_at "ev")
  | ((with_reducible apply et_not); walk_at "et")
  | ((with_reducible apply et_or); walk_at "et"; (intro _; walk_at "et"))
  | ((with_reducible apply et_and); walk_at "et"; (intro _; walk_at "et")))

local macro_rules | `(tactic| walk_at "asg") => `(tactic| ((first | with_reducible apply q_asg | with_reducible apply s_asg); walk_at "ev"))

local macro_rules | `(tactic| walk_at "drop") => `(tactic| ((first | with_reducible apply q_drop | with_reducible apply s_drop); walk_at "ev"))

local macro_rules | `(tactic| walk_at "ret") => `(tactic| ((with_reducible apply s_retk); walk_at "ev"))

local macro_rules | `(tactic| walk_at "when") => `(tactic| ((first | with_reducible apply q_when | with_reducible apply s_when | with_reducible apply q_if | with_reducible apply s_if); walk_at "et"))

variable [TabCx]
open PyProof.Rows
/-! ### slices by twos -/
def evens {α : Type} : List α → List α
  | [] => []
  | [a] => [a]
  | a :: _ :: t => a :: evens t
theorem evens_len {α : Type} : ∀ l : List α, (evens l).length = (l.length + 1) / 2
  | [] => by simp [evens]
  | [_] => by simp [evens]
  | _ :: _ :: t => by
    show (evens t).length + 1 = (t.length + 1 + 1 + 1) / 2
    rw [evens_len t]
    omega
theorem evens_get {α : Type} : ∀ (l : List α) (k : Nat), (evens l)[k]? = l[2 * k]?
  | [], k => by simp [evens]
  | [a], 0 => rfl
  | [a], k + 1 => by
    rw [show 2 * (k + 1) = (2 * k + 1) + 1 by omega]
    rfl
  | a :: b :: t, 0 => rfl
  | a :: b :: t, k + 1 => by
    rw [show 2 * (k + 1) = (2 * k) + 1 + 1 by omega]
    exact evens_get t k
theorem evens_pick {α : Type} (xs : Array α) (s n : Nat) (hn : n = (xs.size - s + 1) / 2) : ((List.range n).map fun k => s + 2 * k).filterMap (xs[·]?) = evens (xs.toList.drop s) := by
  rw [List.filterMap_map]
  have h := PySem.W.krv_all (evens (xs.toList.drop s)).toArray
  rw [List.size_toArray, evens_len, List.length_drop, Array.length_toList, ← hn] at h
  rw [show ((xs[·]?) ∘ fun k => s + 2 * k) = ((evens (xs.toList.drop s)).toArray[·]?) from funext fun k => ?_, h]
  show xs[s + 2 * k]? = (evens (xs.toList.drop s)).toArray[k]?
  have h2 : (evens (xs.toList.drop s)).toArray[k]? = (evens (xs.toList.drop s))[k]? := by simp
  rw [h2, evens_get, List.getElem?_drop]
  simp
theorem step2_range (s n : Nat) (h : s ≤ n) : sliceRange (s : Int) (n : Int) 2 = (List.range ((n - s + 1) / 2)).map fun k => s + 2 * k := by
  unfold sliceRange
  have h1 : ((2 : Int) > 0) := by decide
  by_cases h2 : (s : Int) < n
  · have e : ((n : Int) - s + 2 - 1) / 2 = (((n - s + 1) / 2 : Nat) : Int) := by omega
    simp only [h1, if_true, h2, e, Int.toNat_natCast]
    apply List.map_congr_left
    intro k _
    omega
  · have e : n - s = 0 := by omega
    simp only [h1, if_true, h2, if_false]
    rw [e]
    rfl
theorem step2_none (items : Array Value) : slicePick items none none (some 2) = (evens items.toList).toArray := by
  unfold slicePick
  have hb : sliceBounds none none (some 2) items.size = (((0 : Nat) : Int), (items.size : Int), 2) := rfl
  rw [hb]
  show ((sliceRange ((0 : Nat) : Int) (items.size : Int) 2).filterMap (items[·]?)).toArray = _
  rw [step2_range 0 items.size (Nat.zero_le _), evens_pick items 0 _ rfl, List.drop_zero]
theorem step2_one (items : Array Value) : slicePick items (some 1) none (some 2) = (evens items.toList.tail).toArray := by
  unfold slicePick
  have hb : sliceBounds (some 1) none (some 2) items.size = (((min 1 items.size : Nat) : Int), (items.size : Int), 2) := by
    unfold sliceBounds
    simp
    omega
  rw [hb]
  show ((sliceRange ((min 1 items.size : Nat) : Int) (items.size : Int) 2).filterMap (items[·]?)).toArray = _
  rw [step2_range _ items.size (Nat.min_le_right _ _), evens_pick items _ _ rfl]
  congr 2
  rcases Nat.eq_zero_or_pos items.size with h | h
  · have e : items.toList = [] := by
      apply List.eq_nil_of_length_eq_zero
      rw [Array.length_toList]
      exact h
    rw [e]
    simp
  · rw [show min 1 items.size = 1 by omega, List.drop_one]
theorem vals_evens : ∀ {xs : List V} {its : List Value}, Vals xs its → Vals (evens xs) (evens its)
  | _, _, .nil => .nil
  | _, _, .cons a .nil => .cons a .nil
  | _, _, .cons a (.cons _ t) => .cons a (vals_evens t)
theorem vals_tail : ∀ {xs : List V} {its : List Value}, Vals xs its → Vals xs.tail its.tail
  | _, _, .nil => .nil
  | _, _, .cons _ t => t
def tEv (K : PySem.W.Frag) (te : TE) : TE := fun σ H Q => te σ H fun x H1 => ∃ a xs, x = .ref a ∧ SqL K H1 a xs ∧ ∀ p, H1 p = none → Q (.ref p) (upd H1 p (.lst (evens xs)))
def tOd (K : PySem.W.Frag) (te : TE) : TE := fun σ H Q => te σ H fun x H1 => ∃ a xs, x = .ref a ∧ SqL K H1 a xs ∧ ∀ p, H1 p = none → Q (.ref p) (upd H1 p (.lst (evens xs.tail)))
section
variable {X : Cx}
theorem pe_evens {e : Expr} {te : TE} {k : Nat} {p1 p3 pos : Pos} (he : PE X e te) : PE X (.Subscript e (.Slice none none (some (.Constant (.int 2) k p1)) p3) pos) (tEv X.K te) := by
  refine ⟨fun pins s σ H Q I h => ?_⟩
  refine Subscript_ (thn (he.run pins s σ H _ I h) fun v s1 ⟨x, H1, I1, r1, q1⟩ => ?_)
  obtain ⟨a, xs, ex, hx, q⟩ := q1
  subst ex
  cases r1
  have hst : PO X (some (.Constant (.int 2) k p1)) (tPart (tC (.int 2))) := po_some pe_int
  refine wpAny_Slice (thn (po_none.run pins s1 σ H1 (fun o H2 => o = none ∧ H2 = H1) I1 ⟨rfl, rfl⟩) fun vl s2 ⟨l, H2, I2, pl, el, e2⟩ => ?_)
  subst el e2
  refine thn (po_none.run pins s2 σ H2 (fun o H3 => o = none ∧ H3 = H2) I2 ⟨rfl, rfl⟩) fun vu s3 ⟨u, H3, I3, pu, eu, e3⟩ => ?_
  subst eu e3
  refine thn (hst.run pins s3 σ H3 (fun o H4 => o = some 2 ∧ H4 = H3) I3 ⟨2, rfl, rfl, rfl⟩) fun vs s4 ⟨o, H4, I4, ps, eo, e4⟩ => ?_
  subst eo e4
  have I5 : Inv X pins σ H4 { s4 with heap := s4.heap.push { cls := .type "slice", data := .fields #[vl, vu, vs] } } := I4.kept (t' := s4.toks) fun b ob q => Heap.get?_push_of_some _ q
  obtain ⟨its, r, ht, hz⟩ := I5.list hx
  have hlen := r.length
  show wpAny (model X.prog X.w) X.A (subscriptTail e (.Slice none none (some (.Constant (.int 2) k p1)) p3) (.ref a) (.ref s4.heap.objs.size)) (EP X pins σ Q) X.xe { s4 with heap := s4.heap.push { cls := .type "slice", data := .fields #[vl, vu, vs] } }
  refine tail_any (ops := [.ref a, .ref s4.heap.objs.size]) ht.isList.typeIs (PySem.slot_list_getitem.lookup) ?_ (by with_unfolding_all rfl)
  refine wpAny_getItem_list_slice ht.isList (Heap.IsSliceOf.new _ vl vu vs) pl pu ps (by decide) ?_ (by rw [List.size_toArray]; omega)
  rw [step2_none]
  refine ⟨.ref _, _, I5.laid (t' := s4.toks) (o := .lst (evens xs)) (fun b ob q => Heap.get?_push_of_some _ q) (Nat.le_refl _) ?_, rfl, q _ (I5.hok.fresh (Nat.le_refl _))⟩
  exact ⟨by rw [evens_len]; omega, _, 0, vals_evens r, Heap.get?_push_size _ rfl⟩
theorem pe_odds {e : Expr} {te : TE} {k k2 : Nat} {p1 p2 p3 pos : Pos} (he : PE X e te) : PE X (.Subscript e (.Slice (some (.Constant (.int 1) k2 p2)) none (some (.Constant (.int 2) k p1)) p3) pos) (tOd X.K te) := by
  refine ⟨fun pins s σ H Q I h => ?_⟩
  refine Subscript_ (thn (he.run pins s σ H _ I h) fun v s1 ⟨x, H1, I1, r1, q1⟩ => ?_)
  obtain ⟨a, xs, ex, hx, q⟩ := q1
  subst ex
  cases r1
  have hst : PO X (some (.Constant (.int 2) k p1)) (tPart (tC (.int 2))) := po_some pe_int
  have hs1 : PO X (some (.Constant (.int 1) k2 p2)) (tPart (tC (.int 1))) := po_some pe_int
  refine wpAny_Slice (thn (hs1.run pins s1 σ H1 (fun o H2 => o = some 1 ∧ H2 = H1) I1 ⟨1, rfl, rfl, rfl⟩) fun vl s2 ⟨l, H2, I2, pl, el, e2⟩ => ?_)
  subst el e2
  refine thn (po_none.run pins s2 σ H2 (fun o H3 => o = none ∧ H3 = H2) I2 ⟨rfl, rfl⟩) fun vu s3 ⟨u, H3, I3, pu, eu, e3⟩ => ?_
  subst eu e3
  refine thn (hst.run pins s3 σ H3 (fun o H4 => o = some 2 ∧ H4 = H3) I3 ⟨2, rfl, rfl, rfl⟩) fun vs s4 ⟨o, H4, I4, ps, eo, e4⟩ => ?_
  subst eo e4
  have I5 : Inv X pins σ H4 { s4 with heap := s4.heap.push { cls := .type "slice", data := .fields #[vl, vu, vs] } } := I4.kept (t' := s4.toks) fun b ob q => Heap.get?_push_of_some _ q
  obtain ⟨its, r, ht, hz⟩ := I5.list hx
  have hlen := r.length
  show wpAny (model X.prog X.w) X.A (subscriptTail e (.Slice (some (.Constant (.int 1) k2 p2)) none (some (.Constant (.int 2) k p1)) p3) (.ref a) (.ref s4.heap.objs.size)) (EP X pins σ Q) X.xe { s4 with heap := s4.heap.push { cls := .type "slice", data := .fields #[vl, vu, vs] } }
  refine tail_any (ops := [.ref a, .ref s4.heap.objs.size]) ht.isList.typeIs (PySem.slot_list_getitem.lookup) ?_ (by with_unfolding_all rfl)
  refine wpAny_getItem_list_slice ht.isList (Heap.IsSliceOf.new _ vl vu vs) pl pu ps (by decide) ?_ (by rw [List.size_toArray]; omega)
  rw [step2_one]
  refine ⟨.ref _, _, I5.laid (t' := s4.toks) (o := .lst (evens xs.tail)) (fun b ob q => Heap.get?_push_of_some _ q) (Nat.le_refl _) ?_, rfl, q _ (I5.hok.fresh (Nat.le_refl _))⟩
  exact ⟨by rw [evens_len, List.length_tail]; omega, _, 0, vals_evens (vals_tail r), Heap.get?_push_size _ rfl⟩
end
section
variable {α : Type} {r : Rp α} {K : PySem.W.Frag} {σ : L2.St} {H : Hp} {te : TE}
theorem pr_evens {F : Addr → Prop} : ∀ {xs : List V} {as : List α}, PRF r F H xs as → PRF r F H (evens xs) (evens as)
  | _, _, .nil => .nil
  | _, _, .cons a .nil => .cons a .nil
  | _, _, .cons a (.cons _ t) => .cons a (pr_evens t)
theorem pr_tail {F : Addr → Prop} : ∀ {xs : List V} {as : List α}, PRF r F H xs as → PRF r F H xs.tail as.tail
  | _, _, .nil => .nil
  | _, _, .cons _ t => t
theorem el_evens {p : Addr} {as : List α} (h : Ev te σ H (.ref p)) (hl : LR r H p as) : EvLR r (tEv K te) σ H (evens as) := fun A a Q q =>
  h A a _ fun B b => by
    obtain ⟨xs, h1, h2⟩ := hl.mono (a.trans b)
    exact ⟨p, xs, rfl, sq_of h1, fun l hl => q _ _ (b.trans (.new hl)) ⟨l, rfl, fresh_back b hl, _, upd_same, pr_evens (pr_mono (.new hl) h2)⟩⟩
theorem el_odds {p : Addr} {as : List α} (h : Ev te σ H (.ref p)) (hl : LR r H p as) : EvLR r (tOd K te) σ H (evens as.tail) := fun A a Q q =>
  h A a _ fun B b => by
    obtain ⟨xs, h1, h2⟩ := hl.mono (a.trans b)
    exact ⟨p, xs, rfl, sq_of h1, fun l hl => q _ _ (b.trans (.new hl)) ⟨l, rfl, fresh_back b hl, _, upd_same, pr_evens (pr_tail (pr_mono (.new hl) h2))⟩⟩
end

/-! ### xs.count(text) -/
def rCntS (K : PySem.W.Frag) : V → List V → Hp → VK → Prop := fun x xs H Q => ∃ (p : Addr) (ss : List Str) (z : Str), x = .ref p ∧ xs = [.str z] ∧ SqL K H p (ss.map V.str) ∧ Q (.int (ss.count z : Nat)) H
open PySem.Spec in
theorem countIn_strs (k : Str) : ∀ ys : List Str, countIn (.str k) (ys.map PyData.str) = ((ys.count k : Nat) : Int)
  | [] => rfl
  | y :: t => by
    have ih := countIn_strs k t
    show (if same (.str y) (.str k) then 1 else 0) + countIn (.str k) (t.map PyData.str) = _
    rw [ih, List.count_cons]
    have e : same (PyData.str y) (.str k) = (y == k) := rfl
    rw [e]
    by_cases h : (y == k) = true
    · rw [if_pos h, if_pos h]
      omega
    · rw [if_neg h, if_neg h]
      omega
theorem mt_scount {X : Cx} : MtR X "list.count" (rCntS X.K) := by
  intro pins s σ H x xs v us Q I rx rxs h
  obtain ⟨p, ss, z, rfl, rfl, hs, q⟩ := h
  cases rx
  obtain ⟨u, rfl, ru⟩ := rxs.one
  obtain ⟨t, rfl⟩ := ru
  obtain ⟨its, rv, hl, hlen⟩ := I.list hs
  refine PyProof.Rows.count_list_strs hl.isList rv.strs ?_
  rw [countIn_strs]
  exact ⟨.int (ss.count z : Nat), H, I.tok _, ⟨s.toks, rfl⟩, q⟩

end
section
local macro_rules | `(tactic| walk_at "cond") => `(tactic| first | (with_reducible assumption) | decide | (show (0 : Int) < _; decide) | (exact ⟨by decide, by decide⟩) | (exact ⟨by decide, by decide, by decide⟩) | (exact ⟨by omega, by omega⟩) | (exact Or.inl ⟨by decide, by decide⟩) | (exact Or.inr ⟨by decide, by decide⟩) | (exact Or.inl ⟨by omega, by omega⟩) | (exact Or.inr ⟨by omega, by omega⟩) | omega)

local macro_rules | `(tactic| walk_at "seq") => `(tactic| first | (with_reducible assumption) | (exact sq_of (by with_reducible assumption)) | (exact st_of (by with_reducible assumption)) | (exact ex_l (by with_reducible assumption) (by with_reducible assumption)) | (exact ex_t (by with_reducible assumption) (by with_reducible assumption)))

local macro_rules | `(tactic| walk_at "rv") => `(tactic| first | (with_reducible exact rv_I0) | ((with_reducible apply rv_I); walk_at "cond") | ((with_reducible apply rv_eq); rfl) | ((with_reducible apply rv_ne); rfl) | (with_reducible exact rv_NT) | (with_reducible exact rv_isN) | ((with_reducible apply rv_add_str); walk_at "cond") | ((with_reducible apply rv_ixT); walk_at "seq"; rfl))

local macro_rules | `(tactic| walk_at "rc") => `(tactic| first | ((with_reducible apply rc_len); walk_at "seq") | ((with_reducible apply rc_lenT); walk_at "seq") | ((with_reducible apply rc_lenS); walk_at "cond") | (with_reducible exact rc_intB) | (with_reducible exact rc_typI) | ((with_reducible apply rc_strI); walk_at "cond") | (exact rc_isi tx_str kb_ss) | (exact rc_isi tx_int kb_ii) | (exact rc_isi tx_int kb_ib) | (exact rc_isi (tx_lst (by with_reducible assumption)) kb_ll) | (exact rc_isi (tx_tup (by with_reducible assumption)) kb_tt))

local macro_rules | `(tactic| walk_at "spv") => `(tactic| fail "no promise")

local macro_rules | `(tactic| walk_at "ea") => `(tactic| first | (with_reducible exact ea_nil) | ((with_reducible apply ea_cons); walk_at "ev"; walk_at "ea"))

local macro_rules | `(tactic| walk_at "eo") => `(tactic| first | (with_reducible exact eo_none) | ((with_reducible apply eo_some); walk_at "ev"))

local macro_rules | `(tactic| walk_at "ev") => `(tactic| first
  | (with_reducible exact ev_c)
  | ((with_reducible apply ev_var); rfl)
  | ((with_reducible apply ev_op); walk_at "ev"; walk_at "ev"; walk_at "rv")
  | ((with_reducible apply ev_cb); walk_at "ea"; walk_at "rc")
  | ((with_reducible apply ev_call); walk_at "ea"; walk_at "spv")
  | ((with_reducible apply ev_neg); walk_at "ev")
  | ((with_reducible apply ev_notV); walk_at "ev")
  | ((with_reducible apply ev_andV); walk_at "ev"; (intro _; walk_at "ev"))
  | ((with_reducible apply ev_orV); walk_at "ev"; (intro _; walk_at "ev")))

local macro_rules | `(tactic| walk_at "et") => `(tactic| first
  | ((with_reducible apply et_chain); walk_at "ev"; walk_at "ev"; walk_at "rv"; (intro _; walk_at "ev"); (intro _; walk_at "rv"))
  | ((with_reducible apply et_test); walk_at "ev")
  | ((with_reducible apply et_B); walk_at "ev")
  | ((with_reducible apply et_not); walk_at "et")
  | ((with_reducible apply et_or); walk_at "et"; (intro _; walk_at "et"))
  | ((with_reducible apply et_and); walk_at "et"; (intro _; walk_at "et")))

local macro_rules | `(tactic| walk_at "asg") => `(tactic| ((first | with_reducible apply q_asg | with_reducible apply s_asg); walk_at "ev"))

local macro_rules | `(tactic| walk_at "drop") => `(tactic| ((first | with_reducible apply q_drop | with_reducible apply s_drop); walk_at "ev"))

local macro_rules | `(tactic| walk_at "ret") => `(tactic| ((with_reducible apply s_retk); walk_at "ev"))

local macro_rules | `(tactic| walk_at "when") => `(tactic| ((first | with_reducible apply q_when | with_reducible apply s_when | with_reducible apply q_if | with_reducible apply s_if); walk_at "et"))

variable [TabCx]
/-! ### lists of codes -/
def rpC : Rp Code := ⟨fun _ _ v c => v = .str (bt c), fun _ h => h, fun h _ => h, fun _ _ h => h⟩
def encC : Enc rpC (fun _ => True) := ⟨fun c => .str (bt c), fun h => by rw [show _ = V.str _ from h]; exact .str _, fun {c} _ => bt_ok c, 0, fun _ => by simp [PyData.depth]⟩
theorem prC_str {F : Addr → Prop} {H : Hp} : ∀ {xs : List V} {R : List Code}, PRF rpC F H xs R → PRF rpStr F H xs (R.map bt)
  | _, _, .nil => .nil
  | _, _, .cons a t => .cons a (prC_str t)
theorem prS_C {F : Addr → Prop} {H : Hp} : ∀ {xs : List V} {R : List Code}, PRF rpStr F H xs (R.map bt) → PRF rpC F H xs R
  | [], [], .nil => .nil
  | _ :: _, _ :: _, .cons a t => .cons a (prS_C t)
theorem lrC_str {H : Hp} {p : Addr} {R : List Code} (h : LR rpC H p R) : LR rpStr H p (R.map bt) := by
  obtain ⟨ys, h1, h2⟩ := h
  exact ⟨ys, h1, prC_str h2⟩
theorem lrS_C {H : Hp} {p : Addr} {R : List Code} (h : LR rpStr H p (R.map bt)) : LR rpC H p R := by
  obtain ⟨ys, h1, h2⟩ := h
  exact ⟨ys, h1, prS_C h2⟩
theorem prs_eq {F : Addr → Prop} {H : Hp} : ∀ {xs : List V} {ss : List Str}, PRF rpStr F H xs ss → xs = ss.map V.str
  | _, _, .nil => rfl
  | _, _, .cons a t => by
    rw [prs_eq t, show _ = V.str _ from a]
    rfl
theorem pr_strs {F : Addr → Prop} {H : Hp} : ∀ {ss : List Str}, PRF rpStr F H (ss.map V.str) ss
  | [] => .nil
  | _ :: _ => .cons rfl pr_strs
theorem prC_all {F : Addr → Prop} {H : Hp} : ∀ R : List Code, PRF rpC F H (R.map fun c => V.str (bt c)) R
  | [] => .nil
  | _ :: t => .cons rfl (prC_all t)
theorem prC_at {F : Addr → Prop} {H : Hp} {xs : List V} {R : List Code} {i : Nat} (h : PRF rpC F H xs R) (hi : i < R.length) : atI xs (i : Int) = some (.str (bt R[i])) := by
  obtain ⟨x, h1, h2⟩ := pr_at h (List.getElem?_eq_getElem hi)
  rw [atI_nat h1]
  exact congrArg some h2
theorem flat_strs (ss : List Str) : (ss.map V.str).all flatV = true := by
  rw [List.all_map]
  exact List.all_eq_true.mpr fun _ _ => rfl
theorem in_strs (s : Str) (ss : List Str) : inV (.str s) (ss.map V.str) = decide (s ∈ ss) := by
  unfold inV
  rw [List.any_map]
  induction ss with
  | nil => simp
  | cons a t ih =>
    rw [List.any_cons, ih]
    show ((a == s) || _) = _
    by_cases h : a = s
    · subst h
      simp
    · rw [beq_false_of_ne h, Bool.false_or]
      refine decide_eq_decide.mpr ⟨fun z => List.mem_cons_of_mem _ z, fun z => ?_⟩
      rcases List.mem_cons.mp z with z | z
      · exact absurd z.symm h
      · exact z
theorem ne_dec {c d : Code} (hc : Cv c) (hd : Cv d) : (!decide (V.str (bt c) = V.str (bt d))) = decide (c ≠ d) := by
  rw [decide_str]
  by_cases h : c = d
  · rw [decide_eq_true (congrArg bt h), decide_eq_false (fun z => z h)]
    rfl
  · rw [decide_eq_false (fun z => h (bt_inj hc hd z)), decide_eq_true h]
    rfl
abbrev rAddS : V → V → Hp → VK → Prop := fun x y H Q => ∃ i j, x = V.str i ∧ y = V.str j ∧ i.length + j.length ≤ sizeLine ∧ Q (.str (i ++ j)) H
section
variable {K : PySem.W.Frag} {σ : L2.St} {H H' : Hp} {ta tb te : TE} {D : Ends} {tz tu : TS}
theorem ev_b0 {c : Code} (h : Ev te σ H (.str (bt c))) (hl : c.1 ≤ 1000) : Ev (tOp rAddS te (tC (.str "0"))) σ H (.str (bt (c0 c))) :=
  ev_is (ev_op h ev_c (rv_add_str (by rw [bt_len]; show c.1 + 1 ≤ _; omega))) (by rw [bt_0])
theorem ev_b1 {c : Code} (h : Ev te σ H (.str (bt c))) (hl : c.1 ≤ 1000) : Ev (tOp rAddS te (tC (.str "1"))) σ H (.str (bt (c1 c))) :=
  ev_is (ev_op h ev_c (rv_add_str (by rw [bt_len]; show c.1 + 1 ≤ _; omega))) (by rw [bt_1])
theorem q_whenM {b : Bool} {t : TT} (M : L2.St → Hp → Prop) (h : EvT t σ H b) (h1 : b = true → (∀ σ' B, M σ' B → tz D σ' B) → ∀ B, Ex H B → tu { D with nx := tz D } σ B) (h2 : b = false → ∀ B, Ex H B → M σ B) (hM : ∀ σ' B, M σ' B → tz D σ' B) : tSeq (tIfS t tu tNext) tz D σ H :=
  q_when h (fun hb B e => h1 hb hM B e) fun hb B e => hM _ _ (h2 hb B e)
theorem q_aug {i : Nat} {f : Int → Int → Int} {x y : Int} (hx : σ[i]? = some (some (.int x))) (h : Ev te σ H (.int y)) (k : ∀ B, Ex H B → tz D (σ.set i (some (.int (f x y)))) B) : tSeq (tAug i te (ipI f)) tz D σ H := ⟨_, hx, h H (.refl H) _ fun B e => ⟨x, y, rfl, rfl, k B e⟩⟩
theorem s_aug {i : Nat} {f : Int → Int → Int} {x y : Int} (hx : σ[i]? = some (some (.int x))) (h : Ev te σ H (.int y)) (k : ∀ B, Ex H B → D.nx (σ.set i (some (.int (f x y)))) B) : tAug i te (ipI f) D σ H := ⟨_, hx, h H (.refl H) _ fun B e => ⟨x, y, rfl, rfl, k B e⟩⟩
theorem q_asgT {g : TG} {v : V} (h : Ev te σ H v) (k : ∀ B, Ex H B → g v σ B (tz D)) : tSeq (tAsg te g) tz D σ H := h H (.refl H) _ k
theorem s_asgT {g : TG} {v : V} (h : Ev te σ H v) (k : ∀ B, Ex H B → g v σ B D.nx) : tAsg te g D σ H := h H (.refl H) _ k
/-- the greatest of a new list of numbers -/
theorem ev_max {ns : List Int} (h : EvLR rpInt te σ H ns) (h0 : 0 < ns.length) {m : Int} (hm : m ∈ ns) (ha : ∀ y ∈ ns, y ≤ m) : Ev (tCB (rMax K) (tCons te tNil)) σ H (.int m) := fun A a Q q =>
  h A a _ fun _ B b ⟨p, ev, _, xs, h1, h2⟩ => by
    subst ev
    refine ⟨p, ns, rfl, sq_of (by rw [h1, pr_ints_eq h2]), h0, fun k hk hka => ?_⟩
    rw [show k = m from Int.le_antisymm (ha k hk) (hka m hm)]
    exact q B b
/-- the sum of a new list of numbers -/
theorem ev_sum {ns : List Int} (h : EvLR rpInt te σ H ns) : Ev (tCB (rSum K) (tCons te tNil)) σ H (.int ns.sum) := fun A a Q q =>
  h A a _ fun _ B b ⟨p, ev, _, xs, h1, h2⟩ => by
    subst ev
    exact ⟨p, ns, rfl, sq_of (by rw [h1, pr_ints_eq h2]), q B b⟩
theorem ev_ixN {α : Type} {r : Rp α} {as : List α} {i : Int} {v : V} (ha : EvLR r ta σ H as) (hb : Ev tb σ H (.int i)) (hv : ∀ B ys, PR r B ys as → atI ys i = some v) : Ev (tOp (rIxL K) ta tb) σ H v :=
  ev_opL (K := K) ha hb fun A w B _ _ ⟨p, e, _, ys, h1, h2⟩ => e ▸ rv_ixL (sq_of h1) (hv B ys h2)
theorem ev_ixV {α : Type} {r : Rp α} {as : List α} {p : Addr} {i : Int} {v : V} (ha : Ev ta σ H (.ref p)) (hl : LR r H p as) (hb : Ev tb σ H (.int i)) (hv : ∀ ys, PR r H ys as → atI ys i = some v) : Ev (tOp (rIxL K) ta tb) σ H v := by
  obtain ⟨ys, h1, h2⟩ := hl
  exact ev_op ha hb (rv_ixL (sq_of h1) (hv ys h2))
end
theorem ixN_nat {n k : Nat} (h : k < n) : ixN n (k : Int) = some k := by
  unfold ixN
  rw [if_pos (by omega), if_pos (by omega)]
  rfl
/-! ### instances and dicts -/
section
variable {K : PySem.W.Frag} {σ : L2.St} {H H' : Hp} {ta tb te td ty tv : TE} {D : Ends} {tz : TS} {C p dx d : Addr} {fs : List (Str × V)} {f m : Str} {v x : V} {kvs : List (Key × V)} {k : Key}
theorem ev_fld (c : Cls K C) (n : NoAttr K C f) (h : Ev ta σ H (.ref p)) (hp : H p = some (.ins C dx fs)) (hf : fs.lookup f = some v) : Ev (tFld K ta f) σ H v := fun A a Q q =>
  h A a _ fun B b => ⟨p, C, dx, fs, v, rfl, (a.trans b).k hp, c, n, hf, q B b⟩
/-- o.m(..) that leaves all that stood, and hands back v -/
theorem ev_meth {sp : Sp} {vs : List V} {E : XK} {t : TA} (h : Ev ta σ H (.ref p)) (hp : H p = some (.ins C dx fs)) (hm : fs.lookup m = none) (ha : EvA t σ H vs) (hs : SpV sp (.ref p :: vs) H v) : Ev (tMeth C m sp [] E ta t) σ H v := fun A a Q q =>
  h A a _ fun B b => ⟨p, dx, fs, rfl, (a.trans b).k hp, hm, ha B (a.trans b) _ fun G g => by
    rw [List.append_nil]
    exact hs G ((a.trans b).trans g) Q (fun J j => q J ((b.trans g).trans j)) E⟩
theorem ev_methLR {β : Type} {r : Rp β} {bs : List β} {sp : Sp} {vs : List V} {E : XK} {t : TA} (h : Ev ta σ H (.ref p)) (hp : H p = some (.ins C dx fs)) (hm : fs.lookup m = none) (ha : EvA t σ H vs) (hs : SpLR r sp (.ref p :: vs) H bs) : EvLR r (tMeth C m sp [] E ta t) σ H bs := fun A a Q q =>
  h A a _ fun B b => ⟨p, dx, fs, rfl, (a.trans b).k hp, hm, ha B (a.trans b) _ fun G g => by
    rw [List.append_nil]
    exact hs G ((a.trans b).trans g) Q (fun l J hl j hL => q _ J ((b.trans g).trans j) ⟨l, rfl, fresh_back (b.trans g) hl, hL⟩) E⟩
/-- o.m(..), by its promise -/
theorem g_meth {sp : Sp} {vs : List V} {E : XK} {t : TA} {Q : VK} (h : Ev ta σ H (.ref p)) (hp : H p = some (.ins C dx fs)) (hm : fs.lookup m = none) (ha : EvA t σ H vs) (hs : ∀ B, Ex H B → sp (.ref p :: vs) B Q E) : tMeth C m sp [] E ta t σ H Q :=
  h H (.refl H) _ fun B b => ⟨p, dx, fs, rfl, b.k hp, hm, ha B b _ fun G g => by
    rw [List.append_nil]
    exact hs G (b.trans g)⟩
theorem ev_dget {kvs : List (Key × V)} (h : Ev td σ H (.ref d)) (hk : Ev ty σ H (kV k)) (hd : H d = some (.dK kvs)) (hv : valV kvs k = some v) : Ev (tDGet td ty) σ H v := fun A a Q q =>
  h A a _ fun B b => hk B (a.trans b) _ fun G g => ⟨d, v, rfl, by rw [← hv]; exact DGet.k (((a.trans b).trans g).k hd), q G (b.trans g)⟩
theorem ev_din {kvs : List (Key × V)} (h : Ev td σ H (.ref d)) (hk : Ev ty σ H (kV k)) (hd : H d = some (.dK kvs)) : Ev (tDIn ty td) σ H (.bl (valV kvs k).isSome) := fun A a Q q =>
  hk A a _ fun B b => h B (a.trans b) _ fun G g => ⟨d, _, rfl, DGet.k (((a.trans b).trans g).k hd), q G (b.trans g)⟩
theorem ev_dnotin {kvs : List (Key × V)} (h : Ev td σ H (.ref d)) (hk : Ev ty σ H (kV k)) (hd : H d = some (.dK kvs)) : Ev (tDNotIn ty td) σ H (.bl (!(valV kvs k).isSome)) := fun A a Q q =>
  hk A a _ fun B b => h B (a.trans b) _ fun G g => ⟨d, _, rfl, DGet.k (((a.trans b).trans g).k hd), q G (b.trans g)⟩
end
/-! ### a store -/
def flds (b : Nat) (d bd : Addr) (D : Nat) : List (Str × V) := [("bound", .int (b : Int)), ("_rooms", .ref d), ("_board", .ref bd), ("_depth", .int (D : Int))]
theorem k_br : ¬ ("bound" : Str) = "_rooms" := by decide +kernel
theorem k_bb : ¬ ("bound" : Str) = "_board" := by decide +kernel
theorem k_bd : ¬ ("bound" : Str) = "_depth" := by decide +kernel
theorem k_rb : ¬ ("_rooms" : Str) = "_board" := by decide +kernel
theorem k_rd : ¬ ("_rooms" : Str) = "_depth" := by decide +kernel
theorem k_od : ¬ ("_board" : Str) = "_depth" := by decide +kernel
theorem lk_cons_ne {f g : Str} {v : V} {r : List (Str × V)} (h : ¬ g = f) : List.lookup f ((g, v) :: r) = List.lookup f r := by
  have hb : (f == g) = false := beq_eq_false_iff_ne.mpr fun z => h z.symm
  simp only [List.lookup, hb]
theorem lk_cons_eq {f : Str} {v : V} {r : List (Str × V)} : List.lookup f ((f, v) :: r) = some v := by
  have hb : (f == f) = true := beq_self_eq_true f
  simp only [List.lookup, hb]
section
variable {b : Nat} {d bd : Addr} {D : Nat}
theorem fl_bound : (flds b d bd D).lookup ("bound" : Str) = some (.int (b : Int)) := lk_cons_eq
theorem fl_rooms : (flds b d bd D).lookup ("_rooms" : Str) = some (.ref d) := (lk_cons_ne k_br).trans lk_cons_eq
theorem fl_board : (flds b d bd D).lookup ("_board" : Str) = some (.ref bd) := (lk_cons_ne k_bb).trans ((lk_cons_ne k_rb).trans lk_cons_eq)
theorem fl_depth : (flds b d bd D).lookup ("_depth" : Str) = some (.int (D : Int)) := (lk_cons_ne k_bd).trans ((lk_cons_ne k_rd).trans ((lk_cons_ne k_od).trans lk_cons_eq))
theorem fl_none {m : Str} (h1 : ¬ ("bound" : Str) = m := by decide +kernel) (h2 : ¬ ("_rooms" : Str) = m := by decide +kernel) (h3 : ¬ ("_board" : Str) = m := by decide +kernel) (h4 : ¬ ("_depth" : Str) = m := by decide +kernel) : (flds b d bd D).lookup m = none :=
  (lk_cons_ne h1).trans ((lk_cons_ne h2).trans ((lk_cons_ne h3).trans (lk_cons_ne h4)))
theorem pf_ne {f g : Str} {v x : V} {r : List (Str × V)} (h : ¬ g = f) : putF f v ((g, x) :: r) = (g, x) :: putF f v r := by
  show (if g = f then _ else _) = _
  rw [if_neg h]
theorem pf_eq {f : Str} {v x : V} {r : List (Str × V)} : putF f v ((f, x) :: r) = (f, v) :: r := by
  show (if f = f then _ else _) = _
  rw [if_pos rfl]
theorem fp_board {bd' : Addr} : putF "_board" (.ref bd') (flds b d bd D) = flds b d bd' D := by
  unfold flds
  rw [pf_ne k_bb, pf_ne k_rb, pf_eq]
theorem fp_depth {D' : Nat} : putF "_depth" (.int (D' : Int)) (flds b d bd D) = flds b d bd D' := by
  unfold flds
  rw [pf_ne k_bd, pf_ne k_rd, pf_ne k_od, pf_eq]
theorem fp_init : putF "_depth" (.int ((0 : Nat) : Int)) (putF "_board" (.ref bd) (putF "_rooms" (.ref d) (putF "bound" (.int (b : Int)) []))) = flds b d bd 0 := by
  unfold flds
  rw [show putF ("bound" : Str) (.int (b : Int)) [] = [(("bound" : Str), V.int (b : Int))] from rfl, pf_ne k_br, show ∀ f v, putF f v [] = [(f, v)] from fun _ _ => rfl, pf_ne k_bb, pf_ne k_rb, show ∀ f v, putF f v [] = [(f, v)] from fun _ _ => rfl, pf_ne k_bd, pf_ne k_rd, pf_ne k_od]
  rfl
theorem fl_len : (flds b d bd D).length = 4 := rfl
end
/-- the rooms' dict -/
abbrev KR (H : Hp) (kvs : List (Key × V)) (R : List Code) (ps : List (Int × Int)) : Prop := Paired (fun (kv : Key × V) (c : Code) => ∃ l, kv = (Sum.inr (bt c), V.ref l) ∧ LR rpT H l (thg ps c)) kvs R
section
variable {H H' : Hp} {kvs : List (Key × V)} {R : List Code} {ps qs : List (Int × Int)}
theorem kr_mono (e : ExW H H') : ∀ {kvs : List (Key × V)} {R : List Code}, KR H kvs R ps → KR H' kvs R ps
  | _, _, .nil => .nil
  | _, _, .cons ⟨l, h1, h2⟩ t => .cons ⟨l, h1, h2.monoW e⟩ (kr_mono e t)
theorem kr_get : ∀ {kvs : List (Key × V)} {R : List Code} {c : Code}, KR H kvs R ps → (∀ d ∈ R, Cv d) → Cv c → c ∈ R → ∃ l, valV kvs (Sum.inr (bt c)) = some (.ref l) ∧ LR rpT H l (thg ps c)
  | _, _, _, .nil, _, _, h => by simp at h
  | (_, _) :: _, d :: R, c, .cons ⟨l, h1, h2⟩ t, hv, hc, h => by
    obtain ⟨rfl, rfl⟩ := Prod.mk.inj h1
    by_cases e : d = c
    · subst e
      exact ⟨l, valV_pos rfl, h2⟩
    · rw [valV_neg (fun z => e (bt_inj (hv d List.mem_cons_self) hc (Sum.inr.inj z)))]
      exact kr_get t (fun d hd => hv d (List.mem_cons_of_mem _ hd)) hc ((List.mem_cons.mp h).resolve_left fun z => e z.symm)
theorem kr_none : ∀ {kvs : List (Key × V)} {R : List Code} {c : Code}, KR H kvs R ps → (∀ d ∈ R, Cv d) → Cv c → c ∉ R → valV kvs (Sum.inr (bt c)) = none
  | _, _, _, .nil, _, _, _ => rfl
  | (_, _) :: _, d :: R, c, .cons ⟨l, h1, h2⟩ t, hv, hc, h => by
    obtain ⟨rfl, rfl⟩ := Prod.mk.inj h1
    rw [valV_neg (fun z => h (by rw [← bt_inj (hv d List.mem_cons_self) hc (Sum.inr.inj z)]; exact List.mem_cons_self))]
    exact kr_none t (fun d hd => hv d (List.mem_cons_of_mem _ hd)) hc fun z => h (List.mem_cons_of_mem _ z)
theorem kr_drop : ∀ {kvs : List (Key × V)} {R : List Code} {c : Code}, KR H kvs R ps → (∀ d ∈ R, Cv d) → Cv c → KR H (dropK kvs (Sum.inr (bt c))) (R.filter fun d => decide (d ≠ c)) ps
  | _, _, _, .nil, _, _ => .nil
  | (_, _) :: _, d :: R, c, .cons ⟨l, h1, h2⟩ t, hv, hc => by
    obtain ⟨rfl, rfl⟩ := Prod.mk.inj h1
    have ih := kr_drop t (fun d hd => hv d (List.mem_cons_of_mem _ hd)) hc
    by_cases e : d = c
    · subst e
      rw [dropK_pos rfl, List.filter_cons, if_neg (by simp)]
      exact ih
    · rw [dropK_neg (fun z => e (bt_inj (hv d List.mem_cons_self) hc (Sum.inr.inj z))), List.filter_cons, if_pos (decide_eq_true e)]
      exact .cons ⟨l, rfl, h2⟩ ih
theorem kr_snoc {c : Code} {l : Addr} (h : KR H kvs R ps) (hv : ∀ d ∈ R, Cv d) (hc : Cv c) (hn : c ∉ R) (hl : LR rpT H l (thg ps c)) : KR H (putK kvs (Sum.inr (bt c)) (.ref l)) (R ++ [c]) ps := by
  rw [putK_new _ (kr_none h hv hc hn)]
  clear hn hv
  induction h with
  | nil => exact .cons ⟨l, rfl, hl⟩ .nil
  | cons a t ih => exact .cons a ih
theorem kr_any {c : Code} (h : KR H kvs R ps) (hv : ∀ d ∈ R, Cv d) (hc : Cv c) (hm : c ∈ R) : (kvs.any fun kv => decide (kv.1 = Sum.inr (bt c))) = true := by
  obtain ⟨l, h1, _⟩ := kr_get h hv hc hm
  rw [valV_any, h1]
  rfl
/-- the things of one room told anew -/
theorem kr_put {c : Code} {l : Addr} (h : KR H kvs R ps) (hv : ∀ d ∈ R, Cv d) (hc : Cv c) (hm : c ∈ R) (hl : LR rpT H l (thg qs c)) (ho : ∀ d ∈ R, d ≠ c → thg qs d = thg ps d) : KR H (putK kvs (Sum.inr (bt c)) (.ref l)) R qs := by
  unfold putK
  rw [if_pos (kr_any h hv hc hm)]
  clear hm
  induction h with
  | nil => exact .nil
  | @cons kv d kvs R a t ih =>
    obtain ⟨l2, rfl, h2⟩ := a
    refine .cons ?_ (ih (fun d hd => hv d (List.mem_cons_of_mem _ hd)) fun d hd hne => ho d (List.mem_cons_of_mem _ hd) hne)
    by_cases e : d = c
    · subst e
      exact ⟨l, if_pos rfl, hl⟩
    · exact ⟨l2, if_neg (fun z => e (bt_inj (hv d List.mem_cons_self) hc (Sum.inr.inj z))), by rw [ho d List.mem_cons_self e]; exact h2⟩
theorem kr_len : ∀ {kvs : List (Key × V)} {R : List Code}, KR H kvs R ps → kvs.length = R.length
  | _, _, .nil => rfl
  | _, _, .cons _ t => congrArg Nat.succ (kr_len t)
theorem kr_keys : ∀ {kvs : List (Key × V)} {R : List Code}, KR H kvs R ps → kvs.map (·.1) = (R.map bt).map Sum.inr
  | _, _, .nil => rfl
  | _, _, .cons ⟨l, h1, _⟩ t => by
    rw [List.map_cons, kr_keys t, h1]
    rfl
end
/-- a store at p, its rooms' dict at d, its board at bd -/
structure SA (C : Addr) (H : Hp) (p d bd : Addr) (kvs : List (Key × V)) (b : Nat) (R : List Code) (D : Nat) (ps : List (Int × Int)) : Prop where
  ob : ∃ dx, H p = some (.ins C dx (flds b d bd D))
  dc : H d = some (.dK kvs)
  rs : KR H kvs R ps
  br : LR rpC H bd (boardC R D)
section
variable {C : Addr} {H H' : Hp} {p d bd : Addr} {kvs : List (Key × V)} {b : Nat} {R : List Code} {D : Nat} {ps : List (Int × Int)}
theorem SA.mono (e : Ex H H') (h : SA C H p d bd kvs b R D ps) : SA C H' p d bd kvs b R D ps := by
  obtain ⟨⟨dx, h1⟩, h2, h3, h4⟩ := h
  exact ⟨⟨dx, e.k h1⟩, e.k h2, kr_mono e.w h3, h4.mono e⟩
/-- all but the store's two cells stand -/
structure ExS (p d : Addr) (H H' : Hp) : Prop where
  keep : ∀ (a : Addr) (o : HO), H a = some o → a ≠ p → a ≠ d → (∀ ps, o ≠ .tbl ps) → H' a = some o
  dom : ∀ a : Addr, H' a = none → H a = none
  tabs : TabsOk H → TabsOk H'
theorem Ex.s (e : Ex H H') : ExS p d H H' := ⟨fun a o h _ _ n => e.keep a o h n, e.dom, e.tabs⟩
theorem ExS.refl (H : Hp) : ExS p d H H := (Ex.refl H).s
theorem ExS.trans {H1 H2 : Hp} (a : ExS p d H H1) (b : ExS p d H1 H2) : ExS p d H H2 := ⟨fun x o h n m t => b.keep x o (a.keep x o h n m t) n m t, fun x h => a.dom x (b.dom x h), fun h => b.tabs (a.tabs h)⟩
/-- a dict or an instance changes: the tables stand -/
theorem TabsOk.mut {H : Hp} (h : TabsOk H) {x : Addr} {o u : HO} (hx : H x = some u) (hu : (∀ ps, u ≠ .tbl ps) ∧ (∀ φ, u ≠ .ext φ)) : TabsOk (upd H x o) := fun t ht => by
  obtain ⟨ps, h1, h2, h3⟩ := h t ht
  refine ⟨ps, by rw [upd_ne (ne_of h1 hx (by intro z; exact hu.1 ps z.symm))]; exact h1, h2, fun pos cv hc => ?_⟩
  obtain ⟨c, e1, e2⟩ := h3 pos cv hc
  exact ⟨c, e1, by rw [upd_ne (ne_of e2 hx (by intro z; unfold LamX.CodeO at z; exact hu.2 _ z.symm))]; exact e2⟩
theorem upd_dom {x : Addr} {o u : HO} (hx : H x = some u) : ∀ a, upd H x o a = none → H a = none := fun a h => by
  by_cases e : a = x
  · rw [e, upd_same] at h
    cases h
  · rw [upd_ne e] at h
    exact h
theorem ExS.updP {o : HO} {dx : Addr} {fs : List (Str × V)} (hp : H p = some (.ins C dx fs)) : ExS p d H (upd H p o) :=
  ⟨fun a u h n _ _ => by rw [upd_ne n]; exact h, upd_dom hp, fun t => t.mut hp ⟨(by intro _ z; cases z), (by intro _ z; cases z)⟩⟩
theorem ExS.updD {o : HO} {kvs : List (Key × V)} (hd : H d = some (.dK kvs)) : ExS p d H (upd H d o) :=
  ⟨fun a u h _ n _ => by rw [upd_ne n]; exact h, upd_dom hd, fun t => t.mut hd ⟨(by intro _ z; cases z), (by intro _ z; cases z)⟩⟩
theorem ExS.k (e : ExS p d H H') {a : Addr} {o : HO} (h : H a = some o) (n : a ≠ p) (m : a ≠ d) (t : ∀ ps, o ≠ .tbl ps := by intro _ z; cases z) : H' a = some o := e.keep a o h n m t
/-- lists and tuples stand -/
theorem ExS.w (e : ExS p d H H') {dx : Addr} {fs : List (Str × V)} {kvs : List (Key × V)} (hp : H p = some (.ins C dx fs)) (hd : H d = some (.dK kvs)) : ExW H H' :=
  ⟨fun a o h i => e.keep a o h (ne_of h hp (by intro z; rw [z] at i; exact i)) (ne_of h hd (by intro z; rw [z] at i; exact i)) (by intro ps z; rw [z] at i; exact i), e.dom, e.tabs⟩
theorem SA.w (h : SA C H p d bd kvs b R D ps) (e : ExS p d H H') : ExW H H' := by
  obtain ⟨dx, h1⟩ := h.ob
  exact e.w h1 h.dc
theorem SA.pd (h : SA C H p d bd kvs b R D ps) : p ≠ d := by
  obtain ⟨dx, h1⟩ := h.ob
  exact ne_of h1 h.dc (by intro z; cases z)
theorem SA.ob' (h : SA C H p d bd kvs b R D ps) : ∃ dx, H p = some (.ins C dx (flds b d bd D)) := h.ob
/-- another store stands -/
theorem SA.other {p2 d2 bd2 : Addr} {kvs2 : List (Key × V)} {b2 : Nat} {R2 : List Code} {D2 : Nat} {ps2 : List (Int × Int)} (h : SA C H p d bd kvs b R D ps) (h2 : SA C H p2 d2 bd2 kvs2 b2 R2 D2 ps2) (np : p2 ≠ p) (nd : d2 ≠ d) (e : ExS p d H H') : SA C H' p2 d2 bd2 kvs2 b2 R2 D2 ps2 := by
  obtain ⟨dx, h1⟩ := h.ob
  obtain ⟨dx2, g1⟩ := h2.ob
  have w := h.w e
  exact ⟨⟨dx2, e.k g1 np (ne_of g1 h.dc (by intro z; cases z))⟩, e.k h2.dc (ne_of h2.dc h1 (by intro z; cases z)) nd, kr_mono w h2.rs, h2.br.monoW w⟩
end

end
section
local macro_rules | `(tactic| walk_at "cond") => `(tactic| first | (with_reducible assumption) | decide | (show (0 : Int) < _; decide) | (exact ⟨by decide, by decide⟩) | (exact ⟨by decide, by decide, by decide⟩) | (exact ⟨by omega, by omega⟩) | (exact Or.inl ⟨by decide, by decide⟩) | (exact Or.inr ⟨by decide, by decide⟩) | (exact Or.inl ⟨by omega, by omega⟩) | (exact Or.inr ⟨by omega, by omega⟩) | omega)

local macro_rules | `(tactic| walk_at "seq") => `(tactic| first | (with_reducible assumption) | (exact sq_of (by with_reducible assumption)) | (exact st_of (by with_reducible assumption)) | (exact ex_l (by with_reducible assumption) (by with_reducible assumption)) | (exact ex_t (by with_reducible assumption) (by with_reducible assumption)))

local macro_rules | `(tactic| walk_at "rv") => `(tactic| first | (with_reducible exact rv_I0) | ((with_reducible apply rv_I); walk_at "cond") | ((with_reducible apply rv_eq); rfl) | ((with_reducible apply rv_ne); rfl) | (with_reducible exact rv_NT) | (with_reducible exact rv_isN) | ((with_reducible apply rv_add_str); walk_at "cond") | ((with_reducible apply rv_ixT); walk_at "seq"; rfl))

local macro_rules | `(tactic| walk_at "rc") => `(tactic| first | ((with_reducible apply rc_len); walk_at "seq") | ((with_reducible apply rc_lenT); walk_at "seq") | ((with_reducible apply rc_lenS); walk_at "cond") | (with_reducible exact rc_intB) | (with_reducible exact rc_typI) | ((with_reducible apply rc_strI); walk_at "cond") | (exact rc_isi tx_str kb_ss) | (exact rc_isi tx_int kb_ii) | (exact rc_isi tx_int kb_ib) | (exact rc_isi (tx_lst (by with_reducible assumption)) kb_ll) | (exact rc_isi (tx_tup (by with_reducible assumption)) kb_tt))

local macro_rules | `(tactic| walk_at "spv") => `(tactic| fail "no promise")

local macro_rules | `(tactic| walk_at "ea") => `(tactic| first | (with_reducible exact ea_nil) | ((with_reducible apply ea_cons); walk_at "ev"; walk_at "ea"))

local macro_rules | `(tactic| walk_at "eo") => `(tactic| first | (with_reducible exact eo_none) | ((with_reducible apply eo_some); walk_at "ev"))

local macro_rules | `(tactic| walk_at "ev") => `(tactic| first
  | (with_reducible exact ev_c)
  | ((with_reducible apply ev_var); rfl)
  | ((with_reducible apply ev_op); walk_at "ev"; walk_at "ev"; walk_at "rv")
  | ((with_reducible apply ev_cb); walk_at "ea"; walk_at "rc")
  | ((with_reducible apply ev_call); walk_at "ea"; walk_at "spv")
  | ((with_reducible apply ev_neg); walk_at "ev")
  | ((with_reducible apply ev_notV); walk_at "ev")
  | ((with_reducible apply ev_andV); walk_at "ev"; (intro _; walk_at "ev"))
  | ((with_reducible apply ev_orV); walk_at "ev"; (intro _; walk_at "ev")))

local macro_rules | `(tactic| walk_at "et") => `(tactic| first
  | ((with_reducible apply et_chain); walk_at "ev"; walk_at "ev"; walk_at "rv"; (intro _; walk_at "ev"); (intro _; walk_at "rv"))
  | ((with_reducible apply et_test); walk_at "ev")
  | ((with_reducible apply et_B); walk_at "ev")
  | ((with_reducible apply et_not); walk_at "et")
  | ((with_reducible apply et_or); walk_at "et"; (intro _; walk_at "et"))
  | ((with_reducible apply et_and); walk_at "et"; (intro _; walk_at "et")))

local macro_rules | `(tactic| walk_at "asg") => `(tactic| ((first | with_reducible apply q_asg | with_reducible apply s_asg); walk_at "ev"))

local macro_rules | `(tactic| walk_at "drop") => `(tactic| ((first | with_reducible apply q_drop | with_reducible apply s_drop); walk_at "ev"))

local macro_rules | `(tactic| walk_at "ret") => `(tactic| ((with_reducible apply s_retk); walk_at "ev"))

local macro_rules | `(tactic| walk_at "when") => `(tactic| ((first | with_reducible apply q_when | with_reducible apply s_when | with_reducible apply q_if | with_reducible apply s_if); walk_at "et"))

variable [TabCx]
/-! ### sorted(things, key=lambda thing: thing[0]) -/
theorem each_refs : ∀ {bs : List ((Int × Int) × Addr)}, PySem.W.EachIs (fun (u : Value) (b : (Int × Int) × Addr) => u = .ref b.2) (bs.map fun b => .ref b.2) bs
  | [] => .nil
  | _ :: _ => .cons rfl each_refs
theorem tab_uniq [TabCx] {t u : Addr × Str} (ht : t ∈ TabCx.T) (hu : u ∈ TabCx.T) (h : t.1 = u.1) : t = u := by
  have nd := TabCx.nd
  generalize TabCx.T = L at ht hu nd
  induction L with
  | nil => simp at ht
  | cons a l ih =>
    rw [List.map_cons, List.nodup_cons] at nd
    rcases List.mem_cons.mp ht with e | e <;> rcases List.mem_cons.mp hu with f | f
    · rw [e, f]
    · exact absurd (List.mem_map_of_mem (f := (·.1)) f) (by rw [← h, e]; exact nd.1)
    · exact absurd (List.mem_map_of_mem (f := (·.1)) e) (by rw [h, f]; exact nd.1)
    · exact ih e f nd.2
theorem refs_each : ∀ {us : List Value} {bs : List ((Int × Int) × Addr)}, PySem.W.EachIs (fun (u : Value) (b : (Int × Int) × Addr) => u = .ref b.2) us bs → us = bs.map fun b => .ref b.2
  | _, _, .nil => rfl
  | _, _, .cons h t => by
    rw [refs_each t, h]
    rfl
theorem thg_split {H : Hp} : ∀ {xs : List V} {ps : List (Int × Int)}, PR rpT H xs ps → ∃ bs : List ((Int × Int) × Addr), bs.map (·.1) = ps ∧ xs = bs.map (fun b => .ref b.2) ∧ ∀ b ∈ bs, H b.2 = some (.tup [.int b.1.1, .int b.1.2])
  | _, _, .nil => ⟨[], rfl, rfl, by simp⟩
  | _, _, .cons ⟨t, e, h⟩ r => by
    obtain ⟨bs, h1, h2, h3⟩ := thg_split r
    refine ⟨(_, t) :: bs, by rw [List.map_cons, h1], by rw [e, h2]; rfl, fun b hb => ?_⟩
    rcases List.mem_cons.mp hb with q | q
    · rw [q]
      exact h
    · exact h3 b q
theorem thg_join {H : Hp} : ∀ {bs : List ((Int × Int) × Addr)}, (∀ b ∈ bs, H b.2 = some (.tup [.int b.1.1, .int b.1.2])) → PR rpT H (bs.map fun b => .ref b.2) (bs.map (·.1))
  | [], _ => .nil
  | b :: r, h => .cons ⟨b.2, rfl, h b List.mem_cons_self⟩ (thg_join fun c hc => h c (List.mem_cons_of_mem _ hc))
theorem vals_refs {bs : List ((Int × Int) × Addr)} : ∀ {us : List Value}, Vals (bs.map fun b => V.ref b.2) us → us = bs.map fun b => .ref b.2 := by
  induction bs with
  | nil =>
    intro us r
    cases r
    rfl
  | cons b r ih =>
    intro us h
    cases h with
    | cons h t =>
      rw [ih t, show _ = Value.ref b.2 from h]
      rfl
theorem refs_vals : ∀ {bs : List ((Int × Int) × Addr)}, Vals (bs.map fun b => V.ref b.2) (bs.map fun b => Value.ref b.2)
  | [] => .nil
  | _ :: _ => .cons rfl refs_vals
section
variable {X : Cx}
/-- told by the pieces ps: new list, the pieces in order of their names -/
def tSortLam (K : PySem.W.Frag) (P : Addr) (lq : Str) (te : TE) : TE := fun σ H Q => te σ H fun x H1 => ∃ (a : Addr) (xs : List V) (ps : List (Int × Int)), x = .ref a ∧ SqL K H1 a xs ∧ PR rpT H1 xs ps ∧ TabsOk H1 ∧
  ∀ (p : Addr) (qs : List (Int × Int)) (B : Hp), qs.Perm ps → qs.Pairwise (fun (a b : Int × Int) => a.1 ≤ b.1) → H1 p = none → Ex H1 B → LR rpT B p qs → Q (.ref p) B
open PySem.Spec PyProof.Rows in
set_option maxHeartbeats 2000000 in
/-- a lambda is made: where its code is new the table is written, else all stands -/
theorem lam_made {pins : List (Addr × Obj)} {σ : L2.St} {H : Hp} {s : Shared} {c P : Addr} {lq : Str} {params : Arguments} {body : Expr} {scope : Scope} {pos : Pos} {E : Value → Shared → Prop} {Q : Value → Shared → Prop}
    (I : L2.Inv X pins σ H s) (TB : LamX.TabB X.base X.mg c P) (hcode : X.env.code = .ref c) (hq : X.env.qual ++ Str.ofString "<lambda>" = lq) (hT : TabsOk H) (hm : (P, lq) ∈ TabCx.T)
    (hdef : defaultsOf params X.env = ([], [])) (hfree : ∀ y ∈ scope.names, y.2 = .free → ∃ c, X.env.cells.lookup y.1 = some c)
    (go : ∀ (f c' : Addr) (pm ctv : Value) (B : Hp) (s' : Shared), L2.Inv X pins σ B s' → Ex H B →
      s'.heap.get? f = some (PySem.W.kla_obj "<lambda>" lq params body scope (cloFrom X.env.cells scope.names []) pm c' ctv) → B c' = some (LamX.CodeO c' lq) → Q (.ref f) s') :
    wpAny (model X.prog X.w) X.A (eval (.Lambda params body scope pos) X.env) Q E s := by
  obtain ⟨ps, hP, trip, known⟩ := hT (P, lq) hm
  refine PySem.W.kla_eval hdef ?_
  rw [hq]
  have bm : s.heap.BuiltinsAt X.mg P := TB.bm.keeps I.bk
  have gP : s.heap.get? P = some { cls := .none, data := .fields ps } := I.hok P _ hP
  have gl := I.mod.glob.keeps I.bk
  have cd := TB.code.keeps I.bk
  cases found : codeAmong pos ps.toList with
  | some cv =>
    obtain ⟨c', rfl, hc'⟩ := known pos cv found
    refine PySem.W.kla_makeFunctionHit (closure_ok hfree) I.ok.glob gl hcode cd gP trip found bm fun ctv h' tk keep grown => ?_
    exact go _ c' ((X.mg "__name__").getD .none) ctv H _ (I.kept fun b o e => Heap.get?_push_of_some _ (keep b o e)) (.refl H) (Heap.get?_push_size _ rfl) hc'
  | none =>
    refine PySem.W.kla_makeFunction (closure_ok hfree) I.ok.glob gl hcode cd gP trip found TB.gP bm fun c' ctv h' tk keep ge lt record table => ?_
    obtain ⟨_, oc, vs, t, e2, hoc, hd, hv⟩ := record
    cases e2
    have free' : H c' = none := I.hok.fresh ge
    have neP : P ≠ c' := ne_of_none hP free'
    refine go h'.objs.size c' ((X.mg "__name__").getD .none) ctv _ _ (LamX.inv_table (q := lq) (t' := tk) (more := #[rawInt pos.line, rawInt pos.col, .ref c']) I hP (fun b o hb e => Heap.get?_push_of_some _ (keep b o hb e))
      (Heap.get?_push_of_some _ table) ge ⟨oc, vs, t, Heap.get?_push_of_some _ hoc, hd, hv⟩) ⟨fun b o e n => ?_, fun b e => ?_, fun t' t ht => ?_⟩ (Heap.get?_push_size _ rfl) upd_same
    · have n1 : b ≠ P := fun z => n ps (by rw [z, hP] at e; exact (Option.some.inj e).symm)
      rw [upd_ne (ne_of_none e free'), upd_ne n1]
      exact e
    · by_cases z : b = c'
      · rw [z]
        exact free'
      · rw [upd_ne z] at e
        by_cases z2 : b = P
        · rw [z2, upd_same] at e
          cases e
        · rw [upd_ne z2] at e
          exact e
    · have old : ∀ d lq0, H d = some (LamX.CodeO d lq0) → (upd (upd H P (.tbl (ps ++ #[rawInt pos.line, rawInt pos.col, .ref c']))) c' (LamX.CodeO c' lq)) d = some (LamX.CodeO d lq0) := fun d lq0 e => by
        have n1 : d ≠ P := ne_of e hP (by intro z; unfold LamX.CodeO at z; cases z)
        rw [upd_ne (ne_of_none e free'), upd_ne n1]
        exact e
      by_cases z : t.1 = P
      · have e1 : t = (P, lq) := by
          have := tab_uniq ht hm z
          exact this
        subst e1
        have el : (ps ++ #[rawInt pos.line, rawInt pos.col, Value.ref c']).toList = ps.toList ++ [rawInt pos.line, rawInt pos.col, .ref c'] := by simp
        refine ⟨ps ++ #[rawInt pos.line, rawInt pos.col, .ref c'], (by rw [upd_ne neP, upd_same]), by rw [el]; exact PySem.TriplesOk_snoc _ _ _ _ trip, fun pos' cv hc => ?_⟩
        rw [el] at hc
        rcases LamX.among_app _ trip hc with z | z
        · obtain ⟨d, e1, e2⟩ := known pos' cv z
          exact ⟨d, e1, old d _ e2⟩
        · exact ⟨c', z, upd_same⟩
      · obtain ⟨ps', e1, e2, e3⟩ := t' t ht
        refine ⟨ps', by rw [upd_ne (ne_of_none e1 free'), upd_ne z]; exact e1, e2, fun pos' cv hc => ?_⟩
        obtain ⟨d, g1, g2⟩ := e3 pos' cv hc
        exact ⟨d, g1, old d _ g2⟩
open PySem.Spec PyProof.Rows in
set_option maxHeartbeats 2000000 in
theorem lam_key {prog : Program} {w : World} {A : Around} {s : Shared} {f c' t : Addr} {n v : Int} {qual y : Str} {params : Arguments} {scope : Scope} {cl : List (Str × Addr)} {pm ctv : Value} {q1 q2 q3 : Pos} {j : Nat} {its : List Value}
    (hroom : A.depth < recursionLimit) (hlim : s.heap.NoLimit)
    (hf : s.heap.get? f = some (PySem.W.kla_obj "<lambda>" qual params (.Subscript (.Name y q1) (.Constant (.int 0) j q2) q3) scope cl pm c' ctv))
    (hc : ∃ (oc : Obj) (vs : Array Value) (tq : Tok), s.heap.get? c' = some oc ∧ oc.data = .fields vs ∧ vs[1]? = some (.str qual tq))
    (ht : IsTup s.heap t its.toArray) (hi : Vals [.int n, .int v] its)
    (hk : scope.kind = .function) (hco : scope.isCoroutine = false) (hgen : scope.isGenerator = false) (hcell : ∀ x ∈ scope.names, x.2 ≠ .cell) (hy : scope.names.lookup y = some .local) (hdb : (y == ("__debug__" : Str)) = false)
    (hb : ∀ u : Value, bindArgs (PySem.W.kla_fn "<lambda>" qual params (.Subscript (.Name y q1) (.Constant (.int 0) j q2) q3) scope cl pm (.ref c') ctv) ⟨[u], []⟩ = pure [(y, u)]) :
    wpAny (model prog w) A (call (.ref f) [.ref t]) (PySem.W.KeyPure (.int n) s) (fun _ _ => False) s := by
  obtain ⟨oc, vs, tq, hoc, hdc, hvc⟩ := hc
  refine wpAny_call (PySem.W.kla_callFunE hroom hf rfl hco hgen rfl ⟨c', oc, vs, tq, rfl, hoc, hdc, hvc⟩ ?_)
  rw [hb]
  refine wpAny_pure (wpAny_newFunctionEnv hcell (fun x hx => by
    rw [List.mem_singleton.mp hx]
    exact hy) (fun h1 hns hsb => ⟨hlim.fresh _ hsb, ?_⟩) hk)
  show codeAny _ _ (.expr (.Subscript (.Name y q1) (.Constant (.int 0) j q2) q3) (PySem.W.envX qual scope s.heap.objs.size f (.ref c') cl)) _ _
  have ek : ∀ b o, s.heap.get? b = some o → h1.get? b = some o := fun b o e => hsb.extBut b o (Nat.ne_of_lt (Heap.lt_size e)) (Heap.get?_push_of_some _ e)
  obtain ⟨o1, ho1, ho2⟩ := ht
  have ht1 : IsTup h1 t its.toArray := ⟨o1, ek _ _ ho1, ho2⟩
  obtain ⟨u1, u2, rfl, r1, r2⟩ := vals2 hi
  obtain ⟨tn, rfl⟩ := r1
  refine PySem.W.kla_codeExpr (Subscript_ (wpAny_Name (wpAny_loadName_local (v := .ref t) hk ?_ hns ?_ (wpAny_Constant_int ?_)) hdb))
  · show scope.names.lookup y = some .local
    exact hy
  · show List.lookup y [(y, Value.ref t)] = some (.ref t)
    simp [List.lookup]
  · refine subscriptTail_builtinR (x := .int n tn) ht1.typeIs slot_tuple_getitem.lookup (getItem_tuple (j := 0) (Q := fun r s' => r = .int n tn ∧ _) ht1 (by decide) (by decide) (by rfl) (by rfl) ⟨rfl, ?_⟩) rfl
    exact ⟨h1, _, rfl, ek, .int _ _⟩
def onOne (q : V → Hp → Prop) : List V → Hp → Prop := fun vs H => match vs with
  | [x] => q x H
  | _ => False
theorem onOne_is {q : V → Hp → Prop} {vs : List V} {H : Hp} (h : onOne q vs H) : ∃ x, vs = [x] ∧ q x H := by
  match vs, h with
  | [x], h => exact ⟨x, rfl, h⟩
open PySem.Spec PyProof.Rows in
set_option maxHeartbeats 4000000 in
theorem pe_sortLam {e : Expr} {te : TE} {P c : Addr} {lq : Str} {y : Str} {params : Arguments} {scope : Scope} {p pos lp kp q1 q2 q3 : Pos} {j k : Nat} (TB : LamX.TabB X.base X.mg c P) (hmT : (P, lq) ∈ TabCx.T) (hcode : X.env.code = .ref c) (hq : X.env.qual ++ Str.ofString "<lambda>" = lq) (hr : Room k X.A) (hk2 : 2 ≤ k)
    (hg : Gl X "sorted") (hm : X.mg "sorted" = none) (ha : PE X e te)
    (hdef : defaultsOf params X.env = ([], [])) (hk : scope.kind = .function) (hco : scope.isCoroutine = false) (hgen : scope.isGenerator = false) (hloc : ∀ x ∈ scope.names, x.2 = .local) (hy : scope.names.lookup y = some .local) (hdb : (y == ("__debug__" : Str)) = false)
    (hb0 : ∀ (pm ctv u : Value) (c' : Addr), bindArgs (PySem.W.kla_fn "<lambda>" lq params (.Subscript (.Name y q1) (.Constant (.int 0) j q2) q3) scope (cloFrom X.env.cells scope.names []) pm (.ref c') ctv) ⟨[u], []⟩ = pure [(y, u)])
    (hs : starEach [e] X.env = (false, eval e X.env) :: starEach [] X.env := by rfl) (he : backTo pos (starEach [e] X.env) = (false, eval e X.env) :: backTo pos (starEach [] X.env) := by rfl) (hpl : (backTo pos (starEach [e] X.env)).any (·.1) = false := by rfl) :
    PE X (.Call (.Name "sorted" p) [e] [⟨some "key", .Lambda params (.Subscript (.Name y q1) (.Constant (.int 0) j q2) q3) scope lp, kp⟩] pos) (tSortLam X.K P lq te) := by
  refine ⟨fun pins s σ H Q I h => ?_⟩
  refine wpAny_Call_Name_kw (ld_blt I hg hm (show bootBuiltins "sorted" = some (.builtin "sorted") by decide +kernel) ?_ (by decide) (by decide))
  refine PyProof.Rows.callWith_kw (thn ((pa_cons ha pa_nil hs).run pos pins s σ H (onOne fun x H1 => ∃ (a : Addr) (xs : List V) (ps : List (Int × Int)), x = V.ref a ∧ SqL X.K H1 a xs ∧ PR rpT H1 xs ps ∧ TabsOk H1 ∧
      ∀ (p : Addr) (qs : List (Int × Int)) (B : Hp), qs.Perm ps → qs.Pairwise (fun (a b : Int × Int) => a.1 ≤ b.1) → H1 p = none → Ex H1 B → LR rpT B p qs → Q (.ref p) B) I h) fun us s1 ⟨vs, H1, I1, r1, z1⟩ => ?_) he hpl (by rfl) (by rfl)
  · obtain ⟨x0, rfl, z1⟩ := onOne_is z1
    obtain ⟨a, xs, ps, rfl, hS, hP, hT, kQ⟩ := z1
    obtain ⟨ua, rfl, ra⟩ := vals1 r1
    obtain rfl : ua = Value.ref a := ra
    show wpAny _ _ (evalAll ((do let v ← eval (.Lambda params (.Subscript (.Name y q1) (.Constant (.int 0) j q2) q3) scope lp) X.env; standAt pos; pure v) :: [])) _ _ _
    refine wpAny_evalAll_cons (wpAny_bind ?_)
    refine lam_made I1 TB hcode hq hT hmT hdef (fun x hx e => by rw [hloc x hx] at e; cases e) fun f c' pm ctv H2 s2 I2 eX hf hco' => ?_
    refine wpAny_bind (wpAny_standAt (wpAny_pure (wpAny_evalAll_nil ?_)))
    show wpAny _ _ (call (.builtin "sorted") [.ref a] [(Str.ofString "key", .ref f)]) _ _ _
    obtain ⟨bs, hb1, rfl, hb3⟩ := thg_split (pr_mono eX hP)
    have hS2 := ex_l eX hS
    obtain ⟨its, rv, pl, hz⟩ := I2.list hS2
    have hits := vals_refs rv
    subst hits
    have hlen : bs.length ≤ sizeLine := by simpa using hz
    obtain ⟨⟨oc, vsc, tq, hoc, hdc, hvc⟩, _, _⟩ := I2.hok c' _ hco'
    refine PySem.W.sorted_key_data (b := false) (R := fun (u : Value) (b : (Int × Int) × Addr) => u = .ref b.2) (bs := bs) (fun b : (Int × Int) × Addr => .int b.1.1) pl.isList each_refs (PySem.W.AllAlike.of fun _ _ => by simp [PySem.W.alike]) (PySem.W.Sortable.others fun _ => ?_) hlen (fun b _ => ?_) (PyProof.Rows.ksk_s1 _ _) (fun _ => PyProof.Rows.ksk_l1 _ _) (fun _ => PyProof.Rows.ksk_t1 _ _) (fun u b hu hb hh tk kp => ?_) fun out cc h' tk kp hfr' hD hl eo => ?_
    · exact ⟨fun z => (by cases z), fun xs z => (by cases z)⟩
    · have z := hr.un
      show X.A.units + 2 + PyData.depth (.int _) < cLine
      have z0 : PyData.depth (.int b.1.1) = 0 := by simp [PyData.depth]
      omega
    · subst hu
      obtain ⟨_, its, rvi, hti⟩ := I2.hok b.2 _ (hb3 b hb)
      obtain ⟨o1, ho1, ho2⟩ := hti
      exact lam_key (s := { s2 with heap := hh, toks := tk }) ((hr.mono hk2).in1.in1.depth) (I2.nolimit.keeps kp) (kp _ _ hf) ⟨oc, vsc, tq, kp _ _ hoc, hdc, hvc⟩ ⟨o1, kp _ _ ho1, ho2⟩ rvi hk hco hgen (fun x hx e => by rw [hloc x hx] at e; cases e) hy hdb (fun u => hb0 pm ctv u c')
    · have eo' := refs_each eo
      subst eo'
      have perm : (bs.mergeSort (PySem.W.dataLe false fun b : (Int × Int) × Addr => .int b.1.1)).Perm bs := List.mergeSort_perm bs _
      have hz2 : ((bs.mergeSort (PySem.W.dataLe false fun b : (Int × Int) × Addr => .int b.1.1)).map fun b => V.ref b.2).length ≤ sizeLine := by
        rw [List.length_map, perm.length_eq]
        exact hlen
      have np : H2 (s2.heap.objs.size + 1) = none := I2.hok.fresh (Nat.le_succ _)
      have mem : ∀ b ∈ bs.mergeSort (PySem.W.dataLe false fun b : (Int × Int) × Addr => .int b.1.1), (upd H2 (s2.heap.objs.size + 1) (.lst ((bs.mergeSort (PySem.W.dataLe false fun b : (Int × Int) × Addr => .int b.1.1)).map fun b => V.ref b.2))) b.2 = some (.tup [.int b.1.1, .int b.1.2]) := fun b hb => by
        have z := hb3 b (perm.mem_iff.mp hb)
        rw [upd_ne (ne_of_none z np)]
        exact z
      refine ⟨.ref _, upd H2 (s2.heap.objs.size + 1) (.lst ((bs.mergeSort (PySem.W.dataLe false fun b : (Int × Int) × Addr => .int b.1.1)).map fun b => V.ref b.2)), I2.laid (t' := tk) kp (Nat.le_succ _) ⟨hz2, _, cc, refs_vals, hD⟩, rfl, ?_⟩
      refine kQ _ ((bs.mergeSort (PySem.W.dataLe false fun b : (Int × Int) × Addr => .int b.1.1)).map (·.1)) _ ?_ ?_ (fresh_back eX np) (eX.trans (.new np)) ⟨_, upd_same, thg_join mem⟩
      · rw [← hb1]
        exact perm.map _
      · rw [PySem.W.dataLe_int (fun b : (Int × Int) × Addr => b.1.1)]
        rw [List.pairwise_map]
        have z := List.pairwise_mergeSort (le := fun a b : (Int × Int) × Addr => decide (a.1.1 ≤ b.1.1)) (fun a b c h1 h2 => by
          have h1 := of_decide_eq_true h1
          have h2 := of_decide_eq_true h2
          exact decide_eq_true (Int.le_trans h1 h2)) (fun a b => by
          rcases Int.le_total a.1.1 b.1.1 with z | z
          · rw [decide_eq_true z]; rfl
          · rw [decide_eq_true z, Bool.or_true]) bs
        exact z.imp fun h => of_decide_eq_true h
end

end
section
local macro_rules | `(tactic| walk_at "cond") => `(tactic| first | (with_reducible assumption) | decide | (show (0 : Int) < _; decide) | (exact ⟨by decide, by decide⟩) | (exact ⟨by decide, by decide, by decide⟩) | (exact ⟨by omega, by omega⟩) | (exact Or.inl ⟨by decide, by decide⟩) | (exact Or.inr ⟨by decide, by decide⟩) | (exact Or.inl ⟨by omega, by omega⟩) | (exact Or.inr ⟨by omega, by omega⟩) | omega)

local macro_rules | `(tactic| walk_at "seq") => `(tactic| first | (with_reducible assumption) | (exact sq_of (by with_reducible assumption)) | (exact st_of (by with_reducible assumption)) | (exact ex_l (by with_reducible assumption) (by with_reducible assumption)) | (exact ex_t (by with_reducible assumption) (by with_reducible assumption)))

local macro_rules | `(tactic| walk_at "rv") => `(tactic| first | (with_reducible exact rv_I0) | ((with_reducible apply rv_I); walk_at "cond") | ((with_reducible apply rv_eq); rfl) | ((with_reducible apply rv_ne); rfl) | (with_reducible exact rv_NT) | (with_reducible exact rv_isN) | ((with_reducible apply rv_add_str); walk_at "cond") | ((with_reducible apply rv_ixT); walk_at "seq"; rfl))

local macro_rules | `(tactic| walk_at "rc") => `(tactic| first | ((with_reducible apply rc_len); walk_at "seq") | ((with_reducible apply rc_lenT); walk_at "seq") | ((with_reducible apply rc_lenS); walk_at "cond") | (with_reducible exact rc_intB) | (with_reducible exact rc_typI) | ((with_reducible apply rc_strI); walk_at "cond") | (exact rc_isi tx_str kb_ss) | (exact rc_isi tx_int kb_ii) | (exact rc_isi tx_int kb_ib) | (exact rc_isi (tx_lst (by with_reducible assumption)) kb_ll) | (exact rc_isi (tx_tup (by with_reducible assumption)) kb_tt))

local macro_rules | `(tactic| walk_at "spv") => `(tactic| fail "no promise")

local macro_rules | `(tactic| walk_at "ea") => `(tactic| first | (with_reducible exact ea_nil) | ((with_reducible apply ea_cons); walk_at "ev"; walk_at "ea"))

local macro_rules | `(tactic| walk_at "eo") => `(tactic| first | (with_reducible exact eo_none) | ((with_reducible apply eo_some); walk_at "ev"))

local macro_rules | `(tactic| walk_at "ev") => `(tactic| first
  | (with_reducible exact ev_c)
  | ((with_reducible apply ev_var); rfl)
  | ((with_reducible apply ev_op); walk_at "ev"; walk_at "ev"; walk_at "rv")
  | ((with_reducible apply ev_cb); walk_at "ea"; walk_at "rc")
  | ((with_reducible apply ev_call); walk_at "ea"; walk_at "spv")
  | ((with_reducible apply ev_neg); walk_at "ev")
  | ((with_reducible apply ev_notV); walk_at "ev")
  | ((with_reducible apply ev_andV); walk_at "ev"; (intro _; walk_at "ev"))
  | ((with_reducible apply ev_orV); walk_at "ev"; (intro _; walk_at "ev")))

local macro_rules | `(tactic| walk_at "et") => `(tactic| first
  | ((with_reducible apply et_chain); walk_at "ev"; walk_at "ev"; walk_at "rv"; (intro _; walk_at "ev"); (intro _; walk_at "rv"))
  | ((with_reducible apply et_test); walk_at "ev")
  | ((with_reducible apply et_B); walk_at "ev")
  | ((with_reducible apply et_not); walk_at "et")
  | ((with_reducible apply et_or); walk_at "et"; (intro _; walk_at "et"))
  | ((with_reducible apply et_and); walk_at "et"; (intro _; walk_at "et")))

local macro_rules | `(tactic| walk_at "asg") => `(tactic| ((first | with_reducible apply q_asg | with_reducible apply s_asg); walk_at "ev"))

local macro_rules | `(tactic| walk_at "drop") => `(tactic| ((first | with_reducible apply q_drop | with_reducible apply s_drop); walk_at "ev"))

local macro_rules | `(tactic| walk_at "ret") => `(tactic| ((with_reducible apply s_retk); walk_at "ev"))

local macro_rules | `(tactic| walk_at "when") => `(tactic| ((first | with_reducible apply q_when | with_reducible apply s_when | with_reducible apply q_if | with_reducible apply s_if); walk_at "et"))

variable [TabCx]
theorem okN {P : Program} {w : World} {K : PySem.W.Frag} {mg : Str → Option Value} {base : Heap} {x qual : Str} {st : Stmt} {f : Addr} {fd : FuncData} {N ps : List Str} {k : Nat} {sp : Sp} (F : Fun K x qual st f fd) (S : FnScope N ps (defScope st)) (len : ∀ (vs : List V) (H : Hp) (Q : VK) (E : XK), sp vs H Q E → vs.length = ps.length)
    (body : ∀ (cdv : Value) (A : Around) (outer : List Env) (s : Shared) (H : Hp) (vs : List V) (Q : VK) (E : XK), Room k (A.deeper (PyProof.Rows.envOfC qual (defScope st) s.heap.objs.size f cdv)) → sp vs H Q E →
      ∃ t, PSs (cxOf (L2N.CX P w) P w K mg base N qual (defScope st) f cdv A outer s H E) (defBody st) t ∧ t { nx := fun _ H' => Q V.non H', rt := Q } (L2.start N vs) H) : FnOk P w K mg base (L2N.CX P w) (k + 1) f fd ps sp := by
  obtain ⟨oc, od, kV, doc, pm, an, cdv, ct, osl, rfl, lk, hcd⟩ := F.ex
  exact fn_of lk hcd S len (body cdv)
theorem takesN0 {X : Cx} : L2N.Takes X (fun _ _ _ _ => False) := fun u s' h => by
  obtain ⟨_, _, _, _, _, _, _, _, _, _, _, _, _, _, _, _, h⟩ := h
  exact h.elim
/-- o.m(e, ..) of a method that may raise, its way out by the slots -/
def tMethP (C : Addr) (m : Str) (sp : Sp) (E : St → XK) (ta : TE) (t : TA) : TE := fun σ H Q => ta σ H fun x H1 => ∃ a dx fs, x = .ref a ∧ H1 a = some (.ins C dx fs) ∧ fs.lookup m = none ∧ t σ H1 fun vs H2 => sp (x :: vs) H2 Q (E σ)
theorem pe_methP {X : Cx} {CX : CXT} {k : Nat} {f C : Addr} {fd : FuncData} {ps : List Str} {sp : Sp} {E : St → XK} {m : Str} {pos apos : Pos} {e o : Expr} {es : List Expr} {ta : TE} {t : TA} {pl : Sem Bool} (he : PE X o ta) (c : Cls X.K C) (hm : Meth X.K C m f) (F : FnOk X.prog X.w X.K X.mg X.base CX k f fd ps sp) (hr : Room k X.A) (hb : Binds X.K fd ps []) (hx : ∀ σ, PassesAt CX X σ (E σ)) (ha : PA X (e :: es) t)
    (hst : starEach (e :: es) X.env = (false, eval e X.env) :: starEach es X.env := by rfl) (hpl : (backTo pos (starEach es X.env)).any (·.1) = false := by rfl)
    (ht : eval (.Call (.Attribute o m apos) (e :: es) [] pos) X.env = (do
      let ov ← eval o X.env
      standAt apos.atName
      let (f, first) ← holding [ov] (getMethod ov m pl)
      callWith pos f first (backTo pos (starEach (e :: es) X.env)) (backToKw pos (keywordEach [] X.env))) := by rfl) :
    PE X (.Call (.Attribute o m apos) (e :: es) [] pos) (tMethP C m sp E ta t) := by
  refine ⟨fun pins s σ H Q I h => ?_⟩
  refine PySem.W.methodCall_KW (pl := pl) (thn (he.run pins s σ H _ I h) fun u s1 ⟨x, H1, I1, rx, a, dx, fs, ex, ea, l, q⟩ => ?_) ht
  subst ex
  obtain rfl : u = Value.ref a := rx
  refine getmeth_ok I1 ea c hm l ?_
  refine PySem.W.callWith_K (first := [.ref a]) (h₀ := X.base) I.ok.mod.kin hm.kp (thn (ha.run pos pins s1 σ H1 _ I1 q) fun us s2 ⟨vs, H2, I2, r, q2⟩ => ⟨I2.kIn, ?_⟩) hst hpl
  exact run_fnS (us := .ref a :: us) (vs := .ref a :: vs) F hr hb (hx σ) I2 (.cons rfl r) q2

end
section
local macro_rules | `(tactic| walk_at "cond") => `(tactic| first | (with_reducible assumption) | decide | (show (0 : Int) < _; decide) | (exact ⟨by decide, by decide⟩) | (exact ⟨by decide, by decide, by decide⟩) | (exact ⟨by omega, by omega⟩) | (exact Or.inl ⟨by decide, by decide⟩) | (exact Or.inr ⟨by decide, by decide⟩) | (exact Or.inl ⟨by omega, by omega⟩) | (exact Or.inr ⟨by omega, by omega⟩) | omega)

local macro_rules | `(tactic| walk_at "seq") => `(tactic| first | (with_reducible assumption) | (exact sq_of (by with_reducible assumption)) | (exact st_of (by with_reducible assumption)) | (exact ex_l (by with_reducible assumption) (by with_reducible assumption)) | (exact ex_t (by with_reducible assumption) (by with_reducible assumption)))

local macro_rules | `(tactic| walk_at "rv") => `(tactic| first | (with_reducible exact rv_I0) | ((with_reducible apply rv_I); walk_at "cond") | ((with_reducible apply rv_eq); rfl) | ((with_reducible apply rv_ne); rfl) | (with_reducible exact rv_NT) | (with_reducible exact rv_isN) | ((with_reducible apply rv_add_str); walk_at "cond") | ((with_reducible apply rv_ixT); walk_at "seq"; rfl))

local macro_rules | `(tactic| walk_at "rc") => `(tactic| first | ((with_reducible apply rc_len); walk_at "seq") | ((with_reducible apply rc_lenT); walk_at "seq") | ((with_reducible apply rc_lenS); walk_at "cond") | (with_reducible exact rc_intB) | (with_reducible exact rc_typI) | ((with_reducible apply rc_strI); walk_at "cond") | (exact rc_isi tx_str kb_ss) | (exact rc_isi tx_int kb_ii) | (exact rc_isi tx_int kb_ib) | (exact rc_isi (tx_lst (by with_reducible assumption)) kb_ll) | (exact rc_isi (tx_tup (by with_reducible assumption)) kb_tt))

local macro_rules | `(tactic| walk_at "spv") => `(tactic| fail "no promise")

local macro_rules | `(tactic| walk_at "ea") => `(tactic| first | (with_reducible exact ea_nil) | ((with_reducible apply ea_cons); walk_at "ev"; walk_at "ea"))

local macro_rules | `(tactic| walk_at "eo") => `(tactic| first | (with_reducible exact eo_none) | ((with_reducible apply eo_some); walk_at "ev"))

local macro_rules | `(tactic| walk_at "ev") => `(tactic| first
  | (with_reducible exact ev_c)
  | ((with_reducible apply ev_var); rfl)
  | ((with_reducible apply ev_op); walk_at "ev"; walk_at "ev"; walk_at "rv")
  | ((with_reducible apply ev_cb); walk_at "ea"; walk_at "rc")
  | ((with_reducible apply ev_call); walk_at "ea"; walk_at "spv")
  | ((with_reducible apply ev_neg); walk_at "ev")
  | ((with_reducible apply ev_notV); walk_at "ev")
  | ((with_reducible apply ev_andV); walk_at "ev"; (intro _; walk_at "ev"))
  | ((with_reducible apply ev_orV); walk_at "ev"; (intro _; walk_at "ev")))

local macro_rules | `(tactic| walk_at "et") => `(tactic| first
  | ((with_reducible apply et_chain); walk_at "ev"; walk_at "ev"; walk_at "rv"; (intro _; walk_at "ev"); (intro _; walk_at "rv"))
  | ((with_reducible apply et_test); walk_at "ev")
  | ((with_reducible apply et_B); walk_at "ev")
  | ((with_reducible apply et_not); walk_at "et")
  | ((with_reducible apply et_or); walk_at "et"; (intro _; walk_at "et"))
  | ((with_reducible apply et_and); walk_at "et"; (intro _; walk_at "et")))

local macro_rules | `(tactic| walk_at "asg") => `(tactic| ((first | with_reducible apply q_asg | with_reducible apply s_asg); walk_at "ev"))

local macro_rules | `(tactic| walk_at "drop") => `(tactic| ((first | with_reducible apply q_drop | with_reducible apply s_drop); walk_at "ev"))

local macro_rules | `(tactic| walk_at "ret") => `(tactic| ((with_reducible apply s_retk); walk_at "ev"))

local macro_rules | `(tactic| walk_at "when") => `(tactic| ((first | with_reducible apply q_when | with_reducible apply s_when | with_reducible apply q_if | with_reducible apply s_if); walk_at "et"))

variable [TabCx]
/-! ### sorted(d): the keys of a dict, all texts, any number of them -/
section
open PySem.Spec PyProof.Rows
variable {X : Cx}
abbrev rSortedDS : List V → Hp → VK → Prop := fun xs H Q => ∃ (a : Addr) (kvs : List (Key × V)) (ks : List Str), xs = [.ref a] ∧ Rd H a (.dK kvs) ∧ kvs.map (·.1) = ks.map Sum.inr ∧ ∀ ys p, ys.Perm ks → sortedS ys = true → H p = none → Q (.ref p) (upd H p (.lst (ys.map V.str)))
theorem call_sortedDS (calm : X.calm = true) : CallR X (.builtin "sorted") rSortedDS := by
  intro pins s σ H args us Q I r z
  obtain ⟨a, kvs, ks, rfl, hd, hks, z⟩ := z
  obtain ⟨u, rfl, ru⟩ := vals1 r
  cases ru
  obtain ⟨hsz, big, vs, rel, dd⟩ := dk_rd I.hok hd
  obtain ⟨ep, hat⟩ := dd.dictAt
  have keys : vs.map (·.1) = ks.map Sum.inr := rel.keys.symm.trans hks
  have len : vs.length = ks.length := by simpa using congrArg List.length keys
  have line : vs.length ≤ sizeLine := by rw [← rel.length]; exact hsz
  refine Calls.call_function_entry kind_sorted plain_sorted entry_sorted (args_sorted1 _) ?_
  unfold Builtin.«sorted»
  refine wpAny_bind (m := checkCount "sorted" 1 1 _) (wpAny_pure ?_)
  refine wpAny_bind (PySem.W.kdu_collect (A := X.A.in1) (PySem.W.kdl_dict (knd := mixKind X.prog X.w) (kvs := vs) (ep := ep) big) (I.ok.hd calm) hat line fun h1 tk acc keep each => ?_)
  have la : acc.toList.length = ks.length := by rw [Array.length_toList, each.1, len]
  have texts : StrsAre acc.toList ks := strs_at la fun j v e => by
    obtain ⟨k, x, e1, e2⟩ := each.2 j v (by rw [← Array.getElem?_toList]; exact e)
    have e3 : (vs.map (·.1))[j]? = some k := by rw [List.getElem?_map, e1] <;> rfl
    rw [keys, List.getElem?_map] at e3
    rcases e4 : ks[j]? with _ | y
    · rw [e4] at e3
      cases e3
    · rw [e4] at e3
      obtain rfl : Sum.inr y = k := Option.some.inj e3
      obtain ⟨t, ev⟩ := Value.isStrOf_shape (x := y) (v := v) e2
      exact ⟨y, t, rfl, ev⟩
  have I1 : L2.Inv X pins σ H { s with heap := h1, toks := tk } := I.kept keep
  refine wpAny_bind (wpAny_newList ?_ (by rw [la, ← len]; exact line))
  have ho : (h1.push (seqObj "list" acc.toList.toArray 0)).get? h1.objs.size = some (seqObj "list" acc.toList.toArray 0) := Heap.get?_push_size _ rfl
  show wpAny _ _ _ _ _ { s with heap := h1.push (seqObj "list" acc.toList.toArray 0), toks := tk }
  refine wpAny_bind (wpAny_holding (wpAny_call_entry slot_list_sort ⟨_, ho, rfl⟩ entry_list_sort
    (list_sort_treeKAny strKind_oneLt (s := { s with heap := h1.push (seqObj "list" acc.toList.toArray 0), toks := tk }) ho texts.keysOf (fun v₁ v₂ rest e => keyKind_strs (by rw [← e]; exact texts)) (by rw [la, ← len]; exact line) fun st hp hs => ⟨_, rfl, ?_⟩)
    (args_list_sort _)))
  obtain ⟨ys, g1, g2, g3⟩ := sorted_out_str texts hp hs
  obtain ⟨e', he'⟩ := sortedHeap_at (vs := acc.toList) (out := (arrOf st).map (·.2)) ho
  have l2 : (ys.map V.str).length ≤ sizeLine := by
    rw [List.length_map, g2.length_eq, ← len]
    exact line
  refine wpAny_pure ⟨_, rfl, .ref h1.objs.size, upd H h1.objs.size (.lst (ys.map V.str)), I1.laid (t' := tk) (fun b o e => ?_) (Nat.le_refl _)
    (show ObjOk X.prog X.w _ _ _ (.lst (ys.map V.str)) from ⟨l2, ((arrOf st).map (·.2)).toList, e', vals_of_strs g1, by rw [Array.toArray_toList]; exact he'⟩), rfl, z ys _ g2 g3 (I1.hok.fresh (Nat.le_refl _))⟩
  have hb : b < h1.objs.size := Heap.lt_size e
  rw [sortedHeap_old (Nat.ne_of_lt hb) (by rw [Heap.size_push]; exact Nat.lt_succ_of_lt hb)]
  exact Heap.get?_push_of_some _ e
end

end
section
local macro_rules | `(tactic| walk_at "cond") => `(tactic| first | (with_reducible assumption) | decide | (show (0 : Int) < _; decide) | (exact ⟨by decide, by decide⟩) | (exact ⟨by decide, by decide, by decide⟩) | (exact ⟨by omega, by omega⟩) | (exact Or.inl ⟨by decide, by decide⟩) | (exact Or.inr ⟨by decide, by decide⟩) | (exact Or.inl ⟨by omega, by omega⟩) | (exact Or.inr ⟨by omega, by omega⟩) | omega)

local macro_rules | `(tactic| walk_at "seq") => `(tactic| first | (with_reducible assumption) | (exact sq_of (by with_reducible assumption)) | (exact st_of (by with_reducible assumption)) | (exact ex_l (by with_reducible assumption) (by with_reducible assumption)) | (exact ex_t (by with_reducible assumption) (by with_reducible assumption)))

local macro_rules | `(tactic| walk_at "rv") => `(tactic| first | (with_reducible exact rv_I0) | ((with_reducible apply rv_I); walk_at "cond") | ((with_reducible apply rv_eq); rfl) | ((with_reducible apply rv_ne); rfl) | (with_reducible exact rv_NT) | (with_reducible exact rv_isN) | ((with_reducible apply rv_add_str); walk_at "cond") | ((with_reducible apply rv_ixT); walk_at "seq"; rfl))

local macro_rules | `(tactic| walk_at "rc") => `(tactic| first | ((with_reducible apply rc_len); walk_at "seq") | ((with_reducible apply rc_lenT); walk_at "seq") | ((with_reducible apply rc_lenS); walk_at "cond") | (with_reducible exact rc_intB) | (with_reducible exact rc_typI) | ((with_reducible apply rc_strI); walk_at "cond") | (exact rc_isi tx_str kb_ss) | (exact rc_isi tx_int kb_ii) | (exact rc_isi tx_int kb_ib) | (exact rc_isi (tx_lst (by with_reducible assumption)) kb_ll) | (exact rc_isi (tx_tup (by with_reducible assumption)) kb_tt))

local macro_rules | `(tactic| walk_at "spv") => `(tactic| fail "no promise")

local macro_rules | `(tactic| walk_at "ea") => `(tactic| first | (with_reducible exact ea_nil) | ((with_reducible apply ea_cons); walk_at "ev"; walk_at "ea"))

local macro_rules | `(tactic| walk_at "eo") => `(tactic| first | (with_reducible exact eo_none) | ((with_reducible apply eo_some); walk_at "ev"))

local macro_rules | `(tactic| walk_at "ev") => `(tactic| first
  | (with_reducible exact ev_c)
  | ((with_reducible apply ev_var); rfl)
  | ((with_reducible apply ev_op); walk_at "ev"; walk_at "ev"; walk_at "rv")
  | ((with_reducible apply ev_cb); walk_at "ea"; walk_at "rc")
  | ((with_reducible apply ev_call); walk_at "ea"; walk_at "spv")
  | ((with_reducible apply ev_neg); walk_at "ev")
  | ((with_reducible apply ev_notV); walk_at "ev")
  | ((with_reducible apply ev_andV); walk_at "ev"; (intro _; walk_at "ev"))
  | ((with_reducible apply ev_orV); walk_at "ev"; (intro _; walk_at "ev")))

local macro_rules | `(tactic| walk_at "et") => `(tactic| first
  | ((with_reducible apply et_chain); walk_at "ev"; walk_at "ev"; walk_at "rv"; (intro _; walk_at "ev"); (intro _; walk_at "rv"))
  | ((with_reducible apply et_test); walk_at "ev")
  | ((with_reducible apply et_B); walk_at "ev")
  | ((with_reducible apply et_not); walk_at "et")
  | ((with_reducible apply et_or); walk_at "et"; (intro _; walk_at "et"))
  | ((with_reducible apply et_and); walk_at "et"; (intro _; walk_at "et")))

local macro_rules | `(tactic| walk_at "asg") => `(tactic| ((first | with_reducible apply q_asg | with_reducible apply s_asg); walk_at "ev"))

local macro_rules | `(tactic| walk_at "drop") => `(tactic| ((first | with_reducible apply q_drop | with_reducible apply s_drop); walk_at "ev"))

local macro_rules | `(tactic| walk_at "ret") => `(tactic| ((with_reducible apply s_retk); walk_at "ev"))

local macro_rules | `(tactic| walk_at "when") => `(tactic| ((first | with_reducible apply q_when | with_reducible apply s_when | with_reducible apply q_if | with_reducible apply s_if); walk_at "et"))

section
variable [TabCx]
variable {α β : Type} {r : Rp α} {r' : Rp β} {K : PySem.W.Frag} {σ : L2.St} {H A B : Hp} {te td : TE} {d : Addr} {kvs : List (Key × V)} {od : Obj}
theorem Ex.unlock (hd : A d = some (.dK kvs)) (b : Ex (upd A d (.frz od (.dK kvs))) B) : Ex A (upd B d (.dK kvs)) := by
  refine ⟨fun a o h n => ?_, fun a h => ?_, fun t => ?_⟩
  · by_cases e : a = d
    · rw [e] at h ⊢
      rw [hd] at h
      rw [upd_same]
      exact h
    · rw [upd_ne e]
      exact b.keep a o (by rw [upd_ne e]; exact h) n
  · by_cases e : a = d
    · rw [e, upd_same] at h
      cases h
    · rw [upd_ne e] at h
      have := b.dom a h
      rw [upd_ne e] at this
      exact this
  · have hB : B d = some (.frz od (.dK kvs)) := b.k upd_same
    exact (b.tabs (t.mut hd ⟨(by intro _ z; cases z), (by intro _ z; cases z)⟩)).mut hB ⟨(by intro _ z; cases z), (by intro _ z; cases z)⟩
theorem ExW.unlock (hB : B d = some (.frz od (.dK kvs))) : ExW B (upd B d (.dK kvs)) :=
  ⟨fun a o h i => by rw [upd_ne (ne_of h hB (by intro z; rw [z] at i; exact i))]; exact h, upd_dom hB, fun t => t.mut hB ⟨(by intro _ z; cases z), (by intro _ z; cases z)⟩⟩
/-- a new list made while the dict is locked -/
theorem el_lock {bs : List β} (hd : H d = some (.dK kvs)) (h : ∀ od A, Ex H A → EvLR r' te σ (upd A d (.frz od (.dK kvs))) bs) : EvLR r' (tLockE te) σ H bs := fun A a Q q => by
  have hdA := a.k hd
  refine ⟨d, .dK kvs, hdA, trivial, fun od => h od A a _ (.refl _) _ fun v B b ⟨p, e, hp, L⟩ => ?_⟩
  have hB : B d = some (.frz od (.dK kvs)) := b.k upd_same
  have hpd : p ≠ d := fun z => by rw [z, upd_same] at hp; cases hp
  refine ⟨hB, q v _ (Ex.unlock hdA b) ⟨p, e, ?_, L.monoW (ExW.unlock hB)⟩⟩
  rw [upd_ne hpd] at hp
  exact hp
/-- the values of a locked dict -/
theorem lcV {as : List α} {vs : List Nat} {j : Nat} {Rl : Hp → V → α → Prop} (g : α → β) (mono : ∀ {H H' : Hp} {v : V} {a : α}, Ex H H' → Rl H v a → Rl H' v a) (hp : Paired (fun (kv : Key × V) a => Rl H kv.2 a) kvs as) (h : Ev td σ H (.ref d)) (hd : H d = some (.frz od (.dK kvs))) (hz : as.length ≤ 40000)
    (hw : ∀ x, wipe ((wipe σ vs).set j (some x)) vs = wipe σ vs)
    (he : ∀ x a H1 F, Ex H H1 → (∀ y, F y → H1 y ≠ none) → a ∈ as → Rl H1 x a → EvE r' F te ((wipe σ vs).set j (some x)) H1 (g a)) : EvLR r' (tLc (iVals td) (gName j) tYes te vs) σ H (as.map g) := fun H0 e Q qq => h H0 e _ fun H1 e1 => ⟨d, od, kvs, rfl, (e.trans e1).k hd, fun Dl hD => by
  have hlen := hp.length
  refine lc_it (walk_values (d := d) (o := od) (kvs := kvs)) (fun i H' => Ex H1 H' ∧ ∃ ys, H' Dl = some (.lst ys) ∧ ys.length = i ∧ PRF r' (F1 Dl) H' ys ((as.take i).map g)) ⟨Ex.new hD, [], upd_same, rfl, by rw [List.take_zero]; exact .nil⟩ (fun i H' _ p => p.1.k ((e.trans e1).k hd)) (fun i x H' H'' hi p y => ?_) fun H' p => ?_
  · obtain ⟨p1, ys, p2, p3, p4⟩ := p
    obtain ⟨rfl, k, hk⟩ := y
    have hia : i < as.length := by omega
    obtain ⟨kv, hkv, rb⟩ : ∃ kv, kvs[i]? = some kv ∧ Rl H kv.2 as[i] := by
      clear hk p4 p3 p2
      have : ∀ {kvs : List (Key × V)} {as : List α}, Paired (fun (kv : Key × V) a => Rl H kv.2 a) kvs as → ∀ (i : Nat) (hi : i < as.length), ∃ kv, kvs[i]? = some kv ∧ Rl H kv.2 as[i] := by
        intro kvs as hp
        induction hp with
        | nil => intro i hi; exact absurd hi (Nat.not_lt_zero _)
        | cons a t ih =>
          intro i hi
          cases i with
          | zero => exact ⟨_, rfl, a⟩
          | succ i => exact ih i (Nat.lt_of_succ_lt_succ hi)
      exact this hp i hia
    rw [hk] at hkv
    obtain rfl := Option.some.inj hkv
    have eE := (e.trans e1).trans p1
    have hmem := List.getElem_mem hia
    refine ⟨hw x, ?_⟩
    show te ((wipe σ vs).set j (some x)) H'' _
    refine he x as[i] H'' (F1 Dl) eE (fun y z => by rw [show y = Dl from z, p2]; intro w; cases w) hmem (mono eE rb) H'' (.refl H'') _ fun y H4 e4 ry => ⟨ys, e4.k p2, sz_lt (by omega), Ex.mut (p1.trans e4) hD (e4.k p2), ys ++ [y], upd_same, by rw [List.length_append, p3]; rfl, ?_⟩
    rw [take_snoc (List.getElem?_eq_getElem hia), List.map_append]
    exact pr_lst (show F1 Dl Dl from rfl) (e4.k p2) (pr_app (pr_mono e4 p4) (.cons ry .nil))
  · obtain ⟨p1, ys, p2, p3, p4⟩ := p
    refine qq _ H' (e1.trans p1) ⟨Dl, rfl, fresh_back e1 hD, ys, p2, ?_⟩
    rw [hlen, List.take_length] at p4
    exact pr_0 p4⟩
/-- all items of the lists that are the values of a locked dict -/
theorem lcVV {as : List (List α)} {vs vs1 : List Nat} {j j1 : Nat} (hp : Paired (fun (kv : Key × V) a => ∃ l, kv.2 = .ref l ∧ LR r H l a) kvs as) (h : Ev td σ H (.ref d)) (hd : H d = some (.frz od (.dK kvs))) (hz : (as.map List.length).sum ≤ 40000)
    (hw : ∀ x, wipe ((wipe σ vs).set j (some x)) vs = wipe σ vs) (hj : ∀ x, ((wipe σ vs).set j (some x))[j]? = some (some x))
    (hw1 : ∀ x y, wipe ((wipe ((wipe σ vs).set j (some x)) vs1).set j1 (some y)) vs1 = wipe ((wipe σ vs).set j (some x)) vs1)
    (hj1 : ∀ x y, ((wipe ((wipe σ vs).set j (some x)) vs1).set j1 (some y))[j1]? = some (some y)) :
    EvLR r (tLc2 (iVals td) (gName j) tYes (iList K (tVar j)) (gName j1) tYes (tVar j1) vs vs1) σ H as.flatten := fun H0 e Q qq => h H0 e _ fun H1 e1 => ⟨d, od, kvs, rfl, (e.trans e1).k hd, fun Dl hD => by
  have hlen := hp.length
  have at_ : ∀ (i : Nat) (hi : i < as.length), ∃ k l, kvs[i]? = some (k, V.ref l) ∧ LR r H l as[i] := by
    clear hz hlen hd
    have : ∀ {kvs : List (Key × V)} {as : List (List α)}, Paired (fun (kv : Key × V) a => ∃ l, kv.2 = .ref l ∧ LR r H l a) kvs as → ∀ (i : Nat) (hi : i < as.length), ∃ k l, kvs[i]? = some (k, V.ref l) ∧ LR r H l as[i] := by
      intro kvs as hp
      induction hp with
      | nil => intro i hi; exact absurd hi (Nat.not_lt_zero _)
      | @cons kv _ _ _ a t ih =>
        intro i hi
        cases i with
        | zero =>
          obtain ⟨l, h1, h2⟩ := a
          obtain ⟨k, v⟩ := kv
          obtain rfl : v = .ref l := h1
          exact ⟨k, l, rfl, h2⟩
        | succ i => exact ih i (Nat.lt_of_succ_lt_succ hi)
    exact this hp
  have tot : ∀ i, ((as.take i).flatten).length ≤ (as.map List.length).sum := fun i => by
    rw [← List.length_flatten]
    have := congrArg List.length (congrArg List.flatten (List.take_append_drop i as))
    rw [List.flatten_append, List.length_append] at this
    omega
  refine ⟨fun i m H' => m = kvs.length - i ∧ i ≤ kvs.length ∧ Ex H1 H' ∧ ∃ ys, H' Dl = some (.lst ys) ∧ PRF r (F1 Dl) H' ys (as.take i).flatten, ⟨_, rfl, Nat.zero_le _, .new hD, [], upd_same, by rw [List.take_zero]; exact .nil⟩, ?_⟩
  rintro i m H' ⟨rfl, hi, p1, ys, p2, p4⟩
  have hdH := p1.k ((e.trans e1).k hd)
  by_cases hlt : i < kvs.length
  · have hia : i < as.length := by omega
    obtain ⟨k, l, hk, hl⟩ := at_ i hia
    refine .inr ⟨⟨hdH, hlt⟩, fun H2 => Ex H1 H2 ∧ ∃ ys, H2 Dl = some (.lst ys) ∧ PRF r (F1 Dl) H2 ys (as.take (i + 1)).flatten, fun H2 p => ⟨kvs.length - (i + 1), by omega, rfl, hlt, p.1, p.2⟩, fun x H'' y => ?_⟩
    obtain ⟨rfl, k', hk'⟩ := y
    rw [hk] at hk'
    obtain ⟨rfl, rfl⟩ := Prod.mk.inj (Option.some.inj hk')
    refine ⟨hw _, ?_⟩
    have hl' : LR r H'' l as[i] := hl.mono ((e.trans e1).trans p1)
    have hl1 := hl.mono (e.trans e1)
    obtain ⟨zs, hzs, pzs⟩ := id hl'
    have hzl := pzs.length
    have hDl : l ≠ Dl := fun z => by
      obtain ⟨ws, hws, _⟩ := hl1
      rw [z, hD] at hws
      cases hws
    refine ⟨_, hj _, l, rfl, ⟨zs, sq_of hzs⟩, fun jj kk H2 => kk = zs.length - jj ∧ jj ≤ zs.length ∧ Ex H1 H2 ∧ H2 l = some (.lst zs) ∧ ∃ ys, H2 Dl = some (.lst ys) ∧ PRF r (F1 Dl) H2 ys ((as.take i).flatten ++ as[i].take jj), ⟨_, rfl, Nat.zero_le _, p1, hzs, ys, p2, by rw [List.take_zero, List.append_nil]; exact p4⟩, ?_⟩
    rintro jj kk H2 ⟨rfl, hjj, q1, q2, ys2, q3, q4⟩
    have pz2 : PRF r (F1 Dl) H2 zs as[i] := by
      obtain ⟨ws, hws, pws⟩ := hl1
      have e1 : ws = zs := by
        have := q1.k hws
        rw [q2] at this
        cases this
        rfl
      rw [← e1]
      exact pr_mono q1 (pr_away (fun x z => .inr (by rw [show x = Dl from z]; exact hD)) pws)
    by_cases hjl : jj < zs.length
    · refine .inr ⟨⟨zs, zs[jj], sq_of q2, by simp [hjl]⟩, fun H3 => Ex H1 H3 ∧ H3 l = some (.lst zs) ∧ ∃ ys, H3 Dl = some (.lst ys) ∧ PRF r (F1 Dl) H3 ys ((as.take i).flatten ++ as[i].take (jj + 1)), fun H3 p => ⟨zs.length - (jj + 1), by omega, rfl, hjl, p.1, p.2.1, p.2.2⟩, fun x H3 y => ?_⟩
      obtain ⟨rfl, y⟩ := y
      have hx := y zs (sq_of q2)
      obtain ⟨b, hb, rb⟩ := pr_get pz2 hx
      refine ⟨hw1 _ _, ?_⟩
      refine ⟨x, hj1 _ _, ys2, q3, ?_, q1.mut hD q3, ?_, ys2 ++ [x], upd_same, ?_⟩
      · have hl2 := q4.length
        rw [List.length_append, List.length_take] at hl2
        have t1 := tot (i + 1)
        rw [take_snoc (List.getElem?_eq_getElem hia), List.flatten_append, List.length_append] at t1
        have : ([as[i]] : List (List α)).flatten.length = as[i].length := by simp
        exact sz_lt (by omega)
      · rw [upd_ne hDl]
        exact q2
      · rw [take_snoc hb, ← List.append_assoc]
        exact pr_lst (show F1 Dl Dl from rfl) q3 (pr_app q4 (.cons rb .nil))
    · have ej : jj = zs.length := by omega
      subst ej
      refine .inl ⟨⟨zs, sq_of q2, Nat.le_refl _⟩, q1, ys2, q3, ?_⟩
      rw [take_snoc (List.getElem?_eq_getElem hia), List.flatten_append]
      rw [hzl, List.take_length] at q4
      simpa using q4
  · have ei : i = kvs.length := by omega
    subst ei
    refine .inl ⟨⟨hdH, Nat.le_refl _⟩, qq _ H' (e1.trans p1) ⟨Dl, rfl, fresh_back e1 hD, ys, p2, ?_⟩⟩
    rw [hlen, List.take_length] at p4
    exact pr_0 p4⟩
end

end
section
/-! ### what is written of a store, sign by sign -/
section
open SX
def numZ (i : Int) : List Nat := if 0 ≤ i then TL.numL i.toNat else 45 :: TL.numL i.natAbs
theorem numZ_S (i : Int) : Str.ofString (toString i) = S (numZ i) := by
  unfold numZ
  rcases i with n | n
  · rw [if_pos (show (0 : Int) ≤ Int.ofNat n from Int.natCast_nonneg n)]
    exact num_S n
  · rw [if_neg (by exact Int.not_le.mpr (Int.negSucc_lt_zero n))]
    refine TL.ext_tl ?_
    have e : (toString (Int.negSucc n) : String) = "-" ++ toString (((n + 1 : Nat)) : Int) := rfl
    rw [e, TL.tl_ofString, String.toList_append, List.map_append]
    have := TL.tl_num (n + 1)
    rw [TL.tl_ofString] at this
    rw [this]
    rfl
theorem numZ_ne (i : Int) : numZ i ≠ [] := by
  unfold numZ
  split
  · exact TL.numL_ne _
  · exact List.cons_ne_nil _ _
theorem numZ_free {i : Int} {s : Nat} (h : s < 45 ∨ 57 < s) : s ∉ numZ i := by
  unfold numZ
  split
  · exact TL.numL_free (by omega)
  · intro hm
    rcases List.mem_cons.mp hm with e | e
    · omega
    · exact TL.numL_free (by omega) e
theorem numZ_len {i : Int} {k : Nat} (hk : 0 < k) (h : i.natAbs < 10 ^ k) : (numZ i).length ≤ k + 1 := by
  unfold numZ
  split
  · have := TL.numL_len (n := i.toNat) hk (by have : i.toNat = i.natAbs := by omega
                                              rw [this]; exact h)
    omega
  · have := TL.numL_len (n := i.natAbs) hk h
    rw [List.length_cons]
    omega
def figs (i : Int) : List Nat := TL.numL i.natAbs
theorem rmp_hit (p q : List Nat) : Txt.removeprefix (S (p ++ q)) (S p) = S q := by
  rw [StrLaws.removeprefix_eq, StrLaws.subAt_eq]
  have e1 : (S (p ++ q)).length = p.length + q.length := by rw [S_len, List.length_append]
  have e2 : (S p).length = p.length := S_len p
  have e3 : (S (p ++ q)).cps.toList = p ++ q := rfl
  have e4 : (S p).cps.toList = p := rfl
  rw [e1, e2, e3, e4, List.drop_zero, List.take_left, List.drop_left, decide_eq_true (by omega), beq_self_eq_true, Bool.and_self, if_pos rfl, show p.length + q.length - p.length = q.length by omega, List.take_length]
theorem rmp_miss {p x : List Nat} (h : x.take p.length ≠ p) : Txt.removeprefix (S x) (S p) = S x := by
  rw [StrLaws.removeprefix_eq, StrLaws.subAt_eq]
  have e2 : (S p).length = p.length := S_len p
  have e3 : (S x).cps.toList = x := rfl
  have e4 : (S p).cps.toList = p := rfl
  rw [e2, e3, e4, List.drop_zero, beq_eq_false_iff_ne.mpr h, Bool.and_false, if_neg (by decide)]
theorem rmp_num (i : Int) : Txt.removeprefix (S (numZ i)) (S [45]) = S (TL.numL i.natAbs) := by
  unfold numZ
  split
  · have hz : i.toNat = i.natAbs := by omega
    rw [hz]
    refine rmp_miss fun e => ?_
    have : (45 : Nat) ∈ TL.numL i.natAbs := by
      refine List.mem_of_mem_take (i := 1) ?_
      show 45 ∈ (TL.numL i.natAbs).take ([45] : List Nat).length
      rw [e]
      exact List.mem_cons_self
    exact TL.numL_free (by omega) this
  · exact rmp_hit [45] _
theorem isdec_num (n : Nat) : Txt.isdecimal (S (TL.numL n)) = true := by
  unfold Txt.isdecimal
  have h1 : (S (TL.numL n)).length > 0 := by
    rw [S_len]
    exact List.length_pos_iff.mpr (TL.numL_ne n)
  rw [decide_eq_true h1, Bool.true_and, ← Array.all_toList]
  refine List.all_eq_true.mpr fun c hc => ?_
  have h2 := TL.numL_digits n c hc
  have key : ∀ c, 48 ≤ c → c ≤ 57 → Unicode.isDecimal c = true := by
    intro c a b
    rw [PyProof.Rows.cls_isdecimal c (by omega)]
    have : ∀ d, d < 10 → PyProof.Rows.inR 48 57 ⟨#[48 + d]⟩ = true := by decide +kernel
    have := this (c - 48) (by omega)
    rw [show 48 + (c - 48) = c by omega] at this
    exact this
  exact key c h2.1 h2.2
theorem int_numZ {i : Int} (h : i.natAbs < 10 ^ 60) : PySem.intText? (S (numZ i)) = some i := by
  have hl := TL.numL_len (n := i.natAbs) (k := 60) (by decide) h
  unfold numZ
  split
  · rename_i h0
    have hz : i.toNat = i.natAbs := by omega
    rw [hz]
    have := PySem.intText_digits (x := S (TL.numL i.natAbs)) (TL.numL_digits _) (TL.numL_ne _) (by rw [S_len]; omega)
    rw [this]
    have e : (S (TL.numL i.natAbs)).cps.toList = TL.numL i.natAbs := rfl
    rw [e, TL.numL_val]
    congr 1
    omega
  · rename_i h0
    have := PySem.intText_neg (x := S (45 :: TL.numL i.natAbs)) (cs := TL.numL i.natAbs) rfl (TL.numL_digits _) (TL.numL_ne _) (by rw [S_len, List.length_cons]; omega)
    rw [this, TL.numL_val]
    congr 1
    omega
/-! ### words, rows, the text -/
abbrev VB (ps : List (Int × Int)) : Prop := ∀ p ∈ ps, p.2.natAbs < 10 ^ 60
def word0 (p : Int × Int) : List Nat := numZ p.1 ++ 61 :: numZ p.2
def wordL (p : Int × Int) : List Nat := 32 :: word0 p
def rowL (c : Code) (qs : List (Int × Int)) : List Nat := bl c.1 c.2 ++ 58 :: qs.flatMap wordL
def boundL : List Nat := [98, 111, 117, 110, 100, 32]
def linesL (b : Nat) (rs : List (Code × List (Int × Int))) : List (List Nat) := (boundL ++ numZ b) :: rs.map fun r => rowL r.1 r.2
def textL (b : Nat) (rs : List (Code × List (Int × Int))) : List Nat := TL.joinL [10] (linesL b rs)
theorem joinL_cons (s x : List Nat) (xs : List (List Nat)) : TL.joinL s (x :: xs) = x ++ xs.flatMap fun y => s ++ y := by
  induction xs generalizing x with
  | nil => rw [List.flatMap_nil, List.append_nil]; rfl
  | cons y ys ih =>
    have : TL.joinL s (x :: y :: ys) = x ++ (s ++ TL.joinL s (y :: ys)) := rfl
    rw [this, ih, List.flatMap_cons, List.append_assoc]
theorem joinL_nil : ∀ xs : List (List Nat), TL.joinL [] xs = xs.flatten
  | [] => rfl
  | x :: xs => by
    rw [joinL_cons, List.flatten_cons, List.flatMap_def]
    congr 2
    simp
theorem bl_free {l k s : Nat} (h : s < 48 ∨ 49 < s) : s ∉ bl l k := fun hm => by
  unfold bl at hm
  obtain ⟨t, _, e⟩ := List.mem_map.mp hm
  have := Nat.mod_lt (k / 2 ^ (l - 1 - t)) (by decide : 0 < 2)
  omega
theorem word0_free {p : Int × Int} {s : Nat} (h : s < 45 ∨ 61 < s) : s ∉ word0 p := fun hm => by
  rcases List.mem_append.mp hm with e | e
  · exact numZ_free (by omega) e
  · rcases List.mem_cons.mp e with e | e
    · omega
    · exact numZ_free (by omega) e
theorem rowL_free {c : Code} {qs : List (Int × Int)} : 10 ∉ rowL c qs := fun hm => by
  rcases List.mem_append.mp hm with e | e
  · exact bl_free (by omega) e
  · rcases List.mem_cons.mp e with e | e
    · omega
    · obtain ⟨p, _, e⟩ := List.mem_flatMap.mp e
      rcases List.mem_cons.mp e with e | e
      · omega
      · exact word0_free (by omega) e
theorem lines_free {b : Nat} {rs : List (Code × List (Int × Int))} : ∀ x ∈ linesL b rs, 10 ∉ x := fun x hx hm => by
  rcases List.mem_cons.mp hx with rfl | hx
  · rcases List.mem_append.mp hm with e | e
    · exact absurd e (by decide)
    · exact numZ_free (by omega) e
  · obtain ⟨r, _, rfl⟩ := List.mem_map.mp hx
    exact rowL_free hm
theorem split_text (b : Nat) (rs : List (Code × List (Int × Int))) : Txt.split (S (textL b rs)) (S [10]) = (linesL b rs).map S := by
  rw [split_S (by decide) (by decide)]
  congr 1
  exact spl_join (List.cons_ne_nil _ _) lines_free
theorem rowL_join (c : Code) (qs : List (Int × Int)) : rowL c qs = TL.joinL [32] ((bl c.1 c.2 ++ [58]) :: qs.map word0) := by
  rw [joinL_cons]
  unfold rowL
  rw [List.append_assoc, List.flatMap_map]
  rfl
theorem split_row (c : Code) (qs : List (Int × Int)) : Txt.split (S (rowL c qs)) (S [32]) = S (bl c.1 c.2 ++ [58]) :: (qs.map word0).map S := by
  rw [split_S (by decide) (by decide), rowL_join]
  have := spl_join (c := 32) (sep := []) (parts := (bl c.1 c.2 ++ [58]) :: qs.map word0) (List.cons_ne_nil _ _) (by
    intro x hx hm
    rcases List.mem_cons.mp hx with rfl | hx
    · rcases List.mem_append.mp hm with e | e
      · exact bl_free (by omega) e
      · exact absurd e (by decide)
    · obtain ⟨p, _, rfl⟩ := List.mem_map.mp hx
      exact word0_free (by omega) hm)
  rw [this]
  rfl
theorem part_word (p : Int × Int) : Txt.partition (S (word0 p)) (S [61]) = (S (numZ p.1), S [61], S (numZ p.2)) :=
  partition_some (by decide) (par_head (c := 61) (sep := []) (numZ p.2) (numZ_free (by omega)))
/-! ### how long they are -/
theorem word0_len {p : Int × Int} (h1 : 0 ≤ p.1 ∧ p.1 < 256) (h2 : p.2.natAbs < 10 ^ 60) : (word0 p).length ≤ 66 := by
  unfold word0
  rw [List.length_append, List.length_cons]
  have a := numZ_len (i := p.1) (k := 3) (by decide) (by omega)
  have b := numZ_len (i := p.2) (k := 60) (by decide) h2
  omega
theorem flat_len {α : Type} (f : α → List Nat) (n : Nat) : ∀ (l : List α), (∀ a ∈ l, (f a).length ≤ n) → (l.flatMap f).length ≤ n * l.length
  | [], _ => Nat.zero_le _
  | a :: l, h => by
    rw [List.flatMap_cons, List.length_append, List.length_cons, Nat.mul_succ]
    have := flat_len f n l fun x hx => h x (List.mem_cons_of_mem _ hx)
    have := h a List.mem_cons_self
    omega
theorem rowL_len {c : Code} {qs : List (Int × Int)} (hc : c.1 ≤ 8) (hn : Names qs) (hv : VB qs) : (rowL c qs).length ≤ 17200 := by
  unfold rowL
  rw [List.length_append, List.length_cons, bl_len]
  have := flat_len wordL 67 qs (fun p hp => by
    unfold wordL
    rw [List.length_cons]
    have := word0_len (hn.all p hp) (hv p hp)
    omega)
  have := hn.len
  omega
theorem textL_len {b : Nat} {rs : List (Code × List (Int × Int))} (hb : b ≤ 64) (hr : ∀ r ∈ rs, (rowL r.1 r.2).length ≤ 17200) (hn : rs.length ≤ 256) : (textL b rs).length ≤ 4500000 := by
  unfold textL linesL
  rw [joinL_cons, List.length_append, List.length_append]
  have a := numZ_len (i := (b : Int)) (k := 3) (by decide) (by omega)
  have e := flat_len (fun y => ([10] : List Nat) ++ y) 17201 (rs.map fun r => rowL r.1 r.2) (fun y hy => by
    obtain ⟨r, h, rfl⟩ := List.mem_map.mp hy
    rw [List.length_append]
    have := hr r h
    have : ([10] : List Nat).length = 1 := rfl
    omega)
  rw [List.length_map] at e
  have : boundL.length = 6 := rfl
  omega
end

end
section
/-! ### a comprehension while an exception is handled -/
section
variable {X : Cx}
theorem ok_pn {p : Addr × Obj} (o : X.Ok) : ({ X with pn := [p] } : Cx).Ok := ⟨o.mod, o.kind, o.glob, o.blt, o.above, o.inj, o.has, o.cab, o.hd, o.frames, o.stk, o.exf, o.bs, o.bsz, o.noex, o.exfs, o.funs, o.frf⟩
theorem ok_np {pn : List (Addr × Obj)} (o : ({ X with pn := pn } : Cx).Ok) : X.Ok := ⟨o.mod, o.kind, o.glob, o.blt, o.above, o.inj, o.has, o.cab, o.hd, o.frames, o.stk, o.exf, o.bs, o.bsz, o.noex, o.exfs, o.funs, o.frf⟩
theorem inv_pn {p : Addr × Obj} {σ : L2.St} {H : Hp} {s : Shared} (I : L2.Inv X [] σ H s) (hp : s.heap.get? p.1 = some p.2) (hH : H p.1 = none) (hl : p.1 ≠ X.env.locals) (hf : p.1 ∉ X.fs) (hd : ∀ v, p.2.data ≠ Data.cell v) : L2.Inv ({ X with pn := [p] } : Cx) [] σ H s :=
  ⟨ok_pn I.ok, I.os, I.bare, I.base, I.loc, I.cell, I.free, I.freeC, fun q hq => by
    obtain rfl : q = p := by simpa using hq
    exact ⟨hp, hH, hl, hf, hd⟩, I.hok, I.len⟩
theorem inv_np {pn : List (Addr × Obj)} {σ : L2.St} {H : Hp} {s : Shared} (h0 : X.pn = []) (I : L2.Inv ({ X with pn := pn } : Cx) [] σ H s) : L2.Inv X [] σ H s :=
  ⟨ok_np I.ok, I.os, I.bare, I.base, I.loc, I.cell, I.free, I.freeC, fun q hq => by simp [h0] at hq, I.hok, I.len⟩
open PySem.Spec PyProof.Rows in
set_option maxHeartbeats 4000000 in
theorem lcH_core {pins : List (Addr × Obj)} {s : Shared} {σ : L2.St} {H : Hp} {Q : VK} {use : Option (Value → Sem Unit)} {Qf : Value → Shared → Prop} {pos' : Pos} {elt tg iter : Expr} {ifs : List Expr} {scope : Scope} {own : List (Str × Nat)} {pos : Pos} {wi : TI} {g : TG} {tt : TT} {te : TE} (hc : L2H.HotC X) (hN : X.N.Nodup) (hi : L2H.PIH X tg iter wi) (ok : BlkOk X.N X.env.scope scope own)
    (hg : ∀ (s : Shared) (H : Hp) (C : Addr) (cl : List (Str × Addr)) (fp : List Addr), PG (X.blk s H scope (compEnvC scope cl C X.env) fp) tg g)
    (ht : ∀ (s : Shared) (H : Hp) (C : Addr) (cl : List (Str × Addr)) (fp : List Addr), PTs (X.blk s H scope (compEnvC scope cl C X.env) fp) ifs tt)
    (he : ∀ (s : Shared) (H : Hp) (C : Addr) (cl : List (Str × Addr)) (fp : List Addr), PE (X.blk s H scope (compEnvC scope cl C X.env) fp) elt te)
    (hs : ∀ x : Value, foldedSetIterable iter X.env x = pure x) (I : L2.Inv X pins σ H s) (h : tLc wi g tt te (own.map fun x => x.2) σ H Q)
    (fin0 : ∀ (L C : Addr) (s' : Shared) (m : Str → Option Value) (H' : Hp), L2.Inv X pins σ H' s' → Q (.ref L) H' → s'.heap.Ns C m → FpOk X pins H' C → compPost (model X.prog X.w) X.A X.xe use Qf (.ref L) C (.ok .next) s') :
    wpAny (model X.prog X.w) X.A (comprehension (.ListComp elt [⟨tg, iter, ifs, 0⟩] scope pos) scope X.env pos' (newList []) false (eval iter X.env) use) Qf X.xe s := by
  obtain ⟨p, ⟨hh, vs, hd, hv⟩, hpm⟩ := hc
  have hfree : ∀ y ∈ scope.names, y.2 = .free → ∃ c, X.env.cells.lookup y.1 = some c := fun y hy e => (ok.free y hy e).elim (fun k => I.ok.has y.1 (.inl k)) fun k => I.ok.has y.1 (.inr k)
  refine wpAny_comprehension_free (use := use) rfl hs (closure_ok hfree) ok.kind (fun y hy e => by rw [ok.uniq y hy, e]) (thn (hi.run pins s σ H _ I h) fun xv s1 hx => thn hx fun itv s2 h2 => ?_)
  obtain ⟨it, fp, tn, J, H2, rfl, I2, T, st2, f2, q⟩ := h2
  refine wpAny_newObj_type (newEnv_comp ?_) (show (0 : Nat) ≤ sizeLine from Nat.zero_le _)
  have hDn : H2 s2.heap.objs.size = none := I2.hok.fresh (Nat.le_refl _)
  obtain ⟨W, ⟨m0, w0⟩, turn⟩ := q s2.heap.objs.size hDn
  have I3 : L2.Inv X pins σ (upd H2 s2.heap.objs.size (.lst [])) { s2 with heap := s2.heap.push { cls := .type "list", data := .seq #[] } } :=
    Inv.laid I2 (fun b o e => Heap.get?_push_of_some _ e) (Nat.le_refl _) ⟨Nat.zero_le _, [], 0, Paired.nil, Heap.get?_push_size _ rfl⟩
  have sz : ∀ b ∈ fp, b < s2.heap.objs.size := fun b hb => by
    obtain ⟨o, e, _⟩ := T.obj 0 s2.heap st2 b hb
    exact Heap.lt_size e
  have st3 : tn 0 (s2.heap.push { cls := .type "list", data := .seq #[] }) := T.keep 0 s2.heap _ st2 fun b _ o e => Heap.get?_push_of_some _ e
  have f3 : ∀ b ∈ fp, FpOk X pins (upd H2 s2.heap.objs.size (.lst [])) b ∧ b < (s2.heap.push { cls := .type "list", data := .seq #[] }).objs.size := fun b hb => by
    refine ⟨⟨?_, (f2 b hb).2⟩, ?_⟩
    · rw [upd_ne (Nat.ne_of_lt (sz b hb))]
      exact (f2 b hb).1
    · rw [Heap.size_push]
      exact Nat.lt_succ_of_lt (sz b hb)
  generalize hD : s2.heap.objs.size = D at *
  generalize hS : ({ s2 with heap := s2.heap.push { cls := .type "list", data := .seq #[] } } : Shared) = s3 at I3
  have hh3 : s2.heap.push { cls := .type "list", data := .seq #[] } = s3.heap := by rw [← hS]
  rw [hh3] at st3 f3
  generalize upd H2 D (.lst []) = H3 at I3 f3 w0
  have I4 := block_start I3 ok hN f3
  have pg := hg s3 H3 s3.heap.objs.size (cellsFrom (s3.heap.objs.size + 1) scope.names (cloFrom X.env.cells scope.names [])) fp
  have pt := ht s3 H3 s3.heap.objs.size (cellsFrom (s3.heap.objs.size + 1) scope.names (cloFrom X.env.cells scope.names [])) fp
  have pe := he s3 H3 s3.heap.objs.size (cellsFrom (s3.heap.objs.size + 1) scope.names (cloFrom X.env.cells scope.names [])) fp
  have nfp : ∀ b ∈ fp, H3 b = none := fun b hb => (f3 b hb).1.1
  have st4 : tn 0 (pushCells (s3.heap.push { cls := .type "dict", data := .dict #[] }) scope.names) := T.keep 0 s3.heap _ st3 fun b _ o e => pushCells_keeps scope.names _ b o (Heap.get?_push_of_some _ e)
  have cL : (compEnvC scope (cellsFrom (s3.heap.objs.size + 1) scope.names (cloFrom X.env.cells scope.names [])) s3.heap.objs.size X.env).locals = s3.heap.objs.size := rfl
  obtain ⟨pg3, pH3, pl3, pf3, pd3⟩ := I3.pin p (List.mem_append_left _ hpm)
  have pfp : p.1 ∉ fp := fun hb => (f3 p.1 hb).1.2.2.2.2.2 p (List.mem_append_left _ hpm) rfl
  have pfr : p.1 ∉ frs X.stack := by
    rcases I3.ok.stk with e | ⟨e, e2⟩
    · rw [e]
      exact pf3
    · rw [e]
      intro hb
      unfold frs at hb
      rw [List.filterMap_cons, e2] at hb
      rcases List.mem_cons.mp hb with z | z
      · exact pl3 z
      · exact pf3 z
  generalize hce : compEnvC scope (cellsFrom (s3.heap.objs.size + 1) scope.names (cloFrom X.env.cells scope.names [])) s3.heap.objs.size X.env = ce at I4 pg pt pe cL
  have hotb : ∀ {σ5 : L2.St} {H5 : Hp} {s5 : Shared}, L2.Inv (X.blk s3 H3 scope ce fp) [] σ5 H5 s5 → L2.Inv ({ X.blk s3 H3 scope ce fp with pn := [p] } : Cx) [] σ5 H5 s5 := fun {σ5 H5 s5} I5 => by
    have g5 := I5.base.keep p.1 p.2 pg3 pH3 pfr pfp
    exact inv_pn I5 g5 (I5.base.free p.1 p.2 pg3 pH3 pfp) (by
      show p.1 ≠ ce.locals
      rw [cL]
      exact Nat.ne_of_lt (Heap.lt_size pg3)) pfr pd3
  have hotc : L2H.HotC ({ X.blk s3 H3 scope ce fp with pn := [p] } : Cx) := ⟨p, ⟨hh, vs, hd, hv⟩, List.mem_singleton.mpr rfl⟩
  have stat : ∀ {σ' : L2.St} {H' : Hp} {s' : Shared}, L2.Inv (X.blk s3 H3 scope ce fp) [] σ' H' s' → (∀ b ∈ fp, H' b = none) → ∀ b ∈ fp, FpOk (X.blk s3 H3 scope ce fp) [] H' b := fun {σ' H' s'} I' hn b hb =>
    ⟨hn b hb, (I'.ok.exf b hb).1, I'.ok.exfs b hb, .inl hb, fun x c e => (I'.ok.exf b hb).2 x c e, fun q hq => by simp at hq⟩
  have statP : ∀ {σ' : L2.St} {H' : Hp} {s' : Shared}, L2.Inv (X.blk s3 H3 scope ce fp) [] σ' H' s' → (∀ b ∈ fp, H' b = none) → ∀ b ∈ fp, FpOk ({ X.blk s3 H3 scope ce fp with pn := [p] } : Cx) [] H' b := fun {σ' H' s'} I' hn b hb =>
    ⟨hn b hb, (I'.ok.exf b hb).1, I'.ok.exfs b hb, .inl hb, fun x c e => (I'.ok.exf b hb).2 x c e, fun q hq => by
      obtain rfl : q = p := by simpa using hq
      exact fun z => pfp (z ▸ hb)⟩
  have loop : codeAny (model X.prog X.w) X.A (.compLoop (.ListComp elt [⟨tg, iter, ifs, 0⟩] scope pos) 0 (.ref it) (.ref D) ce) (compPost (model X.prog X.w) X.A X.xe use Qf (.ref D) s3.heap.objs.size) { s3 with heap := pushCells (s3.heap.push { cls := .type "dict", data := .dict #[] }) scope.names } := by
    refine compLoop_any (fun n s' => ∃ i H', L2.Inv (X.blk s3 H3 scope ce fp) [] (wipe σ (own.map fun x => x.2)) H' s' ∧ tn i s'.heap ∧ (∀ b ∈ fp, H' b = none) ∧ W i n H') ?_ m0 ⟨0, H3, I4, st4, nfp, w0⟩
    rintro n s5 ⟨i, H5, I5, st5, n5, w5⟩
    rcases turn i n H5 w5 with ⟨stop, qq⟩ | ⟨go, Nx, hNx, step⟩
    · refine thnF (T.done ({ X.blk s3 H3 scope ce fp with pn := [p] } : Cx) rfl rfl rfl hotc i [] s5 _ H5 (fun _ _ => False) (hotb I5) (statP I5 n5) st5 stop) ?_
      rintro r s6 ⟨rfl, I6p⟩
      have I6 : L2.Inv (X.blk s3 H3 scope ce fp) [] (wipe σ (own.map fun x => x.2)) H5 s6 := inv_np rfl I6p
      have I7 : L2.Inv X pins σ H5 s6 := Inv.call' I3 I6.os I6.base I6.hok I6.bare fun b hb => ⟨(f3 b hb).1.2.2.2.1, (f3 b hb).1.2.1, (f3 b hb).1.2.2.2.2.1, (f3 b hb).1.2.2.2.2.2⟩
      have nC : H5 s3.heap.objs.size = none := cL ▸ I6.free
      obtain ⟨m, hn, _⟩ := I6.loc
      have hn' : s6.heap.Ns s3.heap.objs.size m := cL ▸ hn
      exact fin0 D s3.heap.objs.size s6 m H5 I7 qq hn' (Inv.fpOk (H' := H5) I3 (Nat.le_refl s3.heap.objs.size) nC)
    · refine thnF (T.item ({ X.blk s3 H3 scope ce fp with pn := [p] } : Cx) rfl rfl rfl hotc i [] s5 _ H5 (fun _ _ => False) (hotb I5) (statP I5 n5) st5 go) ?_
      rintro r s6 ⟨u, rfl, h6⟩
      refine thnF h6 ?_
      rintro _ s7 ⟨x, H7, I7p, r7, y7, st7, n7⟩
      have I7 : L2.Inv (X.blk s3 H3 scope ce fp) [] (wipe σ (own.map fun x => x.2)) H7 s7 := inv_np rfl I7p
      have I7' := Inv.pinned I7 (stat I7 n7) (T.obj (i + 1) s7.heap st7)
      refine thnF (pg.run ([] ++ pinsAt fp s7.heap) s7 _ H7 x u _ I7' r7 (step x H7 y7)) ?_
      rintro _ s8 ⟨σ8, H8, I8, hw8, q8⟩
      refine thnF (pt.run ([] ++ pinsAt fp s7.heap) s8 σ8 H8 _ I8 q8) ?_
      rintro b s9 ⟨H9, I9, q9⟩
      have fin : ∀ {s' : Shared} {H' : Hp}, L2.Inv (X.blk s3 H3 scope ce fp) ([] ++ pinsAt fp s7.heap) σ8 H' s' → Nx H' → ∃ m, m < n ∧ ∃ i H', L2.Inv (X.blk s3 H3 scope ce fp) [] (wipe σ (own.map fun x => x.2)) H' s' ∧ tn i s'.heap ∧ (∀ b ∈ fp, H' b = none) ∧ W i m H' := fun {s' H'} I' nx => by
        obtain ⟨m', hm, w'⟩ := hNx H' nx
        have pin' : ∀ b ∈ fp, ∀ o, s7.heap.get? b = some o → s'.heap.get? b = some o ∧ H' b = none := fun b hb o e => by
          obtain ⟨z1, z2, _⟩ := I'.pin (b, o) (List.mem_append_right _ (List.mem_append_right [] (mem_pinsAt hb e)))
          exact ⟨z1, z2⟩
        refine ⟨m', hm, i + 1, H', Inv.weak (Inv.unpinned I') (by rw [← hw8, wipe_length]) fun j v e => ?_, T.keep (i + 1) s7.heap s'.heap st7 fun b hb o e => (pin' b hb o e).1, fun b hb => ?_, w'⟩
        · rw [← hw8] at e
          exact (wipe_some e).1
        · obtain ⟨o, e, _⟩ := T.obj (i + 1) s7.heap st7 b hb
          exact (pin' b hb o e).2
      cases b with
      | false => exact fin I9 q9
      | true =>
        refine thnF (pe.run ([] ++ pinsAt fp s7.heap) s9 σ8 H9 _ I9 q9) ?_
        rintro z s10 ⟨yv, H10, I10, r10, acc, hD10, hz10, nx⟩
        exact app_ok (X := X.blk s3 H3 scope ce fp) I10 hD10 hz10 r10 fun s11 I11 => fin I11 nx
  have done := codeAny_compStart_list loop (T.self X.A 0 _ _ _ st4 loop)
  subst hce hS hD
  exact done
open PySem.Spec PyProof.Rows in
set_option maxHeartbeats 2000000 in
theorem pe_lcH {elt tg iter : Expr} {ifs : List Expr} {scope : Scope} {own : List (Str × Nat)} {pos : Pos} {wi : TI} {g : TG} {tt : TT} {te : TE} (hc : L2H.HotC X) (hN : X.N.Nodup) (hi : L2H.PIH X tg iter wi) (ok : BlkOk X.N X.env.scope scope own)
    (hg : ∀ (s : Shared) (H : Hp) (C : Addr) (cl : List (Str × Addr)) (fp : List Addr), PG (X.blk s H scope (compEnvC scope cl C X.env) fp) tg g)
    (ht : ∀ (s : Shared) (H : Hp) (C : Addr) (cl : List (Str × Addr)) (fp : List Addr), PTs (X.blk s H scope (compEnvC scope cl C X.env) fp) ifs tt)
    (he : ∀ (s : Shared) (H : Hp) (C : Addr) (cl : List (Str × Addr)) (fp : List Addr), PE (X.blk s H scope (compEnvC scope cl C X.env) fp) elt te)
    (hs : ∀ x : Value, foldedSetIterable iter X.env x = pure x := by intro _; rfl) :
    PE X (.ListComp elt [⟨tg, iter, ifs, 0⟩] scope pos) (tLc wi g tt te (own.map fun x => x.2)) := by
  refine ⟨fun pins s σ H Q I h => ?_⟩
  rw [eval_ListComp]
  refine lcH_core hc hN hi ok hg ht he hs I h fun L C s' m H' I' q hn ⟨z0, z1, _, z3, z4, z5⟩ => ⟨m, hn, fun h2 sb => ?_⟩
  exact ⟨.ref L, H', Inv.turned (t' := s'.toks) I' (fun b o hb e => (sb.right b hb).trans e) z0 z1 z3 z4 z5, rfl, q⟩
open PySem.Spec PyProof.Rows in
set_option maxHeartbeats 2000000 in
theorem ps_setLcH {i : Nat} {y : Str} {py : Pos} {elt tg iter : Expr} {ifs : List Expr} {scope : Scope} {own : List (Str × Nat)} {pos spos : Pos} {wi : TI} {g : TG} {tt : TT} {te : TE} (hc : L2H.HotC X) (hN : X.N.Nodup) (hy : X.N[i]? = some y) (hyl : X.env.scope.names.lookup y = some .local)
    (hsw : swapsWith (.ListComp elt [⟨tg, iter, ifs, 0⟩] scope pos) (some (.Name y py)) spos.line X.env = pure true) (hi : L2H.PIH X tg iter wi) (ok : BlkOk X.N X.env.scope scope own)
    (hg : ∀ (s : Shared) (H : Hp) (C : Addr) (cl : List (Str × Addr)) (fp : List Addr), PG (X.blk s H scope (compEnvC scope cl C X.env) fp) tg g)
    (ht : ∀ (s : Shared) (H : Hp) (C : Addr) (cl : List (Str × Addr)) (fp : List Addr), PTs (X.blk s H scope (compEnvC scope cl C X.env) fp) ifs tt)
    (he : ∀ (s : Shared) (H : Hp) (C : Addr) (cl : List (Str × Addr)) (fp : List Addr), PE (X.blk s H scope (compEnvC scope cl C X.env) fp) elt te)
    (hs : ∀ x : Value, foldedSetIterable iter X.env x = pure x := by intro _; rfl) :
    PS X (.Assign [.Name y py] (.ListComp elt [⟨tg, iter, ifs, 0⟩] scope pos) spos) (tAsg (tLc wi g tt te (own.map fun x => x.2)) (gName i)) := by
  refine ⟨fun pins s σ H D I h => ?_⟩
  rw [exec_Assign_Name_used _ _ _ _ hsw]
  refine wpAny_bind (wpAny_standAt (wpAny_bind (wpAny_bind ?_)))
  refine thn (lcH_core (Q := fun x H1 => gName i x σ H1 D.nx) (use := some (assign (.Name y py) X.env)) (pos' := firstIterPos [⟨tg, iter, ifs, 0⟩] pos) (Qf := fun _ s' => SP X pins D .next s') hc hN hi ok hg ht he hs I h fun L C s' m H' I' q hn ⟨z0, z1, z2, z3, z4, z5⟩ => ?_) fun _ s' hq => wpAny_pure (wpAny_pure hq)
  refine wpAny_assign_Name (store_ok2 (v := V.ref L) I' hN hy (.inl hyl) rfl (fun s2 I2 ⟨a, sb, ha⟩ => ?_) (.inr hyl))
  have ne : C ≠ a := ha.elim (fun z => by rw [z]; exact z1) fun z e => z4 y a z e.symm
  exact ⟨m, hn.sameBut sb ne, fun h3 sb3 => ⟨_, H', Inv.turned (t' := s2.toks) I2 (fun b o hb e => (sb3.right b hb).trans e) z0 z1 z3 z4 z5, q⟩⟩
open PySem.Spec PyProof.Rows HotX in
set_option maxHeartbeats 2000000 in
theorem next_list_hot {prog : Program} {w : World} {A : Around} {E : Value → Shared → Prop} {s : Shared} {it l p : Addr} {i : Nat} {its : Array Value} {Q : Option Value → Shared → Prop} (hot : HotAt A p s.heap) (hne : p ≠ it) (hit : s.heap.IsListIter it l i) (hl : s.heap.IsList l its) (hx : its[i]? = none)
    (hQ : ∀ h', Heap.ExtBut it s.heap h' → Q none { s with heap := h' }) : wpAny (model prog w) A (pyNext (.ref it)) Q E s := by
  obtain ⟨hh, o1, v1, h1, d1, c1⟩ := hot
  obtain ⟨oi, hoi, ci, di⟩ := id hit
  obtain ⟨ol, hol, _, nl, dl⟩ := hl
  unfold pyNext
  refine wpAny_bind (wpAny_attempt (wpAny_callSpecial?_slot (name := Str.ofString "__next__") (Heap.IsListIter.typeIs hit) slot_listiter_next (wpAny_call_entry slot_listiter_next (Heap.IsListIter.typeIs hit) entry_listiter_next ?_ (args_listiter_next _))))
  show wpAny _ _ (field (Value.ref it) 0 >>= _) _ _ s
  refine wpAny_bind (wpAny_field hoi di (x := Value.ref l) rfl ?_)
  show wpAny _ _ (if (Value.ref l == .none) = true then _ else _) _ _ s
  rw [if_neg (show ¬ (Value.ref l == .none) = true from Bool.false_ne_true)]
  show wpAny _ _ (field (Value.ref it) 1 >>= _) _ _ s
  refine wpAny_bind (wpAny_field hoi di (x := Value.int i 0) rfl (show wpAny _ _ (seqItems? (Value.ref l) >>= _) _ _ s from wpAny_bind (wpAny_seqItems hol dl ?_)))
  simp only [hx, Int.toNat_natCast]
  refine wpAny_bind (wpAny_rule (wpAny_bind (wpAny_setField hoi di (by simp) (show wpAny _ _ (newExc (.type "StopIteration") [] >>= _) _ _ _ from wpAny_bind ?_))))
  simp only [newTuple, newExc]
  refine wpAny_bind (wpAny_newObj_type (wpAny_bind (m := firstArgMember _ _) (wpAny_of_eq (a := Value.none) (by first | rfl | (simp only [firstArgMember]; rfl)) (wpAny_newObj_type ?_ (by size_fits)))) (by size_fits))
  have g1 := (Heap.get?_update_other (f := Obj.mapFields (·.setIfInBounds 0 .none)) s.heap (Ne.symm hne)).trans h1
  refine raiseNew_hot ⟨hh, o1, v1, Heap.get?_push_of_some _ (Heap.get?_push_of_some _ ?_), d1, c1⟩ ?_ (Heap.get?_push_size _ rfl) rfl (by first | (simp; done) | (simp; omega) | (simp only [Array.size_append]; simp; omega)) ?_
  · exact g1
  · exact Nat.ne_of_lt (Heap.lt_size (Heap.get?_push_of_some _ g1))
  · refine wpAny_bind (wpAny_isInstance (T := "StopIteration") (b := true) ⟨_, Heap.get?_update_self _ (Heap.get?_push_size _ rfl) rfl, rfl⟩ isSubtype_stop (wpAny_pure (hQ _ fun b o hb e => ?_)))
    have e2 := Heap.get?_push_of_some { cls := .type "tuple", data := .seq #[] } ((Heap.get?_update_other (f := Obj.mapFields (·.setIfInBounds 0 .none)) s.heap hb.symm).trans e)
    rw [Heap.get?_update_other _ _ (Nat.ne_of_gt (Heap.lt_size e2))]
    exact Heap.get?_push_of_some _ e2
theorem turn_listH {P : Program} {w : World} {K : PySem.W.Frag} {tg : Expr} (a it : Addr) : L2H.TurnH P w K tg (Itl K a) [it] it (fun i h => h.IsListIter it a i) where
  mem := List.mem_singleton.mpr rfl
  obj := fun i h st b hb => by
    obtain rfl : b = it := List.mem_singleton.mp hb
    obtain ⟨o, e, _, d⟩ := st
    exact ⟨o, e, fun v z => by rw [d] at z; cases z⟩
  keep := fun i h h' st k => by
    obtain ⟨o, e, c, d⟩ := st
    exact ⟨o, k it (List.mem_singleton.mpr rfl) o e, c, d⟩
  item := by
    intro X hP hw hK hc i pins s σ H E I hf st ⟨xs, x, hq, hx⟩
    subst hP hw hK
    obtain ⟨its, rv, pl, _⟩ := Inv.list I hq
    obtain ⟨u, hu, ru⟩ := rv.get hx
    obtain ⟨z0, z1, _, z3, z4, z5⟩ := hf it (List.mem_singleton.mpr rfl)
    refine wpAny_pyNext_list_item st pl.isList (x := u) (by simpa using hu) fun h2 st2 sb => ?_
    obtain ⟨o, e, c, d⟩ := id st2
    have I2 : L2.Inv X pins σ H { s with heap := h2 } := Inv.turned (t' := s.toks) I (fun b o hb e => (sb.right b hb).trans e) z0 z1 z3 z4 z5
    exact ⟨u, rfl, go_of (s := { s with heap := h2 }) e c d (by decide) ⟨x, H, I2, ru, ⟨rfl, fun ys hy => by rw [Inv.list_inj I hy hq]; exact hx⟩, st2, fun b hb => (hf b hb).1⟩⟩
  done := by
    intro X hP hw hK hc i pins s σ H E I hf st ⟨xs, hq, hx⟩
    subst hP hw hK
    obtain ⟨its, rv, pl, _⟩ := Inv.list I hq
    obtain ⟨z0, z1, _, z3, z4, z5⟩ := hf it (List.mem_singleton.mpr rfl)
    have hl := rv.length
    obtain ⟨p, ⟨hh, v1, e1, c1⟩, hp⟩ := hc
    refine next_list_hot ⟨hh, p.2, v1, (Inv.pin I p (List.mem_append_left _ hp)).1, e1, c1⟩ (z5 p (List.mem_append_left _ hp)) st pl.isList (by simp; omega) fun h2 eb => ⟨rfl, Inv.turned (t' := s.toks) I (fun b o hb e => eb b o hb e) z0 z1 z3 z4 z5⟩
  self := fun _ _ _ _ _ st h => wpAny_pyIter_listiter st h
theorem pi_listH {tg l : Expr} {tl : TE} (hl : PE X l tl) : L2H.PIH X tg l (iList X.K tl) := by
  refine ⟨fun pins s σ H R I h => thn (hl.run pins s σ H _ I h) fun v s1 ⟨x, H1, I1, r1, a, e, ⟨xs, hq⟩, q⟩ => ?_⟩
  subst e
  cases r1
  obtain ⟨its, rv, pl, _⟩ := Inv.list I1 hq
  refine wpAny_pyIter_list pl.isList ⟨s1.heap.objs.size, [s1.heap.objs.size], _, _, H1, rfl, Inv.kept (t' := s1.toks) I1 fun b o e => Heap.get?_push_of_some _ e, turn_listH a _, ⟨_, Heap.get?_push_size _ rfl, rfl, rfl⟩, fun b hb => ?_, q⟩
  obtain rfl : b = s1.heap.objs.size := List.mem_singleton.mp hb
  exact Inv.fpOk I1 (Nat.le_refl _) (I1.hok.fresh (Nat.le_refl _))
end

end
section
/-! ### a def that is called while an exception of a known kind is handled -/
structure FnHZ (P : Program) (w : World) (K : PySem.W.Frag) (mg : Str → Option Value) (base : Heap) (CX : CXT) (k : Nat) (f : Addr) (fd : FuncData) (ps : List Str) (Z : Addr × Obj → Prop) (sp : Addr → Sp) : Prop where
  len : ∀ (a : Addr) (vs : List V) (H : Hp) (Q : VK) (E : XK), sp a vs H Q E → vs.length = ps.length
  run : ∀ (A : Around) (outer : List Env) (s : Shared) (H : Hp) (args : Args) (us : List Value) (vs : List V) (Q : VK) (E : XK) (p : Addr × Obj),
    L2H.RoomH k A → L2H.Hot1 A p → Z p → L2H.PinOk outer H s p → Env0 P w K mg base A outer s H → BindsTo s fd args (ps.zip us) → Vals vs us → sp p.1 vs H Q E → codeAny (model P w) A (.call (.ref f) args) (CR CX outer P w H s Q E) s
section
variable {CX : CXT} {P : Program} {w : World} {K : PySem.W.Frag} {mg : Str → Option Value} {base : Heap} {Z : Addr × Obj → Prop} {sp : Addr → Sp}
open PySem.Spec PyProof.Rows in
set_option maxHeartbeats 2000000 in
theorem fn_ofHZ {k : Nat} {f : Addr} {name qual : Str} {params : Arguments} {body : List Stmt} {scope : Scope} {dV kV doc pm cdv ct oc : Value} {an od : Option Addr} {osl : Array (Option Value)} {N ps : List Str}
    (lk : K.lookup f = some ⟨oc, od, .func (PySem.W.fnOf name qual params body scope dV kV doc pm an cdv ct), osl⟩) (hcd : PySem.W.codeIn K cdv qual = true) (S : FnScope N ps scope)
    (len : ∀ (a : Addr) (vs : List V) (H : Hp) (Q : VK) (E : XK), sp a vs H Q E → vs.length = ps.length)
    (hbody : ∀ (A : Around) (outer : List Env) (s : Shared) (H : Hp) (vs : List V) (Q : VK) (E : XK) (p : Addr × Obj), L2H.Hot1 A p → Z p → L2H.RoomH k (A.deeper (envOfC qual scope s.heap.objs.size f cdv)) → sp p.1 vs H Q E →
      ∃ t, PSs (L2H.cxH CX P w K mg base N qual scope f cdv A outer s H E p) body t ∧ t { nx := fun _ H' => Q .non H', rt := Q } (L2.start N vs) H) :
    FnHZ P w K mg base CX (k + 1) f (PySem.W.fnOf name qual params body scope dV kV doc pm an cdv ct) ps Z sp := by
  refine ⟨len, fun A outer s H args us vs Q E p hr hot hz hpin e0 hb r hsp => ?_⟩
  have hl := len p.1 vs H Q E hsp
  have KX := PySem.W.Frag.In.keeps e0.mod.kin fun b o e => (e0.bs b o e).1
  have lim := Heap.NoLimit.keeps e0.mod.nolimit fun b o e => (e0.bs b o e).1
  refine codeAny_call_function hr.depth (KX f _ lk) rfl S.co S.gen rfl (PySem.W.codeRec_of KX hcd) (hb (model P w) A.in1 _ _ ?_)
  refine wpAny_newFunctionEnv_cells S.kind (fun x hy => ?_) fun env he s1 x => ?_
  · obtain ⟨n, v⟩ := x
    rcases S.par n (List.of_mem_zip hy).1 with q | q
    · exact .inl q
    · exact .inr ⟨q, PySem.W.cellsFrom_some scope.names (s.heap.objs.size + 1) [] (.inl q)⟩
  subst he
  refine ⟨Heap.NoLimit.keeps lim x.toInCall.keep, codeAny_func ?_⟩
  obtain ⟨t, ht, hq⟩ := hbody A outer s H vs Q E p hot hz (hr.deeper _) hsp
  have I : L2.Inv (L2H.cxH CX P w K mg base N qual scope f cdv A outer s H E p) [] (L2.start N vs) H s1 := L2H.inv_startH S hpin e0 hl r x
  refine wpAny_mono (ht.run [] s1 (L2.start N vs) H { nx := fun _ H' => Q .non H', rt := Q } I hq) (fun fl s' hs => ?_) fun e s' hs => hs
  cases fl with
  | next =>
    obtain ⟨σ', H', J, q⟩ := hs
    exact ⟨.non, _, J.os, J.bare, J.base, J.hok, rfl, q⟩
  | ret u =>
    obtain ⟨v, σ', H', J, rv, q⟩ := hs
    exact ⟨_, _, J.os, J.bare, J.base, J.hok, rv, q⟩
  | brk =>
    obtain ⟨_, _, _, q⟩ := hs
    exact q.elim
  | cont =>
    obtain ⟨_, _, _, q⟩ := hs
    exact q.elim
open PySem.Spec PyProof.Rows in
set_option maxHeartbeats 2000000 in
theorem pe_callHZ {X : Cx} {k : Nat} {f : Addr} {fd : FuncData} {ps : List Str} {E : L2.St → XK} {x : Str} {q pos : Pos} {e : Expr} {es : List Expr} {t : TA} {p : Addr × Obj}
    (F : FnHZ X.prog X.w X.K X.mg X.base CX k f fd ps Z sp) (hr : L2H.RoomH k X.A) (hot : L2H.Hot1 X.A p) (hp : p ∈ X.pn) (hz : Z p) (hg : Gl X x) (hm : X.mg x = some (.ref f)) (hk : PySem.W.keepIn X.K (.ref f) = true) (hb : Binds X.K fd ps []) (hx : ∀ σ, PassesAt CX X σ (E σ))
    (ha : PA X (e :: es) t) (hdb : (x == ("__debug__" : Str)) = false := by decide +kernel) (he : starEach (e :: es) X.env = (false, eval e X.env) :: starEach es X.env := by rfl) (hpl : ((backTo pos (starEach es X.env)).any fun x => x.1) = false := by rfl) :
    PE X (.Call (.Name x q) (e :: es) [] pos) (tCallS (sp p.1) E t) := by
  refine ⟨fun pins s σ H Q I h => wpAny_Call_Name_kw (ld_glob I hg hm (PySem.W.callWith_K I.ok.mod.kin hk (thn (ha.run pos pins s σ H (fun vs H1 => sp p.1 vs H1 Q (E σ)) I h) fun us s1 z => ?_) he hpl) hdb)⟩
  obtain ⟨vs, H1, I1, r, q⟩ := z
  refine ⟨Inv.kIn I1, ?_⟩
  have hl : us.length = ps.length := r.length.symm.trans (F.len p.1 vs H1 Q (E σ) q)
  have b := hb s1 us (Inv.kIn I1) (by rw [List.append_nil]; exact hl)
  rw [List.append_nil] at b
  have P1 := I1.pin p (List.mem_append_left _ hp)
  refine wpAny_call (codeAny_mono (F.run X.A X.stack s1 H1 ⟨us, []⟩ us vs Q (E σ) p hr hot hz ⟨P1.1, P1.2.1, fun hm => ?_, P1.2.2.2.2⟩ (Inv.env0 I1) b r q) fun r s' hq => ?_)
  · rcases List.mem_cons.mp (Inv.stkSub I1 p.1 hm) with z | z
    · exact P1.2.2.1 z
    · exact P1.2.2.2.1 z
  · cases r with
    | error e => exact hx σ pins H1 s1 e s' I1 hq
    | ok fl =>
      cases fl with
      | next => exact hq.elim
      | brk => exact hq.elim
      | cont => exact hq.elim
      | ret u => exact Inv.after I1 hq
end

section
variable {X : Cx} {CX : CXT} {k : Nat} {f C : Addr} {fd : FuncData} {ps : List Str} {sp : Sp} {x : Str} {p pos : Pos} {e : Expr} {es : List Expr} {t : TA}
/-- C(..) of a class whose __init__ may raise -/
def tMakeP (C : Addr) (sp : Sp) (E : L2.St → XK) (t : TA) : TE := fun σ H Q => t σ H fun vs H1 => ∀ y dy, H1 y = none → H1 dy = none → dy ≠ y → sp (.ref y :: vs) (upd (upd H1 dy (.own y)) y (.ins C dy [])) (fun v H2 => v = .non ∧ Q (.ref y) H2) (E σ)
theorem make_runP {pins : List (Addr × Obj)} {σ : L2.St} {H : Hp} {s : Shared} {Q : VK} {us : List Value} {vs : List V} {Eo : XK} (M : Mk X.K C f) (F : FnOk X.prog X.w X.K X.mg X.base CX k f fd ps sp) (hr : Room (k + 1) X.A) (hb : Binds X.K fd ps []) (hx : PassesAt CX X σ Eo) (I : Inv X pins σ H s) (r : Vals vs us)
    (h : ∀ y dy, H y = none → H dy = none → dy ≠ y → sp (.ref y :: vs) (upd (upd H dy (.own y)) y (.ins C dy [])) (fun v H2 => v = .non ∧ Q (.ref y) H2) Eo) : wpAny (model X.prog X.w) X.A (call (.ref C) us) (EP X pins σ Q) X.xe s := by
  have z := h (s.heap.objs.size + 1) s.heap.objs.size (I.hok.fresh (Nat.le_succ _)) (I.hok.fresh (Nat.le_refl _)) (Nat.ne_of_lt (Nat.lt_succ_self _))
  have J := Inv.made (C := C) I
  have r2 : Vals (V.ref (s.heap.objs.size + 1) :: vs) (Value.ref (s.heap.objs.size + 1) :: us) := .cons rfl r
  have len : (Value.ref (s.heap.objs.size + 1) :: us).length = ps.length := r2.length.symm.trans (F.len _ _ _ _ z)
  have bnd := hb _ (Value.ref (s.heap.objs.size + 1) :: us) J.kIn (by rw [List.append_nil]; exact len)
  rw [List.append_nil] at bnd
  refine wpAny_call (make_map (f := f) I.kIn M.makes M.init (beq_iff_eq.mp M.fn) (codeAny_mono (F.run _ X.stack _ _ ⟨_, []⟩ _ _ _ Eo (hr.make C us []) (J.env0.make C us []) bnd r2 z) fun r s' q => ?_))
  cases r with
  | error err => exact hx pins _ _ err s' J q
  | ok fl =>
    cases fl with
    | next => exact q.elim
    | brk => exact q.elim
    | cont => exact q.elim
    | ret u =>
      obtain ⟨v, H', J2, rv, ev, q3⟩ := J.after q
      subst ev
      exact ⟨rv, ⟨V.ref (s.heap.objs.size + 1), H', J2, rfl, q3⟩⟩
theorem pe_makeP {E : L2.St → XK} (M : Mk X.K C f) (F : FnOk X.prog X.w X.K X.mg X.base CX k f fd ps sp) (hr : Room (k + 1) X.A) (hg : Gl X x) (hm : X.mg x = some (.ref C)) (hb : Binds X.K fd ps []) (hx : ∀ σ, PassesAt CX X σ (E σ))
    (ha : PA X (e :: es) t) (hdb : (x == ("__debug__" : Str)) = false := by decide) (he : starEach (e :: es) X.env = (false, eval e X.env) :: starEach es X.env := by rfl) (hpl : (backTo pos (starEach es X.env)).any (·.1) = false := by rfl) :
    PE X (.Call (.Name x p) (e :: es) [] pos) (tMakeP C sp E t) :=
  ⟨fun pins s σ H Q I h => wpAny_Call_Name_kw (ld_glob I hg hm (PySem.W.callWith_K (h₀ := X.base) I.ok.mod.kin M.kp (thn (ha.run pos pins s σ H _ I h) fun us s1 ⟨vs, H1, I1, r, q⟩ => ⟨I1.kIn, make_runP M F hr hb (hx σ) I1 r q⟩) he hpl) hdb)⟩
end
theorem mark_self {A : Around} {v : Value} (h : A.handled = some v) : A.mark (some v) = A := by
  cases A
  simp only at h
  subst h
  rfl
theorem call_isN {X : Cx} {p : Addr × Obj} {D : Addr} (h : X.A.handled = some (.ref p.1)) (hc : X.calm = false) (hpn : X.pn = [p]) (hD : ExcC X.K D) (hz : Zc (.ref D) none p.2) (hd : ∃ vs, p.2.data = .fields vs) : CallR X.nox (.builtin "isinstance") (rIsE X.K D p.1) := by
  have e : X.nox = X.suite p.1 [p] := by
    show ({ X with xe := fun _ _ => False } : Cx) = { X with A := X.A.mark (some (.ref p.1)), calm := false, pn := [p], xe := fun _ _ => False }
    rw [mark_self h, ← hc, ← hpn]
  rw [e]
  exact call_isE (X := X) (pn := []) hD hz hd
theorem pss_if {X : Cx} {st : List Stmt} {t : TS} {φ : Prop} (h : φ → PSs X st t) : PSs X st (fun D σ H => φ ∧ t D σ H) := ⟨fun pins s σ H D I z => (h z.1).run pins s σ H D I z.2⟩

end
local macro_rules | `(tactic| walk_at "cond") => `(tactic| first | (with_reducible assumption) | decide | (show (0 : Int) < _; decide) | (exact ⟨by decide, by decide⟩) | (exact ⟨by decide, by decide, by decide⟩) | (exact ⟨by omega, by omega⟩) | (exact Or.inl ⟨by decide, by decide⟩) | (exact Or.inr ⟨by decide, by decide⟩) | (exact Or.inl ⟨by omega, by omega⟩) | (exact Or.inr ⟨by omega, by omega⟩) | omega)

local macro_rules | `(tactic| walk_at "seq") => `(tactic| first | (with_reducible assumption) | (exact sq_of (by with_reducible assumption)) | (exact st_of (by with_reducible assumption)) | (exact ex_l (by with_reducible assumption) (by with_reducible assumption)) | (exact ex_t (by with_reducible assumption) (by with_reducible assumption)))

local macro_rules | `(tactic| walk_at "rv") => `(tactic| first | (with_reducible exact rv_I0) | ((with_reducible apply rv_I); walk_at "cond") | ((with_reducible apply rv_eq); rfl) | ((with_reducible apply rv_ne); rfl) | (with_reducible exact rv_NT) | (with_reducible exact rv_isN) | ((with_reducible apply rv_add_str); walk_at "cond") | ((with_reducible apply rv_ixT); walk_at "seq"; rfl))

local macro_rules | `(tactic| walk_at "rc") => `(tactic| first | ((with_reducible apply rc_len); walk_at "seq") | ((with_reducible apply rc_lenT); walk_at "seq") | ((with_reducible apply rc_lenS); walk_at "cond") | (with_reducible exact rc_intB) | (with_reducible exact rc_typI) | ((with_reducible apply rc_strI); walk_at "cond") | (exact rc_isi tx_str kb_ss) | (exact rc_isi tx_int kb_ii) | (exact rc_isi tx_int kb_ib) | (exact rc_isi (tx_lst (by with_reducible assumption)) kb_ll) | (exact rc_isi (tx_tup (by with_reducible assumption)) kb_tt))

local macro_rules | `(tactic| walk_at "spv") => `(tactic| fail "no promise")

local macro_rules | `(tactic| walk_at "ea") => `(tactic| first | (with_reducible exact ea_nil) | ((with_reducible apply ea_cons); walk_at "ev"; walk_at "ea"))

local macro_rules | `(tactic| walk_at "eo") => `(tactic| first | (with_reducible exact eo_none) | ((with_reducible apply eo_some); walk_at "ev"))

local macro_rules | `(tactic| walk_at "ev") => `(tactic| first
  | (with_reducible exact ev_c)
  | ((with_reducible apply ev_var); rfl)
  | ((with_reducible apply ev_op); walk_at "ev"; walk_at "ev"; walk_at "rv")
  | ((with_reducible apply ev_cb); walk_at "ea"; walk_at "rc")
  | ((with_reducible apply ev_call); walk_at "ea"; walk_at "spv")
  | ((with_reducible apply ev_neg); walk_at "ev")
  | ((with_reducible apply ev_notV); walk_at "ev")
  | ((with_reducible apply ev_andV); walk_at "ev"; (intro _; walk_at "ev"))
  | ((with_reducible apply ev_orV); walk_at "ev"; (intro _; walk_at "ev")))

local macro_rules | `(tactic| walk_at "et") => `(tactic| first
  | ((with_reducible apply et_chain); walk_at "ev"; walk_at "ev"; walk_at "rv"; (intro _; walk_at "ev"); (intro _; walk_at "rv"))
  | ((with_reducible apply et_test); walk_at "ev")
  | ((with_reducible apply et_B); walk_at "ev")
  | ((with_reducible apply et_not); walk_at "et")
  | ((with_reducible apply et_or); walk_at "et"; (intro _; walk_at "et"))
  | ((with_reducible apply et_and); walk_at "et"; (intro _; walk_at "et")))

local macro_rules | `(tactic| walk_at "asg") => `(tactic| ((first | with_reducible apply q_asg | with_reducible apply s_asg); walk_at "ev"))

local macro_rules | `(tactic| walk_at "drop") => `(tactic| ((first | with_reducible apply q_drop | with_reducible apply s_drop); walk_at "ev"))

local macro_rules | `(tactic| walk_at "ret") => `(tactic| ((with_reducible apply s_retk); walk_at "ev"))

local macro_rules | `(tactic| walk_at "when") => `(tactic| ((first | with_reducible apply q_when | with_reducible apply s_when | with_reducible apply q_if | with_reducible apply s_if); walk_at "et"))


local macro_rules | `(tactic| walk_at "ev") => `(tactic| ((with_reducible apply ev_slS); walk_at "ev"; walk_at "eo"; walk_at "eo"; walk_at "cond"))

def top (i : Nat) : Stmt := PySem.Challenge.pw_splitrooms_k09_what_is_refused.main.body.getD i (.Pass ⟨0, 0, 0, 0⟩)
abbrev s_doubled : Stmt := top 2
abbrev n_doubled : List Str := ["board", "bits", "_"]
theorem sc_doubled : FnScope n_doubled ["board"] (defScope s_doubled) := ⟨rfl, rfl, rfl, by decide +kernel, rfl, by decide +kernel, by decide +kernel⟩
abbrev s_can_halve : Stmt := top 3
abbrev n_can_halve : List Str := ["board"]
theorem sc_can_halve : FnScope n_can_halve ["board"] (defScope s_can_halve) := ⟨rfl, rfl, rfl, by decide +kernel, rfl, by decide +kernel, by decide +kernel⟩
abbrev s_halved : Stmt := top 4
abbrev n_halved : List Str := ["board"]
theorem sc_halved : FnScope n_halved ["board"] (defScope s_halved) := ⟨rfl, rfl, rfl, by decide +kernel, rfl, by decide +kernel, by decide +kernel⟩
abbrev s_parted_at : Stmt := top 5
abbrev n_parted_at : List Str := ["board", "bits", "zeros_left", "told", "text"]
theorem sc_parted_at : FnScope n_parted_at ["board", "bits"] (defScope s_parted_at) := ⟨rfl, rfl, rfl, by decide +kernel, rfl, by decide +kernel, by decide +kernel⟩
abbrev s_joined_at : Stmt := top 6
abbrev n_joined_at : List Str := ["board", "bits", "halves", "text"]
theorem sc_joined_at : FnScope n_joined_at ["board", "bits"] (defScope s_joined_at) := ⟨rfl, rfl, rfl, by decide +kernel, rfl, by decide +kernel, by decide +kernel⟩
abbrev s_check_name : Stmt := top 18
abbrev n_check_name : List Str := ["name"]
theorem sc_check_name : FnScope n_check_name ["name"] (defScope s_check_name) := ⟨rfl, rfl, rfl, by decide +kernel, rfl, by decide +kernel, by decide +kernel⟩
abbrev s_mixed : Stmt := top 19
abbrev n_mixed : List Str := ["name"]
theorem sc_mixed : FnScope n_mixed ["name"] (defScope s_mixed) := ⟨rfl, rfl, rfl, by decide +kernel, rfl, by decide +kernel, by decide +kernel⟩
abbrev s_signs : Stmt := top 20
abbrev n_signs : List Str := ["name", "by_twos"]
theorem sc_signs : FnScope n_signs ["name"] (defScope s_signs) := ⟨rfl, rfl, rfl, by decide +kernel, rfl, by decide +kernel, by decide +kernel⟩
abbrev s_with_thing : Stmt := top 22
abbrev n_with_thing : List Str := ["things", "name", "value", "ahead", "behind", "thing"]
theorem sc_with_thing : FnScope n_with_thing ["things", "name", "value"] (defScope s_with_thing) := ⟨rfl, rfl, rfl, by decide +kernel, rfl, by decide +kernel, by decide +kernel⟩
abbrev s_without_thing : Stmt := top 23
abbrev n_without_thing : List Str := ["things", "name", "thing"]
theorem sc_without_thing : FnScope n_without_thing ["things", "name"] (defScope s_without_thing) := ⟨rfl, rfl, rfl, by decide +kernel, rfl, by decide +kernel, by decide +kernel⟩
abbrev s_value_in : Stmt := top 24
abbrev n_value_in : List Str := ["things", "name", "held", "value"]
theorem sc_value_in : FnScope n_value_in ["things", "name"] (defScope s_value_in) := ⟨rfl, rfl, rfl, by decide +kernel, rfl, by decide +kernel, by decide +kernel⟩
abbrev s_next_sign : Stmt := top 25
abbrev n_next_sign : List Str := ["bits", "name", "at"]
theorem sc_next_sign : FnScope n_next_sign ["bits", "name"] (defScope s_next_sign) := ⟨rfl, rfl, rfl, by decide +kernel, rfl, by decide +kernel, by decide +kernel⟩
abbrev s_parted : Stmt := top 26
abbrev n_parted : List Str := ["room", "bits", "things", "zeros", "ones", "thing"]
theorem sc_parted : FnScope n_parted ["room"] (defScope s_parted) := ⟨rfl, rfl, rfl, by decide +kernel, rfl, by decide +kernel, by decide +kernel⟩
abbrev s_joined : Stmt := top 27
abbrev n_joined : List Str := ["one", "other", "bits", "things", "both"]
theorem sc_joined : FnScope n_joined ["one", "other"] (defScope s_joined) := ⟨rfl, rfl, rfl, by decide +kernel, rfl, by decide +kernel, by decide +kernel⟩
abbrev s_check_bound : Stmt := top 31
abbrev n_check_bound : List Str := ["bound"]
theorem sc_check_bound : FnScope n_check_bound ["bound"] (defScope s_check_bound) := ⟨rfl, rfl, rfl, by decide +kernel, rfl, by decide +kernel, by decide +kernel⟩
abbrev s_m___init__ : Stmt := inClass (top 32) 0
abbrev n_m___init__ : List Str := ["self", "bound"]
theorem sc_m___init__ : FnScope n_m___init__ ["self", "bound"] (defScope s_m___init__) := ⟨rfl, rfl, rfl, by decide +kernel, rfl, by decide +kernel, by decide +kernel⟩
abbrev s_m_put : Stmt := inClass (top 32) 1
abbrev n_m_put : List Str := ["self", "name", "value", "bits", "things", "before"]
theorem sc_m_put : FnScope n_m_put ["self", "name", "value"] (defScope s_m_put) := ⟨rfl, rfl, rfl, by decide +kernel, rfl, by decide +kernel, by decide +kernel⟩
abbrev s_m_take : Stmt := inClass (top 32) 2
abbrev n_m_take : List Str := ["self", "name", "bits", "things", "value"]
theorem sc_m_take : FnScope n_m_take ["self", "name"] (defScope s_m_take) := ⟨rfl, rfl, rfl, by decide +kernel, rfl, by decide +kernel, by decide +kernel⟩
abbrev s_m_find : Stmt := inClass (top 32) 3
abbrev n_m_find : List Str := ["self", "name"]
theorem sc_m_find : FnScope n_m_find ["self", "name"] (defScope s_m_find) := ⟨rfl, rfl, rfl, by decide +kernel, rfl, by decide +kernel, by decide +kernel⟩
abbrev s_m_look : Stmt := inClass (top 32) 4
abbrev n_m_look : List Str := ["self", "name", "place", "bits"]
theorem sc_m_look : FnScope n_m_look ["self", "name"] (defScope s_m_look) := ⟨rfl, rfl, rfl, by decide +kernel, rfl, by decide +kernel, by decide +kernel⟩
abbrev s_m_size : Stmt := inClass (top 32) 5
abbrev n_m_size : List Str := ["self", "things"]
theorem sc_m_size : FnScope n_m_size ["self"] (defScope s_m_size) := ⟨rfl, rfl, rfl, by decide +kernel, rfl, by decide +kernel, by decide +kernel⟩
abbrev s_m_board : Stmt := inClass (top 32) 7
abbrev n_m_board : List Str := ["self"]
theorem sc_m_board : FnScope n_m_board ["self"] (defScope s_m_board) := ⟨rfl, rfl, rfl, by decide +kernel, rfl, by decide +kernel, by decide +kernel⟩
abbrev s_m_rooms : Stmt := inClass (top 32) 8
abbrev n_m_rooms : List Str := ["self", "bits"]
theorem sc_m_rooms : FnScope n_m_rooms ["self"] (defScope s_m_rooms) := ⟨rfl, rfl, rfl, by decide +kernel, rfl, by decide +kernel, by decide +kernel⟩
abbrev s_m_things : Stmt := inClass (top 32) 9
abbrev n_m_things : List Str := ["self", "held", "things", "thing"]
theorem sc_m_things : FnScope n_m_things ["self"] (defScope s_m_things) := ⟨rfl, rfl, rfl, by decide +kernel, rfl, by decide +kernel, by decide +kernel⟩
abbrev s_m__place_of : Stmt := inClass (top 32) 10
abbrev n_m__place_of : List Str := ["self", "name"]
theorem sc_m__place_of : FnScope n_m__place_of ["self", "name"] (defScope s_m__place_of) := ⟨rfl, rfl, rfl, by decide +kernel, rfl, by decide +kernel, by decide +kernel⟩
abbrev s_m__bits_of : Stmt := inClass (top 32) 11
abbrev n_m__bits_of : List Str := ["self", "name"]
theorem sc_m__bits_of : FnScope n_m__bits_of ["self", "name"] (defScope s_m__bits_of) := ⟨rfl, rfl, rfl, by decide +kernel, rfl, by decide +kernel, by decide +kernel⟩
abbrev s_m__part_for : Stmt := inClass (top 32) 12
abbrev n_m__part_for : List Str := ["self", "name", "bits"]
theorem sc_m__part_for : FnScope n_m__part_for ["self", "name"] (defScope s_m__part_for) := ⟨rfl, rfl, rfl, by decide +kernel, rfl, by decide +kernel, by decide +kernel⟩
abbrev s_m__part : Stmt := inClass (top 32) 13
abbrev n_m__part : List Str := ["self", "bits", "halves", "half", "things"]
theorem sc_m__part : FnScope n_m__part ["self", "bits"] (defScope s_m__part) := ⟨rfl, rfl, rfl, by decide +kernel, rfl, by decide +kernel, by decide +kernel⟩
abbrev s_m__join_from : Stmt := inClass (top 32) 14
abbrev n_m__join_from : List Str := ["self", "bits"]
theorem sc_m__join_from : FnScope n_m__join_from ["self", "bits"] (defScope s_m__join_from) := ⟨rfl, rfl, rfl, by decide +kernel, rfl, by decide +kernel, by decide +kernel⟩
abbrev s_m__can_join : Stmt := inClass (top 32) 15
abbrev n_m__can_join : List Str := ["self", "bits", "low", "high"]
theorem sc_m__can_join : FnScope n_m__can_join ["self", "bits"] (defScope s_m__can_join) := ⟨rfl, rfl, rfl, by decide +kernel, rfl, by decide +kernel, by decide +kernel⟩
abbrev s_m__join : Stmt := inClass (top 32) 16
abbrev n_m__join : List Str := ["self", "bits", "low", "high", "_", "things"]
theorem sc_m__join : FnScope n_m__join ["self", "bits"] (defScope s_m__join) := ⟨rfl, rfl, rfl, by decide +kernel, rfl, by decide +kernel, by decide +kernel⟩
abbrev s_m__halve_board : Stmt := inClass (top 32) 17
abbrev n_m__halve_board : List Str := ["self"]
theorem sc_m__halve_board : FnScope n_m__halve_board ["self"] (defScope s_m__halve_board) := ⟨rfl, rfl, rfl, by decide +kernel, rfl, by decide +kernel, by decide +kernel⟩
abbrev s_written : Stmt := top 36
abbrev n_written : List Str := ["store", "rows", "bits", "things"]
theorem sc_written : FnScope n_written ["store"] (defScope s_written) := ⟨rfl, rfl, rfl, by decide +kernel, rfl, by decide +kernel, by decide +kernel⟩
abbrev s_row_of : Stmt := top 37
abbrev n_row_of : List Str := ["bits", "things", "words", "name", "value"]
theorem sc_row_of : FnScope n_row_of ["bits", "things"] (defScope s_row_of) := ⟨rfl, rfl, rfl, by decide +kernel, rfl, by decide +kernel, by decide +kernel⟩
abbrev s_read : Stmt := top 38
abbrev n_read : List Str := ["text", "head", "rows", "store", "row", "name", "value"]
theorem sc_read : FnScope n_read ["text"] (defScope s_read) := ⟨rfl, rfl, rfl, by decide +kernel, rfl, by decide +kernel, by decide +kernel⟩
abbrev s_things_in : Stmt := top 39
abbrev n_things_in : List Str := ["row", "words", "parts", "word", "name", "_", "value"]
theorem sc_things_in : FnScope n_things_in ["row"] (defScope s_things_in) := ⟨rfl, rfl, rfl, by decide +kernel, rfl, by decide +kernel, by decide +kernel⟩
abbrev s_number_in : Stmt := top 40
abbrev n_number_in : List Str := ["word", "figures"]
theorem sc_number_in : FnScope n_number_in ["word"] (defScope s_number_in) := ⟨rfl, rfl, rfl, by decide +kernel, rfl, by decide +kernel, by decide +kernel⟩
abbrev s_l_whole : Stmt := top 42
abbrev n_l_whole : List Str := ["_law_found"]
theorem sc_l_whole : FnScope n_l_whole ["_law_found"] (defScope s_l_whole) := ⟨rfl, rfl, rfl, by decide +kernel, rfl, by decide +kernel, by decide +kernel⟩
abbrev s_l_cell_at : Stmt := top 43
abbrev n_l_cell_at : List Str := ["_law_script", "_law_k"]
theorem sc_l_cell_at : FnScope n_l_cell_at ["_law_script", "_law_k"] (defScope s_l_cell_at) := ⟨rfl, rfl, rfl, by decide +kernel, rfl, by decide +kernel, by decide +kernel⟩
abbrev s_l_none : Stmt := top 44
abbrev n_l_none : List Str := ["_law_cell", "_law_far"]
theorem sc_l_none : FnScope n_l_none ["_law_cell"] (defScope s_l_none) := ⟨rfl, rfl, rfl, by decide +kernel, rfl, by decide +kernel, by decide +kernel⟩
abbrev s_l_bound_by : Stmt := top 45
abbrev n_l_bound_by : List Str := ["_law_cell", "_law_far"]
theorem sc_l_bound_by : FnScope n_l_bound_by ["_law_cell"] (defScope s_l_bound_by) := ⟨rfl, rfl, rfl, by decide +kernel, rfl, by decide +kernel, by decide +kernel⟩
abbrev s_l_alone : Stmt := top 46
abbrev n_l_alone : List Str := ["_law_e", "_law_which", "_law_kinds", "_law_k"]
theorem sc_l_alone : FnScope n_l_alone ["_law_e", "_law_which"] (defScope s_l_alone) := ⟨rfl, rfl, rfl, by decide +kernel, rfl, by decide +kernel, by decide +kernel⟩
abbrev s_l_made : Stmt := top 47
abbrev n_l_made : List Str := ["_law_thing", "_law_told", "_law_e"]
theorem sc_l_made : FnScope n_l_made ["_law_thing"] (defScope s_l_made) := ⟨rfl, rfl, rfl, by decide +kernel, rfl, by decide +kernel, by decide +kernel⟩
abbrev s_l_asked : Stmt := top 48
abbrev n_l_asked : List Str := ["_law_store", "_law_way", "_law_thing"]
theorem sc_l_asked : FnScope n_l_asked ["_law_store", "_law_way", "_law_thing"] (defScope s_l_asked) := ⟨rfl, rfl, rfl, by decide +kernel, rfl, by decide +kernel, by decide +kernel⟩
abbrev s_l_refused : Stmt := top 49
abbrev n_l_refused : List Str := ["_law_store", "_law_way", "_law_thing", "_law_told", "_law_e"]
theorem sc_l_refused : FnScope n_l_refused ["_law_store", "_law_way", "_law_thing"] (defScope s_l_refused) := ⟨rfl, rfl, rfl, by decide +kernel, rfl, by decide +kernel, by decide +kernel⟩
abbrev s_l_lacks : Stmt := top 50
abbrev n_l_lacks : List Str := ["_law_store", "_law_name", "_law_told", "_law_e"]
theorem sc_l_lacks : FnScope n_l_lacks ["_law_store", "_law_name"] (defScope s_l_lacks) := ⟨rfl, rfl, rfl, by decide +kernel, rfl, by decide +kernel, by decide +kernel⟩
abbrev s_law : Stmt := top 51
abbrev n_law : List Str := ["_law_script", "_law_thing", "_law_is_good", "_law_store", "_law_plain", "_law_k", "_law_rooms", "_law_board", "_law_name", "_law_one"]
theorem sc_law : FnScope n_law ["_law_script"] (defScope s_law) := ⟨rfl, rfl, rfl, by decide +kernel, rfl, by decide +kernel, by decide +kernel⟩
def lq_joined : Str := Str.ofString "joined" ++ Str.ofString ".<locals>." ++ Str.ofString "<lambda>"
def lq_things : Str := Str.ofString "Store.things" ++ Str.ofString ".<locals>." ++ Str.ofString "<lambda>"
/-- the table in which a lambda's code goes -/
def tabC (K : PySem.W.Frag) (c : Addr) : Option Addr := match K.lookup c with
  | some ⟨_, _, .fields vs, _⟩ => (match (vs[11]? : Option Value) with
    | some (.ref P) => some P
    | _ => none)
  | _ => none
structure DefAt (K : PySem.W.Frag) (mg : Str → Option Value) (x : Str) (st : Stmt) (ps : List Str) where
  a : Addr
  fd : FuncData
  F : Fun K x x st a fd
  g : mg x = some (.ref a)
  b : Binds K fd ps []
structure MethAt (K : PySem.W.Frag) (C : Addr) (x q : Str) (st : Stmt) (ps : List Str) where
  a : Addr
  fd : FuncData
  F : Fun K x q st a fd
  M : Meth K C x a
  b : Binds K fd ps []
structure ClsAt (K : PySem.W.Frag) (mg : Str → Option Value) where
  a : Addr
  g : mg "Store" = some (.ref a)
  cl : Cls K a
  bound : NoAttr K a "bound"
  rooms : NoAttr K a "_rooms"
  board : NoAttr K a "_board"
  depth : NoAttr K a "_depth"
  mkI : PySem.W.makesIn K a = true
  kpI : PySem.W.keepIn K (.ref a) = true
structure LamAt (K : PySem.W.Frag) (x q : Str) (st : Stmt) (a : Addr) (fd : FuncData) where
  c : Addr
  P : Addr
  L : ∃ (oc : Value) (od : Option Addr) (kV doc pm : Value) (an : Option Addr) (ct : Value) (osl : Array (Option Value)), fd = PySem.W.fnOf x q (defArgs st) (defBody st) (defScope st) .none kV doc pm an (.ref c) ct ∧ K.lookup a = some ⟨oc, od, .func fd, osl⟩ ∧ PySem.W.codeIn K (.ref c) q = true
structure ExcAt (K : PySem.W.Frag) (mg : Str → Option Value) (n : Str) (ch : List Value) where
  a : Addr
  g : mg n = some (.ref a)
  x : PySem.W.excIn K a ch "ValueError.__new__" = true
  kc : PySem.W.keepIn K (.ref a) = true
  bc : PySem.W.subIn K (.ref a) (.type "BaseException") = some true
  tc : PySem.W.typeIn K (.ref a) = some (.type "type")
set_option maxHeartbeats 4000000 in
structure Top (K : PySem.W.Frag) (mg : Str → Option Value) where
  d_doubled : DefAt K mg "doubled" s_doubled ["board"]
  d_can_halve : DefAt K mg "can_halve" s_can_halve ["board"]
  d_halved : DefAt K mg "halved" s_halved ["board"]
  d_parted_at : DefAt K mg "parted_at" s_parted_at ["board", "bits"]
  d_joined_at : DefAt K mg "joined_at" s_joined_at ["board", "bits"]
  a_RoomError : Addr
  g_RoomError : mg "RoomError" = some (.ref a_RoomError)
  d_BadName : ExcAt K mg "BadName" [.type "ValueError", .type "Exception", .type "BaseException", .type "object"]
  d_BadBound : ExcAt K mg "BadBound" [.type "ValueError", .type "Exception", .type "BaseException", .type "object"]
  d_NoThing : ExcAt K mg "NoThing" [.type "ValueError", .type "Exception", .type "BaseException", .type "object"]
  a_NoStore : Addr
  g_NoStore : mg "NoStore" = some (.ref a_NoStore)
  c_SIGNS : {t : Tok // mg "SIGNS" = some (.int 8 t)}
  c_NAMES : {t : Tok // mg "NAMES" = some (.int 256 t)}
  c_FACTOR : {t : Tok // mg "FACTOR" = some (.int 171 t)}
  c_SHIFT : {t : Tok // mg "SHIFT" = some (.int 37 t)}
  d_check_name : DefAt K mg "check_name" s_check_name ["name"]
  d_mixed : DefAt K mg "mixed" s_mixed ["name"]
  d_signs : DefAt K mg "signs" s_signs ["name"]
  d_with_thing : DefAt K mg "with_thing" s_with_thing ["things", "name", "value"]
  d_without_thing : DefAt K mg "without_thing" s_without_thing ["things", "name"]
  d_value_in : DefAt K mg "value_in" s_value_in ["things", "name"]
  d_next_sign : DefAt K mg "next_sign" s_next_sign ["bits", "name"]
  d_parted : DefAt K mg "parted" s_parted ["room"]
  d_joined : DefAt K mg "joined" s_joined ["one", "other"]
  c_LEAST_BOUND : {t : Tok // mg "LEAST_BOUND" = some (.int 1 t)}
  c_GREATEST_BOUND : {t : Tok // mg "GREATEST_BOUND" = some (.int 64 t)}
  d_check_bound : DefAt K mg "check_bound" s_check_bound ["bound"]
  d_Store : ClsAt K mg
  d_m___init__ : MethAt K d_Store.a "__init__" "Store.__init__" s_m___init__ ["self", "bound"]
  d_m_put : MethAt K d_Store.a "put" "Store.put" s_m_put ["self", "name", "value"]
  d_m_take : MethAt K d_Store.a "take" "Store.take" s_m_take ["self", "name"]
  d_m_find : MethAt K d_Store.a "find" "Store.find" s_m_find ["self", "name"]
  d_m_look : MethAt K d_Store.a "look" "Store.look" s_m_look ["self", "name"]
  d_m_size : MethAt K d_Store.a "size" "Store.size" s_m_size ["self"]
  d_m_board : MethAt K d_Store.a "board" "Store.board" s_m_board ["self"]
  d_m_rooms : MethAt K d_Store.a "rooms" "Store.rooms" s_m_rooms ["self"]
  d_m_things : MethAt K d_Store.a "things" "Store.things" s_m_things ["self"]
  d_m__place_of : MethAt K d_Store.a "_place_of" "Store._place_of" s_m__place_of ["self", "name"]
  d_m__bits_of : MethAt K d_Store.a "_bits_of" "Store._bits_of" s_m__bits_of ["self", "name"]
  d_m__part_for : MethAt K d_Store.a "_part_for" "Store._part_for" s_m__part_for ["self", "name"]
  d_m__part : MethAt K d_Store.a "_part" "Store._part" s_m__part ["self", "bits"]
  d_m__join_from : MethAt K d_Store.a "_join_from" "Store._join_from" s_m__join_from ["self", "bits"]
  d_m__can_join : MethAt K d_Store.a "_can_join" "Store._can_join" s_m__can_join ["self", "bits"]
  d_m__join : MethAt K d_Store.a "_join" "Store._join" s_m__join ["self", "bits"]
  d_m__halve_board : MethAt K d_Store.a "_halve_board" "Store._halve_board" s_m__halve_board ["self"]
  c_BOUND_WORD : {t : Tok // mg "BOUND_WORD" = some (.str "bound " t)}
  c_FIGURES : {t : Tok // mg "FIGURES" = some (.int 60 t)}
  d_written : DefAt K mg "written" s_written ["store"]
  d_row_of : DefAt K mg "row_of" s_row_of ["bits", "things"]
  d_read : DefAt K mg "read" s_read ["text"]
  d_things_in : DefAt K mg "things_in" s_things_in ["row"]
  d_number_in : DefAt K mg "number_in" s_number_in ["word"]
  d_l_whole : DefAt K mg "_law_whole" s_l_whole ["_law_found"]
  d_l_cell_at : DefAt K mg "_law_cell_at" s_l_cell_at ["_law_script", "_law_k"]
  d_l_none : DefAt K mg "_law_none" s_l_none ["_law_cell"]
  d_l_bound_by : DefAt K mg "_law_bound_by" s_l_bound_by ["_law_cell"]
  d_l_alone : DefAt K mg "_law_alone" s_l_alone ["_law_e", "_law_which"]
  d_l_made : DefAt K mg "_law_made" s_l_made ["_law_thing"]
  d_l_asked : DefAt K mg "_law_asked" s_l_asked ["_law_store", "_law_way", "_law_thing"]
  d_l_refused : DefAt K mg "_law_refused" s_l_refused ["_law_store", "_law_way", "_law_thing"]
  d_l_lacks : DefAt K mg "_law_lacks" s_l_lacks ["_law_store", "_law_name"]
  d_law : DefAt K mg "law" s_law ["_law_script"]
  z_ValueError : mg "ValueError" = none
  z_bool : mg "bool" = none
  z_int : mg "int" = none
  z_isinstance : mg "isinstance" = none
  z_len : mg "len" = none
  z_list : mg "list" = none
  z_range : mg "range" = none
  z_sorted : mg "sorted" = none
  z_sum : mg "sum" = none
  z_type : mg "type" = none
  t_joined : LamAt K "joined" "joined" s_joined d_joined.a d_joined.fd
  t_m_things : LamAt K "things" "Store.things" s_m_things d_m_things.a d_m_things.fd
  X_NoThing : L2.ExcC K d_NoThing.a
  X_BadName : L2.ExcC K d_BadName.a
  X_BadBound : L2.ExcC K d_BadBound.a
  k_NoThing_NoThing : PySem.W.kitOne K (.ref d_NoThing.a) (.ref d_NoThing.a) = some true
  k_NoThing_BadName : PySem.W.kitOne K (.ref d_NoThing.a) (.ref d_BadName.a) = some false
  k_NoThing_BadBound : PySem.W.kitOne K (.ref d_NoThing.a) (.ref d_BadBound.a) = some false
  k_NoThing_NoStore : PySem.W.kitOne K (.ref d_NoThing.a) (.ref a_NoStore) = some false
  k_BadName_NoThing : PySem.W.kitOne K (.ref d_BadName.a) (.ref d_NoThing.a) = some false
  k_BadName_BadName : PySem.W.kitOne K (.ref d_BadName.a) (.ref d_BadName.a) = some true
  k_BadName_BadBound : PySem.W.kitOne K (.ref d_BadName.a) (.ref d_BadBound.a) = some false
  k_BadName_NoStore : PySem.W.kitOne K (.ref d_BadName.a) (.ref a_NoStore) = some false
  k_BadBound_NoThing : PySem.W.kitOne K (.ref d_BadBound.a) (.ref d_NoThing.a) = some false
  k_BadBound_BadName : PySem.W.kitOne K (.ref d_BadBound.a) (.ref d_BadName.a) = some false
  k_BadBound_BadBound : PySem.W.kitOne K (.ref d_BadBound.a) (.ref d_BadBound.a) = some true
  k_BadBound_NoStore : PySem.W.kitOne K (.ref d_BadBound.a) (.ref a_NoStore) = some false
  k_NoThing_ValueError : PySem.W.kitOne K (.ref d_NoThing.a) (.type "ValueError") = some true
  k_BadName_ValueError : PySem.W.kitOne K (.ref d_BadName.a) (.type "ValueError") = some true
  k_BadBound_ValueError : PySem.W.kitOne K (.ref d_BadBound.a) (.type "ValueError") = some true
  e_NoThing_NoThing : PySem.W.exmOne K (.ref d_NoThing.a) (.ref d_NoThing.a) = some true
  e_NoThing_RoomError : PySem.W.exmOne K (.ref d_NoThing.a) (.ref a_RoomError) = some true
  e_BadName_BadName : PySem.W.exmOne K (.ref d_BadName.a) (.ref d_BadName.a) = some true
  e_BadName_RoomError : PySem.W.exmOne K (.ref d_BadName.a) (.ref a_RoomError) = some true
  e_BadBound_BadBound : PySem.W.exmOne K (.ref d_BadBound.a) (.ref d_BadBound.a) = some true
  e_BadBound_RoomError : PySem.W.exmOne K (.ref d_BadBound.a) (.ref a_RoomError) = some true
section
variable {K : PySem.W.Frag} {mg : Str → Option Value}
abbrev Top.a_doubled (T : Top K mg) := T.d_doubled.a
abbrev Top.fd_doubled (T : Top K mg) := T.d_doubled.fd
abbrev Top.F_doubled (T : Top K mg) := T.d_doubled.F
abbrev Top.g_doubled (T : Top K mg) := T.d_doubled.g
abbrev Top.b_doubled (T : Top K mg) := T.d_doubled.b
abbrev Top.a_can_halve (T : Top K mg) := T.d_can_halve.a
abbrev Top.fd_can_halve (T : Top K mg) := T.d_can_halve.fd
abbrev Top.F_can_halve (T : Top K mg) := T.d_can_halve.F
abbrev Top.g_can_halve (T : Top K mg) := T.d_can_halve.g
abbrev Top.b_can_halve (T : Top K mg) := T.d_can_halve.b
abbrev Top.a_halved (T : Top K mg) := T.d_halved.a
abbrev Top.fd_halved (T : Top K mg) := T.d_halved.fd
abbrev Top.F_halved (T : Top K mg) := T.d_halved.F
abbrev Top.g_halved (T : Top K mg) := T.d_halved.g
abbrev Top.b_halved (T : Top K mg) := T.d_halved.b
abbrev Top.a_parted_at (T : Top K mg) := T.d_parted_at.a
abbrev Top.fd_parted_at (T : Top K mg) := T.d_parted_at.fd
abbrev Top.F_parted_at (T : Top K mg) := T.d_parted_at.F
abbrev Top.g_parted_at (T : Top K mg) := T.d_parted_at.g
abbrev Top.b_parted_at (T : Top K mg) := T.d_parted_at.b
abbrev Top.a_joined_at (T : Top K mg) := T.d_joined_at.a
abbrev Top.fd_joined_at (T : Top K mg) := T.d_joined_at.fd
abbrev Top.F_joined_at (T : Top K mg) := T.d_joined_at.F
abbrev Top.g_joined_at (T : Top K mg) := T.d_joined_at.g
abbrev Top.b_joined_at (T : Top K mg) := T.d_joined_at.b
abbrev Top.a_BadName (T : Top K mg) := T.d_BadName.a
abbrev Top.g_BadName (T : Top K mg) := T.d_BadName.g
abbrev Top.x_BadName (T : Top K mg) := T.d_BadName.x
abbrev Top.kc_BadName (T : Top K mg) := T.d_BadName.kc
abbrev Top.bc_BadName (T : Top K mg) := T.d_BadName.bc
abbrev Top.tc_BadName (T : Top K mg) := T.d_BadName.tc
abbrev Top.a_BadBound (T : Top K mg) := T.d_BadBound.a
abbrev Top.g_BadBound (T : Top K mg) := T.d_BadBound.g
abbrev Top.x_BadBound (T : Top K mg) := T.d_BadBound.x
abbrev Top.kc_BadBound (T : Top K mg) := T.d_BadBound.kc
abbrev Top.bc_BadBound (T : Top K mg) := T.d_BadBound.bc
abbrev Top.tc_BadBound (T : Top K mg) := T.d_BadBound.tc
abbrev Top.a_NoThing (T : Top K mg) := T.d_NoThing.a
abbrev Top.g_NoThing (T : Top K mg) := T.d_NoThing.g
abbrev Top.x_NoThing (T : Top K mg) := T.d_NoThing.x
abbrev Top.kc_NoThing (T : Top K mg) := T.d_NoThing.kc
abbrev Top.bc_NoThing (T : Top K mg) := T.d_NoThing.bc
abbrev Top.tc_NoThing (T : Top K mg) := T.d_NoThing.tc
abbrev Top.a_check_name (T : Top K mg) := T.d_check_name.a
abbrev Top.fd_check_name (T : Top K mg) := T.d_check_name.fd
abbrev Top.F_check_name (T : Top K mg) := T.d_check_name.F
abbrev Top.g_check_name (T : Top K mg) := T.d_check_name.g
abbrev Top.b_check_name (T : Top K mg) := T.d_check_name.b
abbrev Top.a_mixed (T : Top K mg) := T.d_mixed.a
abbrev Top.fd_mixed (T : Top K mg) := T.d_mixed.fd
abbrev Top.F_mixed (T : Top K mg) := T.d_mixed.F
abbrev Top.g_mixed (T : Top K mg) := T.d_mixed.g
abbrev Top.b_mixed (T : Top K mg) := T.d_mixed.b
abbrev Top.a_signs (T : Top K mg) := T.d_signs.a
abbrev Top.fd_signs (T : Top K mg) := T.d_signs.fd
abbrev Top.F_signs (T : Top K mg) := T.d_signs.F
abbrev Top.g_signs (T : Top K mg) := T.d_signs.g
abbrev Top.b_signs (T : Top K mg) := T.d_signs.b
abbrev Top.a_with_thing (T : Top K mg) := T.d_with_thing.a
abbrev Top.fd_with_thing (T : Top K mg) := T.d_with_thing.fd
abbrev Top.F_with_thing (T : Top K mg) := T.d_with_thing.F
abbrev Top.g_with_thing (T : Top K mg) := T.d_with_thing.g
abbrev Top.b_with_thing (T : Top K mg) := T.d_with_thing.b
abbrev Top.a_without_thing (T : Top K mg) := T.d_without_thing.a
abbrev Top.fd_without_thing (T : Top K mg) := T.d_without_thing.fd
abbrev Top.F_without_thing (T : Top K mg) := T.d_without_thing.F
abbrev Top.g_without_thing (T : Top K mg) := T.d_without_thing.g
abbrev Top.b_without_thing (T : Top K mg) := T.d_without_thing.b
abbrev Top.a_value_in (T : Top K mg) := T.d_value_in.a
abbrev Top.fd_value_in (T : Top K mg) := T.d_value_in.fd
abbrev Top.F_value_in (T : Top K mg) := T.d_value_in.F
abbrev Top.g_value_in (T : Top K mg) := T.d_value_in.g
abbrev Top.b_value_in (T : Top K mg) := T.d_value_in.b
abbrev Top.a_next_sign (T : Top K mg) := T.d_next_sign.a
abbrev Top.fd_next_sign (T : Top K mg) := T.d_next_sign.fd
abbrev Top.F_next_sign (T : Top K mg) := T.d_next_sign.F
abbrev Top.g_next_sign (T : Top K mg) := T.d_next_sign.g
abbrev Top.b_next_sign (T : Top K mg) := T.d_next_sign.b
abbrev Top.a_parted (T : Top K mg) := T.d_parted.a
abbrev Top.fd_parted (T : Top K mg) := T.d_parted.fd
abbrev Top.F_parted (T : Top K mg) := T.d_parted.F
abbrev Top.g_parted (T : Top K mg) := T.d_parted.g
abbrev Top.b_parted (T : Top K mg) := T.d_parted.b
abbrev Top.a_joined (T : Top K mg) := T.d_joined.a
abbrev Top.fd_joined (T : Top K mg) := T.d_joined.fd
abbrev Top.F_joined (T : Top K mg) := T.d_joined.F
abbrev Top.g_joined (T : Top K mg) := T.d_joined.g
abbrev Top.b_joined (T : Top K mg) := T.d_joined.b
abbrev Top.a_check_bound (T : Top K mg) := T.d_check_bound.a
abbrev Top.fd_check_bound (T : Top K mg) := T.d_check_bound.fd
abbrev Top.F_check_bound (T : Top K mg) := T.d_check_bound.F
abbrev Top.g_check_bound (T : Top K mg) := T.d_check_bound.g
abbrev Top.b_check_bound (T : Top K mg) := T.d_check_bound.b
abbrev Top.a_Store (T : Top K mg) := T.d_Store.a
abbrev Top.g_Store (T : Top K mg) := T.d_Store.g
abbrev Top.cl_Store (T : Top K mg) := T.d_Store.cl
abbrev Top.a_m___init__ (T : Top K mg) := T.d_m___init__.a
abbrev Top.fd_m___init__ (T : Top K mg) := T.d_m___init__.fd
abbrev Top.F_m___init__ (T : Top K mg) := T.d_m___init__.F
abbrev Top.M_m___init__ (T : Top K mg) := T.d_m___init__.M
abbrev Top.b_m___init__ (T : Top K mg) := T.d_m___init__.b
theorem Top.mk_Store (T : Top K mg) : Mk K T.d_Store.a T.d_m___init__.a := ⟨T.d_Store.mkI, T.d_m___init__.M.at_, T.d_m___init__.M.fn, T.d_Store.kpI⟩
abbrev Top.a_m_put (T : Top K mg) := T.d_m_put.a
abbrev Top.fd_m_put (T : Top K mg) := T.d_m_put.fd
abbrev Top.F_m_put (T : Top K mg) := T.d_m_put.F
abbrev Top.M_m_put (T : Top K mg) := T.d_m_put.M
abbrev Top.b_m_put (T : Top K mg) := T.d_m_put.b
abbrev Top.a_m_take (T : Top K mg) := T.d_m_take.a
abbrev Top.fd_m_take (T : Top K mg) := T.d_m_take.fd
abbrev Top.F_m_take (T : Top K mg) := T.d_m_take.F
abbrev Top.M_m_take (T : Top K mg) := T.d_m_take.M
abbrev Top.b_m_take (T : Top K mg) := T.d_m_take.b
abbrev Top.a_m_find (T : Top K mg) := T.d_m_find.a
abbrev Top.fd_m_find (T : Top K mg) := T.d_m_find.fd
abbrev Top.F_m_find (T : Top K mg) := T.d_m_find.F
abbrev Top.M_m_find (T : Top K mg) := T.d_m_find.M
abbrev Top.b_m_find (T : Top K mg) := T.d_m_find.b
abbrev Top.a_m_look (T : Top K mg) := T.d_m_look.a
abbrev Top.fd_m_look (T : Top K mg) := T.d_m_look.fd
abbrev Top.F_m_look (T : Top K mg) := T.d_m_look.F
abbrev Top.M_m_look (T : Top K mg) := T.d_m_look.M
abbrev Top.b_m_look (T : Top K mg) := T.d_m_look.b
abbrev Top.a_m_size (T : Top K mg) := T.d_m_size.a
abbrev Top.fd_m_size (T : Top K mg) := T.d_m_size.fd
abbrev Top.F_m_size (T : Top K mg) := T.d_m_size.F
abbrev Top.M_m_size (T : Top K mg) := T.d_m_size.M
abbrev Top.b_m_size (T : Top K mg) := T.d_m_size.b
abbrev Top.a_m_board (T : Top K mg) := T.d_m_board.a
abbrev Top.fd_m_board (T : Top K mg) := T.d_m_board.fd
abbrev Top.F_m_board (T : Top K mg) := T.d_m_board.F
abbrev Top.M_m_board (T : Top K mg) := T.d_m_board.M
abbrev Top.b_m_board (T : Top K mg) := T.d_m_board.b
abbrev Top.a_m_rooms (T : Top K mg) := T.d_m_rooms.a
abbrev Top.fd_m_rooms (T : Top K mg) := T.d_m_rooms.fd
abbrev Top.F_m_rooms (T : Top K mg) := T.d_m_rooms.F
abbrev Top.M_m_rooms (T : Top K mg) := T.d_m_rooms.M
abbrev Top.b_m_rooms (T : Top K mg) := T.d_m_rooms.b
abbrev Top.a_m_things (T : Top K mg) := T.d_m_things.a
abbrev Top.fd_m_things (T : Top K mg) := T.d_m_things.fd
abbrev Top.F_m_things (T : Top K mg) := T.d_m_things.F
abbrev Top.M_m_things (T : Top K mg) := T.d_m_things.M
abbrev Top.b_m_things (T : Top K mg) := T.d_m_things.b
abbrev Top.a_m__place_of (T : Top K mg) := T.d_m__place_of.a
abbrev Top.fd_m__place_of (T : Top K mg) := T.d_m__place_of.fd
abbrev Top.F_m__place_of (T : Top K mg) := T.d_m__place_of.F
abbrev Top.M_m__place_of (T : Top K mg) := T.d_m__place_of.M
abbrev Top.b_m__place_of (T : Top K mg) := T.d_m__place_of.b
abbrev Top.a_m__bits_of (T : Top K mg) := T.d_m__bits_of.a
abbrev Top.fd_m__bits_of (T : Top K mg) := T.d_m__bits_of.fd
abbrev Top.F_m__bits_of (T : Top K mg) := T.d_m__bits_of.F
abbrev Top.M_m__bits_of (T : Top K mg) := T.d_m__bits_of.M
abbrev Top.b_m__bits_of (T : Top K mg) := T.d_m__bits_of.b
abbrev Top.a_m__part_for (T : Top K mg) := T.d_m__part_for.a
abbrev Top.fd_m__part_for (T : Top K mg) := T.d_m__part_for.fd
abbrev Top.F_m__part_for (T : Top K mg) := T.d_m__part_for.F
abbrev Top.M_m__part_for (T : Top K mg) := T.d_m__part_for.M
abbrev Top.b_m__part_for (T : Top K mg) := T.d_m__part_for.b
abbrev Top.a_m__part (T : Top K mg) := T.d_m__part.a
abbrev Top.fd_m__part (T : Top K mg) := T.d_m__part.fd
abbrev Top.F_m__part (T : Top K mg) := T.d_m__part.F
abbrev Top.M_m__part (T : Top K mg) := T.d_m__part.M
abbrev Top.b_m__part (T : Top K mg) := T.d_m__part.b
abbrev Top.a_m__join_from (T : Top K mg) := T.d_m__join_from.a
abbrev Top.fd_m__join_from (T : Top K mg) := T.d_m__join_from.fd
abbrev Top.F_m__join_from (T : Top K mg) := T.d_m__join_from.F
abbrev Top.M_m__join_from (T : Top K mg) := T.d_m__join_from.M
abbrev Top.b_m__join_from (T : Top K mg) := T.d_m__join_from.b
abbrev Top.a_m__can_join (T : Top K mg) := T.d_m__can_join.a
abbrev Top.fd_m__can_join (T : Top K mg) := T.d_m__can_join.fd
abbrev Top.F_m__can_join (T : Top K mg) := T.d_m__can_join.F
abbrev Top.M_m__can_join (T : Top K mg) := T.d_m__can_join.M
abbrev Top.b_m__can_join (T : Top K mg) := T.d_m__can_join.b
abbrev Top.a_m__join (T : Top K mg) := T.d_m__join.a
abbrev Top.fd_m__join (T : Top K mg) := T.d_m__join.fd
abbrev Top.F_m__join (T : Top K mg) := T.d_m__join.F
abbrev Top.M_m__join (T : Top K mg) := T.d_m__join.M
abbrev Top.b_m__join (T : Top K mg) := T.d_m__join.b
abbrev Top.a_m__halve_board (T : Top K mg) := T.d_m__halve_board.a
abbrev Top.fd_m__halve_board (T : Top K mg) := T.d_m__halve_board.fd
abbrev Top.F_m__halve_board (T : Top K mg) := T.d_m__halve_board.F
abbrev Top.M_m__halve_board (T : Top K mg) := T.d_m__halve_board.M
abbrev Top.b_m__halve_board (T : Top K mg) := T.d_m__halve_board.b
abbrev Top.a_written (T : Top K mg) := T.d_written.a
abbrev Top.fd_written (T : Top K mg) := T.d_written.fd
abbrev Top.F_written (T : Top K mg) := T.d_written.F
abbrev Top.g_written (T : Top K mg) := T.d_written.g
abbrev Top.b_written (T : Top K mg) := T.d_written.b
abbrev Top.a_row_of (T : Top K mg) := T.d_row_of.a
abbrev Top.fd_row_of (T : Top K mg) := T.d_row_of.fd
abbrev Top.F_row_of (T : Top K mg) := T.d_row_of.F
abbrev Top.g_row_of (T : Top K mg) := T.d_row_of.g
abbrev Top.b_row_of (T : Top K mg) := T.d_row_of.b
abbrev Top.a_read (T : Top K mg) := T.d_read.a
abbrev Top.fd_read (T : Top K mg) := T.d_read.fd
abbrev Top.F_read (T : Top K mg) := T.d_read.F
abbrev Top.g_read (T : Top K mg) := T.d_read.g
abbrev Top.b_read (T : Top K mg) := T.d_read.b
abbrev Top.a_things_in (T : Top K mg) := T.d_things_in.a
abbrev Top.fd_things_in (T : Top K mg) := T.d_things_in.fd
abbrev Top.F_things_in (T : Top K mg) := T.d_things_in.F
abbrev Top.g_things_in (T : Top K mg) := T.d_things_in.g
abbrev Top.b_things_in (T : Top K mg) := T.d_things_in.b
abbrev Top.a_number_in (T : Top K mg) := T.d_number_in.a
abbrev Top.fd_number_in (T : Top K mg) := T.d_number_in.fd
abbrev Top.F_number_in (T : Top K mg) := T.d_number_in.F
abbrev Top.g_number_in (T : Top K mg) := T.d_number_in.g
abbrev Top.b_number_in (T : Top K mg) := T.d_number_in.b
abbrev Top.a_l_whole (T : Top K mg) := T.d_l_whole.a
abbrev Top.fd_l_whole (T : Top K mg) := T.d_l_whole.fd
abbrev Top.F_l_whole (T : Top K mg) := T.d_l_whole.F
abbrev Top.g_l_whole (T : Top K mg) := T.d_l_whole.g
abbrev Top.b_l_whole (T : Top K mg) := T.d_l_whole.b
abbrev Top.a_l_cell_at (T : Top K mg) := T.d_l_cell_at.a
abbrev Top.fd_l_cell_at (T : Top K mg) := T.d_l_cell_at.fd
abbrev Top.F_l_cell_at (T : Top K mg) := T.d_l_cell_at.F
abbrev Top.g_l_cell_at (T : Top K mg) := T.d_l_cell_at.g
abbrev Top.b_l_cell_at (T : Top K mg) := T.d_l_cell_at.b
abbrev Top.a_l_none (T : Top K mg) := T.d_l_none.a
abbrev Top.fd_l_none (T : Top K mg) := T.d_l_none.fd
abbrev Top.F_l_none (T : Top K mg) := T.d_l_none.F
abbrev Top.g_l_none (T : Top K mg) := T.d_l_none.g
abbrev Top.b_l_none (T : Top K mg) := T.d_l_none.b
abbrev Top.a_l_bound_by (T : Top K mg) := T.d_l_bound_by.a
abbrev Top.fd_l_bound_by (T : Top K mg) := T.d_l_bound_by.fd
abbrev Top.F_l_bound_by (T : Top K mg) := T.d_l_bound_by.F
abbrev Top.g_l_bound_by (T : Top K mg) := T.d_l_bound_by.g
abbrev Top.b_l_bound_by (T : Top K mg) := T.d_l_bound_by.b
abbrev Top.a_l_alone (T : Top K mg) := T.d_l_alone.a
abbrev Top.fd_l_alone (T : Top K mg) := T.d_l_alone.fd
abbrev Top.F_l_alone (T : Top K mg) := T.d_l_alone.F
abbrev Top.g_l_alone (T : Top K mg) := T.d_l_alone.g
abbrev Top.b_l_alone (T : Top K mg) := T.d_l_alone.b
abbrev Top.a_l_made (T : Top K mg) := T.d_l_made.a
abbrev Top.fd_l_made (T : Top K mg) := T.d_l_made.fd
abbrev Top.F_l_made (T : Top K mg) := T.d_l_made.F
abbrev Top.g_l_made (T : Top K mg) := T.d_l_made.g
abbrev Top.b_l_made (T : Top K mg) := T.d_l_made.b
abbrev Top.a_l_asked (T : Top K mg) := T.d_l_asked.a
abbrev Top.fd_l_asked (T : Top K mg) := T.d_l_asked.fd
abbrev Top.F_l_asked (T : Top K mg) := T.d_l_asked.F
abbrev Top.g_l_asked (T : Top K mg) := T.d_l_asked.g
abbrev Top.b_l_asked (T : Top K mg) := T.d_l_asked.b
abbrev Top.a_l_refused (T : Top K mg) := T.d_l_refused.a
abbrev Top.fd_l_refused (T : Top K mg) := T.d_l_refused.fd
abbrev Top.F_l_refused (T : Top K mg) := T.d_l_refused.F
abbrev Top.g_l_refused (T : Top K mg) := T.d_l_refused.g
abbrev Top.b_l_refused (T : Top K mg) := T.d_l_refused.b
abbrev Top.a_l_lacks (T : Top K mg) := T.d_l_lacks.a
abbrev Top.fd_l_lacks (T : Top K mg) := T.d_l_lacks.fd
abbrev Top.F_l_lacks (T : Top K mg) := T.d_l_lacks.F
abbrev Top.g_l_lacks (T : Top K mg) := T.d_l_lacks.g
abbrev Top.b_l_lacks (T : Top K mg) := T.d_l_lacks.b
abbrev Top.a_law (T : Top K mg) := T.d_law.a
abbrev Top.fd_law (T : Top K mg) := T.d_law.fd
abbrev Top.F_law (T : Top K mg) := T.d_law.F
abbrev Top.g_law (T : Top K mg) := T.d_law.g
abbrev Top.b_law (T : Top K mg) := T.d_law.b
abbrev Top.c_joined (T : Top K mg) := T.t_joined.c
abbrev Top.P_joined (T : Top K mg) := T.t_joined.P
abbrev Top.L_joined (T : Top K mg) := T.t_joined.L
abbrev Top.c_m_things (T : Top K mg) := T.t_m_things.c
abbrev Top.P_m_things (T : Top K mg) := T.t_m_things.P
abbrev Top.L_m_things (T : Top K mg) := T.t_m_things.L
end
/-- what is known of the tables -/
structure Tabs {K : PySem.W.Frag} {mg : Str → Option Value} (base : Heap) (T : Top K mg) [TabCx] : Prop where
  joined : LamX.TabB base mg T.c_joined T.P_joined ∧ (T.P_joined, lq_joined) ∈ TabCx.T
  things : LamX.TabB base mg T.c_m_things T.P_m_things ∧ (T.P_m_things, lq_things) ∈ TabCx.T
/-! ### mixed names and signs, of names -/
section
variable {P : Program} {w : World} {K : PySem.W.Frag} {mg : Str → Option Value} {base : Heap} [TabCx]
def spCheck : Sp := fun vs H Q _ => ∃ n : Int, vs = [.int n] ∧ (0 ≤ n ∧ n < 256) ∧ RetV .non H Q
theorem ok_check_name (T : Top K mg) : FnOk P w K mg base CX0 1 T.a_check_name T.fd_check_name ["name"] spCheck := by
  refine T.F_check_name.ok sc_check_name (fun vs H Q E h => ?_) (fun cdv A outer s H vs Q E hr h => ?_)
  · obtain ⟨n, rfl, _⟩ := h
    rfl
  · obtain ⟨n, rfl, hn, k⟩ := h
    refine ⟨_, (pss_one (ps_if (PW.pt (pw_or (pt_cmpR op_notTyB (pe_callTy (r := rTyp K) call_type1 (by rfl) T.z_type (by decide +kernel) (pa_cons (pv 0) pa_nil)) (pe_bltn (v := .ty "int") (by rfl) T.z_int (by decide +kernel) rfl) (nomark _)) (pw_or1 (pt_not (pt_chain op_le op_lt pe_int (pv 0) (pe_glob (v := .int 256) rfl T.c_NAMES.2 ⟨_, rfl⟩)))))) (pss_one ps_never) pss_nil)), ?_⟩
    walk_at "when"
    · intro hb
      simp at hb
      omega
    · exact fun _ => k
def spMixed : Sp := fun vs H Q _ => ∃ n : Int, vs = [.int n] ∧ (0 ≤ n ∧ n < 256) ∧ RetV (.int (mx n : Nat)) H Q
theorem spv_check {n : Int} {H : Hp} (hn : 0 ≤ n ∧ n < 256) : SpV spCheck [.int n] H .non := fun A _ Q q E => ⟨n, rfl, hn, q⟩
local macro_rules | `(tactic| walk_at "spv") => `(tactic| exact spv_check (by assumption))
theorem mx_int {n : Int} (hn : 0 ≤ n ∧ n < 256) : (171 * n + 37) % 256 = ((mx n : Nat) : Int) := by
  unfold mx mixN
  omega
theorem ok_mixed (T : Top K mg) : FnOk P w K mg base CX0 2 T.a_mixed T.fd_mixed ["name"] spMixed := by
  refine T.F_mixed.ok sc_mixed (fun vs H Q E h => ?_) (fun cdv A outer s H vs Q E hr h => ?_)
  · obtain ⟨n, rfl, _⟩ := h
    rfl
  · obtain ⟨n, rfl, hn, k⟩ := h
    refine ⟨_, (pss_cons (ps_expr (pe_call (ok_check_name T) (hr.mono (by decide)) rfl T.g_check_name T.F_check_name.kp T.b_check_name .nil pass0 (pa_cons (pv 0) pa_nil)))
      (pss_one (ps_ret (pe_op op_mod (pe_op op_add (pe_op op_mul (pe_glob (v := .int 171) rfl T.c_FACTOR.2 ⟨_, rfl⟩) (pv 0)) (pe_glob (v := .int 37) rfl T.c_SHIFT.2 ⟨_, rfl⟩)) (pe_glob (v := .int 256) rfl T.c_NAMES.2 ⟨_, rfl⟩))))), ?_⟩
    walk_at "drop"
    intro H1 e1
    walk_at "ret"
    have k1 := RetV.mono e1 k
    rw [← mx_int hn] at k1
    exact k1
theorem spv_mixed {n : Int} {H : Hp} (hn : 0 ≤ n ∧ n < 256) : SpV spMixed [.int n] H (.int (mx n : Nat)) := fun A _ Q q E => ⟨n, rfl, hn, q⟩
local macro_rules | `(tactic| walk_at "spv") => `(tactic| exact spv_mixed (by assumption))
local macro_rules | `(tactic| walk_at "ev") => `(tactic| ((with_reducible apply ev_fmtB); walk_at "ev"; exact mx_lt _))
local macro_rules | `(tactic| walk_at "ev") => `(tactic| ((with_reducible apply ev_zfill); walk_at "ev"; walk_at "ea"; decide +kernel))
/-- the signs of a name -/
def sig (n : Int) : Str := bt (8, mx n)
def spSigns : Sp := fun vs H Q _ => ∃ n : Int, vs = [.int n] ∧ (0 ≤ n ∧ n < 256) ∧ RetV (.str (sig n)) H Q
theorem ok_signs (T : Top K mg) : FnOk P w K mg base CX0 3 T.a_signs T.fd_signs ["name"] spSigns := by
  refine T.F_signs.ok sc_signs (fun vs H Q E h => ?_) (fun cdv A outer s H vs Q E hr h => ?_)
  · obtain ⟨n, rfl, _⟩ := h
    rfl
  · obtain ⟨n, rfl, hn, k⟩ := h
    refine ⟨_, (pss_cons (ps_set (i := 1) sc_signs.nd rfl (Or.inl rfl) (pe_joined1 (pe_fmtB (pe_call (ok_mixed T) (hr.mono (by decide)) rfl T.g_mixed T.F_mixed.kp T.b_mixed .nil pass0 (pa_cons (pv 0) pa_nil)))))
      (pss_one (ps_ret (pe_bm PySem.F.plainAttrs_str PySem.F.slot_str_zfill PySem.F.type_str_zfill mt_zfill (pv 1) (pa_cons (pe_glob (v := .int 8) rfl T.c_SIGNS.2 ⟨_, rfl⟩) pa_nil))))), ?_⟩
    walk_at "asg"
    intro H1 e1
    walk_at "ret"
    rw [zf8 _ (mx_lt n)]
    exact RetV.mono e1 k
theorem spv_signs {n : Int} {H : Hp} (hn : 0 ≤ n ∧ n < 256) : SpV spSigns [.int n] H (.str (sig n)) := fun A _ Q q E => ⟨n, rfl, hn, q⟩
local macro_rules | `(tactic| walk_at "spv") => `(tactic| exact spv_signs (by assumption))
/-! ### rooms -/
/-- the sign behind the first d ones -/
def nxs (d : Nat) (n : Int) : Str := ⟨#[48 + mx n / 2 ^ (8 - 1 - d) % 2]⟩
def spNext : Sp := fun vs H Q _ => ∃ (c : Code) (n : Int), vs = [.str (bt c), .int n] ∧ c.1 < 8 ∧ (0 ≤ n ∧ n < 256) ∧ RetV (.str (nxs c.1 n)) H Q
theorem cut_sign (m d : Nat) (h : d < 8) : cutS (bt (8, m)) (some (d : Int)) (some ((d : Int) + 1)) = ⟨#[48 + m / 2 ^ (8 - 1 - d) % 2]⟩ := by
  unfold cutS
  rw [show ((d : Int) + 1) = ((d + 1 : Nat) : Int) by omega, HT.sIx_nat, HT.sIx_nat, bt_len]
  show (⟨(((bl 8 m).toArray.toList.drop (min d 8)).take (min (d + 1) 8 - min d 8)).toArray⟩ : Str) = _
  rw [List.toList_toArray, show min d 8 = d by omega, show min (d + 1) 8 - d = 1 by omega]
  have hl : d < (bl 8 m).length := by rw [bl_len]; exact h
  rw [List.drop_eq_getElem_cons hl]
  have := bl_get m h
  rw [List.getElem?_eq_getElem hl] at this
  rw [Option.some.inj this]
  rfl
theorem ok_next_sign (T : Top K mg) : FnOk P w K mg base CX0 4 T.a_next_sign T.fd_next_sign ["bits", "name"] spNext := by
  refine T.F_next_sign.ok sc_next_sign (fun vs H Q E h => ?_) (fun cdv A outer s H vs Q E hr h => ?_)
  · obtain ⟨s, n, rfl, _⟩ := h
    rfl
  · obtain ⟨c, n, rfl, hb, hn, k⟩ := h
    refine ⟨_, (pss_cons (ps_set (i := 2) sc_next_sign.nd rfl (Or.inl rfl) (pe_callB call_len_str (by rfl) T.z_len (by decide +kernel) (pa_cons (pv 0) pa_nil)))
      (pss_one (ps_ret (pe_slice sl_str (pe_call (ok_signs T) (hr.mono (by decide)) rfl T.g_signs T.F_signs.kp T.b_signs .nil pass0 (pa_cons (pv 1) pa_nil)) (po_some (pv 2)) (po_some (pe_op op_add (pv 2) pe_int)))))), ?_⟩
    have hz : (bt c).length ≤ 100000 := by rw [bt_len]; omega
    refine q_asg (v := .int (c.1 : Int)) (ev_is (ev_cb (by walk_at "ea") (rc_lenS hz)) (by rw [bt_len])) ?_
    intro H1 e1
    show tRet _ _ [some (.str (bt c)), some (.int n), some (.int (c.1 : Int))] H1
    refine s_retk (v := .str (nxs c.1 n)) (ev_is (ev_slS (s := sig n) (by walk_at "ev") (eo_some (i := (c.1 : Int)) (by walk_at "ev")) (eo_some (i := (c.1 : Int) + 1) (by walk_at "ev")) (by unfold sig; rw [bt_len]; show 8 ≤ 100000; decide)) ?_) (RetV.mono e1 k)
    unfold sig
    rw [cut_sign _ _ hb]
    rfl
theorem spv_next {c : Code} {n : Int} {H : Hp} (hb : c.1 < 8) (hn : 0 ≤ n ∧ n < 256) : SpV spNext [.str (bt c), .int n] H (.str (nxs c.1 n)) := fun A _ Q q E => ⟨c, n, rfl, hb, hn, q⟩
theorem nxs_dec {c : Code} {p : Int × Int} (hb : c.1 < 8) (h : inn c p = true) : decide (V.str (nxs c.1 p.1) = V.str "1") = inn (c1 c) p := by
  have h1 := (inB_iff.mp h).2
  have e : inn (c1 c) p = decide (mx p.1 / 2 ^ (8 - 1 - c.1) % 2 = 1) := by
    unfold inn inB
    show (decide (c.1 + 1 ≤ 8) && decide (mx p.1 / 2 ^ (8 - (c.1 + 1)) = 2 * c.2 + 1)) = _
    rw [decide_eq_true (by omega), Bool.true_and]
    refine decide_eq_decide.mpr ?_
    rw [div_half _ _ _ hb] at h1
    rw [show 8 - 1 - c.1 = 8 - (c.1 + 1) by omega]
    omega
  rw [e, decide_str, s1_eq]
  unfold nxs
  refine decide_eq_decide.mpr ⟨fun z => ?_, fun z => by rw [z]⟩
  have := List.head_eq_of_cons_eq (toL_inj (a := [48 + mx p.1 / 2 ^ (8 - 1 - c.1) % 2]) (b := [49]) z)
  omega
theorem thg_half0 (ps : List (Int × Int)) {c : Code} (hb : c.1 < 8) : (thg ps c).filter (fun p => !inn (c1 c) p) = thg ps (c0 c) := by
  unfold thg
  rw [List.filter_filter]
  refine List.filter_congr fun p _ => ?_
  rw [inn_half hb]
  cases h0 : inn (c0 c) p with
  | true => rw [inn_not p h0]; rfl
  | false => cases h1 : inn (c1 c) p <;> rfl
theorem thg_half1 (ps : List (Int × Int)) {c : Code} (hb : c.1 < 8) : (thg ps c).filter (fun p => inn (c1 c) p) = thg ps (c1 c) := by
  unfold thg
  rw [List.filter_filter]
  refine List.filter_congr fun p _ => ?_
  rw [inn_half hb]
  cases h0 : inn (c0 c) p with
  | true => rw [inn_not p h0]; rfl
  | false => cases h1 : inn (c1 c) p <;> rfl
/-- a room: its bits and its things -/
abbrev rpRm : Rp (Code × List (Int × Int)) := rpP rpC (rpL rpT)
def spParted : Sp := fun vs H Q _ => ∃ (t l : Addr) (c : Code) (ps : List (Int × Int)), vs = [.ref t] ∧ H t = some (.tup [.str (bt c), .ref l]) ∧ LR rpT H l (thg ps c) ∧ c.1 < 8 ∧ Names ps ∧
  ∀ (t' t0 l0 t1 l1 : Addr) (B : Hp), Ex H B → B t' = some (.tup [.ref t0, .ref t1]) → B t0 = some (.tup [.str (bt (c0 c)), .ref l0]) → B t1 = some (.tup [.str (bt (c1 c)), .ref l1]) →
    LR rpT B l0 (thg ps (c0 c)) → LR rpT B l1 (thg ps (c1 c)) → Q (.ref t') B
theorem eg_pair {σ : L2.St} {H : Hp} {ta tb : TE} {P P' : Hp → V → Hp → Prop} (ha : EvG ta σ H P) (hb : EvG tb σ H P') : EvG (tTup (tCons ta (tCons tb tNil))) σ H (fun A v B => ∃ p x y A0 C0 A1 C1, v = .ref p ∧ A p = none ∧ B p = some (.tup [x, y]) ∧ P A0 x C0 ∧ P' A1 y C1 ∧ Ex A A0 ∧ Ex C0 B ∧ Ex C1 B) := fun A a Q q =>
  ha A a _ fun x B b hx => hb B (a.trans b) _ fun y C c hy => ⟨by show 2 ≤ sizeLine; decide, fun p hp => q _ _ ((b.trans c).trans (.new hp)) ⟨p, x, y, A, B, B, C, rfl, fresh_back (b.trans c) hp, upd_same, hx, hy, .refl A, c.trans (.new hp), .new hp⟩⟩
set_option maxHeartbeats 1000000 in
theorem ok_parted (T : Top K mg) : FnOk P w K mg base CX0 5 T.a_parted T.fd_parted ["room"] spParted := by
  refine T.F_parted.ok sc_parted (fun vs H Q E h => ?_) (fun cdv A outer s H vs Q E hr h => ?_)
  · obtain ⟨t, l, c, ps, rfl, _⟩ := h
    rfl
  · obtain ⟨t, l, c, ps, rfl, ht, ⟨xs, hx, hp⟩, hb, hn, k⟩ := h
    refine ⟨_, (pss_cons (ps_asg (pv 0) (pg_tup (by rfl) (pgs_cons (pg_name (i := 1) sc_parted.nd rfl (Or.inr rfl)) (pgs_cons (pg_name (i := 2) sc_parted.nd rfl (Or.inl rfl)) pgs_nil))))
      (pss_cons (ps_setLc (i := 3) (own := [("thing", 5)]) (g := gName 5) rfl sc_parted.nd rfl rfl (sw_true rfl rfl rfl (by decide +kernel)) (pi_list (pv 2)) (blkOk_by (N := n_parted) (sc := defScope s_parted) (by decide +kernel)) (fun _ _ _ _ _ => pg_name (i := 5) sc_parted.nd rfl (Or.inl rfl)) (fun _ _ _ _ _ => by exact (pts_one (pt_cmpR op_ne (pe_call (ok_next_sign T) (hr.mono (by decide)) rfl T.g_next_sign T.F_next_sign.kp T.b_next_sign .nil pass0 (pa_cons (pv 1) (pa_cons (pe_ix (r := rIxT K) ix_tup (pv 5) pe_int (fun _ _ => rfl)) pa_nil))) pe_str (nomark _)))) (fun _ _ _ _ _ => by exact (pv 5)))
      (pss_cons (ps_setLc (i := 4) (own := [("thing", 5)]) (g := gName 5) rfl sc_parted.nd rfl rfl (sw_true rfl rfl rfl (by decide +kernel)) (pi_list (pv 2)) (blkOk_by (N := n_parted) (sc := defScope s_parted) (by decide +kernel)) (fun _ _ _ _ _ => pg_name (i := 5) sc_parted.nd rfl (Or.inl rfl)) (fun _ _ _ _ _ => by exact (pts_one (pt_cmpR op_eq (pe_call (ok_next_sign T) (hr.mono (by decide)) rfl T.g_next_sign T.F_next_sign.kp T.b_next_sign .nil pass0 (pa_cons (pv 1) (pa_cons (pe_ix (r := rIxT K) ix_tup (pv 5) pe_int (fun _ _ => rfl)) pa_nil))) pe_str (nomark _)))) (fun _ _ _ _ _ => by exact (pv 5)))
      (pss_one (ps_ret (pe_tup (pa_cons (pe_tup (pa_cons (pe_op op_add_str (pv 1) pe_str) (pa_cons (pv 3) pa_nil))) (pa_cons (pe_tup (pa_cons (pe_op op_add_str (pv 1) pe_str) (pa_cons (pv 4) pa_nil))) pa_nil)))))))), ?_⟩
    refine ⟨_, rfl, t, _, rfl, st_of ht, rfl, _, _, rfl, _, _, rfl, rfl, ?_⟩
    dsimp only
    refine st_nf (t := tSeq _ _) (σ' := [some (.ref t), some (.str (bt c)), some (.ref l), none, none, none]) rfl ?_
    have hl : (thg ps c).length ≤ 256 := (hn.fil (inn c)).len
    have hsig : ∀ (v : V) (p : Int × Int) (F : Addr → Prop) (H1 : Hp) (sl : L2.St) (i j : Nat) (E : XK), p ∈ thg ps c → rpT.R F H1 v p → sl[i]? = some (some (.str (bt c))) → sl[j]? = some (some v) → Ev (tCall spNext [] E (tCons (tVar i) (tCons (tOp (rIxT K) (tVar j) (tC (.int 0))) tNil))) sl H1 (.str (nxs c.1 p.1)) := by
      rintro v p F H1 sl i j E hm ⟨u, rfl, hu⟩ hi hj
      have h0 := (hn.fil (inn c)).all p hm
      exact ev_call (vs := [.str (bt c), .int p.1]) (ea_cons (ev_var hi) (ea_cons (ev_op (ev_var hj) ev_c (rv_ixT (st_of hu) rfl)) ea_nil)) (spv_next hb h0)
    refine q_asgLR (lcLR (r := rpT) (r' := rpT) (fun p => !inn (c1 c) p) (fun p => p) (by walk_at "ev") (sq_of hx) hp (by omega) (fun _ => rfl) ?_ ?_) ?_
    · intro v p H1 F e1 hm hR
      refine et_is (et_test (ev_op (hsig v p F H1 _ 1 5 _ hm hR rfl rfl) ev_c (rv_ne rfl))) ?_
      rw [nxs_dec hb (List.mem_filter.mp hm).2]
    · intro v p H1 F e1 _ hm hR _
      exact ee_var (by walk_at "ev") hR
    intro l0 H1 hl0 e1 L0
    show tSeq (tAsg _ _) _ _ [some (.ref t), some (.str (bt c)), some (.ref l), some (.ref l0), none, none] H1
    refine q_asgLR (lcLR (r := rpT) (r' := rpT) (fun p => inn (c1 c) p) (fun p => p) (by walk_at "ev") (sq_of (e1.k hx)) (pr_mono e1 hp) (by omega) (fun _ => rfl) ?_ ?_) ?_
    · intro v p H2 F e2 hm hR
      refine et_is (et_test (ev_op (hsig v p F H2 _ 1 5 _ hm hR rfl rfl) ev_c (rv_eq rfl))) ?_
      rw [nxs_dec hb (List.mem_filter.mp hm).2]
    · intro v p H2 F e2 _ hm hR _
      exact ee_var (by walk_at "ev") hR
    intro l1 H2 hl1 e2 L1
    rw [List.map_id'] at L0 L1
    rw [thg_half0 ps hb] at L0
    rw [thg_half1 ps hb] at L1
    show tRet _ _ [some (.ref t), some (.str (bt c)), some (.ref l), some (.ref l0), some (.ref l1), none] H2
    refine s_retG (eg_pair (eg_tup (vs := [.str (bt (c0 c)), .ref l0]) (ea_cons (ev_b0 (by walk_at "ev") (by omega)) (by walk_at "ea")) (by show 2 ≤ 100000; decide)) (eg_tup (vs := [.str (bt (c1 c)), .ref l1]) (ea_cons (ev_b1 (by walk_at "ev") (by omega)) (by walk_at "ea")) (by show 2 ≤ 100000; decide))) ?_
    rintro v B e3 ⟨u, _, _, A0, C0, A1, C1, rfl, _, g, ⟨t0, rfl, _, g0⟩, ⟨t1, rfl, _, g1⟩, x0, x1, x2⟩
    exact k u t0 l0 t1 l1 B ((e1.trans e2).trans e3) g (x1.k g0) (x2.k g1) ((L0.mono e2).mono e3) (L1.mono e3)
end

section
variable {P : Program} {w : World} {K : PySem.W.Frag} {mg : Str → Option Value} {base : Heap} [TabCx]
def twice {α : Type} (l : List α) : List α := l.flatMap fun a => [a, a]
theorem twice_snoc {α : Type} (l : List α) (i : Nat) (a : α) (h : l[i]? = some a) : twice (l.take (i + 1)) = twice (l.take i) ++ [a, a] := by
  rw [take_snoc h]
  simp [twice]
theorem twice_len {α : Type} : ∀ l : List α, (twice l).length = 2 * l.length
  | [] => rfl
  | a :: t => by
    show (a :: a :: twice t).length = _
    simp only [List.length_cons, twice_len t]
    omega
theorem evens_twice {α : Type} : ∀ l : List α, evens (twice l) = l
  | [] => by simp [twice, evens]
  | a :: t => by
    show evens (a :: a :: twice t) = a :: t
    simp only [evens, evens_twice t]
theorem evens_cons {α : Type} (a : α) : ∀ l : List α, evens (a :: l) = a :: evens l.tail
  | [] => by simp [evens]
  | _ :: _ => by simp [evens]
theorem odds_twice {α : Type} : ∀ l : List α, evens (twice l).tail = l
  | [] => by simp [twice, evens]
  | a :: t => by
    show evens (a :: twice t) = a :: t
    rw [evens_cons, odds_twice t]
theorem twice_get {α : Type} : ∀ (l : List α) (k : Nat), (twice l)[k]? = l[k / 2]?
  | [], k => by simp [twice]
  | a :: t, 0 => rfl
  | a :: t, 1 => rfl
  | a :: t, k + 2 => by
    show (a :: a :: twice t)[k + 2]? = (a :: t)[(k + 2) / 2]?
    rw [show (k + 2) / 2 = k / 2 + 1 by omega, List.getElem?_cons_succ, List.getElem?_cons_succ, List.getElem?_cons_succ]
    exact twice_get t k
/-- the same twice over what is told -/
theorem pr_twice {α : Type} {r : Rp α} {F : Addr → Prop} {H : Hp} : ∀ {xs : List V} {as : List α}, PRF r F H xs as → PRF r F H (twice xs) (twice as)
  | _, _, .nil => .nil
  | _, _, .cons a t => .cons a (.cons a (pr_twice t))
def spDoubled : Sp := fun vs H Q _ => ∃ (a : Addr) (ss : List Str), vs = [.ref a] ∧ LR rpStr H a ss ∧ ss.length ≤ 1000 ∧ RetLR rpStr (twice ss) H Q
theorem ok_doubled (T : Top K mg) : FnOk P w K mg base CX0 1 T.a_doubled T.fd_doubled ["board"] spDoubled := by
  refine T.F_doubled.ok sc_doubled (fun vs H Q E h => ?_) (fun cdv A outer s H vs Q E hr h => ?_)
  · obtain ⟨a, ss, rfl, _⟩ := h
    rfl
  · obtain ⟨a, ss, rfl, ⟨xs, hx, px⟩, hz, k⟩ := h
    refine ⟨_, (pss_one (ps_ret (pe_lc2 (own := [("bits", 1), ("_", 2)]) (vs1 := [2]) (tt := tYes) (tt1 := tYes) rfl sc_doubled.nd (pi_list (pv 0)) (blkOk_by (N := n_doubled) (sc := defScope s_doubled) (by decide +kernel)) (by decide) (fun _ _ _ _ _ => by exact (pg_name (i := 1) sc_doubled.nd rfl (Or.inl rfl))) (fun _ _ _ _ _ => by exact pts_nil) (fun _ _ _ _ _ => by exact (pi_range1 (by rfl) T.z_range (pa_cons pe_int pa_nil))) (fun _ _ _ _ _ => by exact (pg_name (i := 2) sc_doubled.nd rfl (Or.inl rfl))) (fun _ _ _ _ _ => by exact pts_nil) (fun _ _ _ _ _ => by exact (pv 1))))), ?_⟩
    have hxl := px.length
    refine s_retLR (r' := rpStr) (bs := twice ss) ?_ k
    intro A a' Q' q'
    refine ⟨_, rfl, a, rfl, ⟨xs, sq_of (a'.k hx)⟩, fun D hD => ⟨fun i m B => m = xs.length - i ∧ i ≤ xs.length ∧ Ex A B ∧ B D = some (.lst (twice (xs.take i))), ⟨xs.length, by simp, Nat.zero_le _, .new hD, by rw [upd_same]; rfl⟩, ?_⟩⟩
    rintro i m B ⟨rfl, hi, eB, hB⟩
    have hxB := eB.k (a'.k hx)
    by_cases hlt : i < xs.length
    · refine .inr ⟨⟨xs, xs[i], sq_of hxB, by simp [hlt]⟩, fun B => Ex A B ∧ B D = some (.lst (twice (xs.take (i + 1)))), fun B' p' => ⟨xs.length - (i + 1), by omega, rfl, hlt, p'⟩, fun x B' y => ?_⟩
      obtain ⟨e, y⟩ := y
      subst e
      have hxi := y xs (sq_of hxB)
      refine ⟨rfl, 2, rfl, by decide, by decide, fun j k B2 => k = 2 - j ∧ j ≤ 2 ∧ Ex A B2 ∧ B2 D = some (.lst (twice (xs.take i) ++ List.replicate j x)), ⟨2, rfl, by decide, eB, by rw [List.replicate_zero, List.append_nil]; exact hB⟩, ?_⟩
      rintro j k B2 ⟨rfl, hj, e2, hB2⟩
      by_cases hj2 : j < 2
      · refine .inr ⟨hj2, fun B3 => Ex A B3 ∧ B3 D = some (.lst (twice (xs.take i) ++ List.replicate (j + 1) x)), fun B' p' => ⟨2 - (j + 1), by omega, rfl, hj2, p'⟩, fun x' B3 y' => ?_⟩
        obtain ⟨e3, y3⟩ := y'
        subst e3 y3
        refine ⟨rfl, ?_⟩
        refine ⟨x, rfl, _, hB2, ?_, e2.mut hD hB2, ?_⟩
        · refine sz_lt ?_
          rw [List.length_append, List.length_replicate, twice_len, List.length_take]
          omega
        · rw [upd_same, List.append_assoc, List.replicate_succ']
      · have e : j = 2 := by omega
        subst e
        refine .inl ⟨Nat.le_refl _, e2, ?_⟩
        rw [twice_snoc xs i x hxi]
        exact hB2
    · have e : i = xs.length := by omega
      subst e
      rw [List.take_length] at hB
      exact .inl ⟨⟨xs, sq_of hxB, Nat.le_refl _⟩, q' _ B eB ⟨D, rfl, hD, _, hB, pr_twice (pr_mono (a'.trans eB) px)⟩⟩
def canHalve (ss : List Str) : Bool := decide (1 < ss.length) && decide (evens ss = evens ss.tail)
def OkL (ss : List Str) : Prop := ∀ s ∈ ss, PyData.strOk s = true
def spHalve : Sp := fun vs H Q _ => ∃ (a : Addr) (ss : List Str), vs = [.ref a] ∧ LR rpStr H a ss ∧ OkL ss ∧ RetV (.bl (canHalve ss)) H Q
theorem evens_sub {α : Type} : ∀ {l : List α} {a : α}, a ∈ evens l → a ∈ l
  | [], _, h => by simp [evens] at h
  | [_], _, h => by simpa [evens] using h
  | x :: y :: t, a, h => by
    simp only [evens, List.mem_cons] at h ⊢
    rcases h with h | h
    · exact .inl h
    · exact .inr (.inr (evens_sub h))
theorem tail_sub {α : Type} {l : List α} {a : α} (h : a ∈ l.tail) : a ∈ l := List.mem_of_mem_tail h
theorem eqv_strs : ∀ as bs : List Str, PyData.eqvAll (as.map PyData.str) (bs.map PyData.str) = decide (as = bs)
  | [], [] => by simp [PyData.eqvAll]
  | [], _ :: _ => by simp [PyData.eqvAll]
  | _ :: _, [] => by simp [PyData.eqvAll]
  | a :: as, b :: bs => by
    have := eqv_strs as bs
    simp only [List.map_cons, PyData.eqvAll, this, PyData.eqv]
    by_cases h : a = b
    · subst h
      simp
    · simp [h]
theorem ev_eqSS {σ : L2.St} {H : Hp} {ta tb : TE} {as bs : List Str} (ha : EvLR rpStr ta σ H as) (hb : EvLR rpStr tb σ H bs) (oa : OkL as) (ob : OkL bs) : Ev (tOp (rEqD K) ta tb) σ H (.bl (decide (as = bs))) := fun A a Q q =>
  ha A a _ fun _ B b ⟨p, ev, _, xs, h1, h2⟩ => hb B (a.trans b) _ fun _ C c ⟨p', ev', _, ys, h3, h4⟩ => by
    subst ev ev'
    refine ⟨.list (as.map PyData.str), .list (bs.map PyData.str), .lst (sq_of (c.k h1)) (dp_all encStr (pr_mono c h2)), .lst (sq_of h3) (dp_all encStr h4), shaped_l encStr (Nat.le_of_ble_eq_true rfl) oa, shaped_l encStr (Nat.le_of_ble_eq_true rfl) ob, ?_⟩
    have e : PyData.eqv (.list (as.map PyData.str)) (.list (bs.map PyData.str)) = decide (as = bs) := by simp only [PyData.eqv, eqv_strs]
    rw [e]
    exact q C (b.trans c)
theorem ok_can_halve (T : Top K mg) : FnOk P w K mg base CX0 1 T.a_can_halve T.fd_can_halve ["board"] spHalve := by
  refine T.F_can_halve.ok sc_can_halve (fun vs H Q E h => ?_) (fun cdv A outer s H vs Q E hr h => ?_)
  · obtain ⟨a, ss, rfl, _⟩ := h
    rfl
  · obtain ⟨a, ss, rfl, hL, hO, k⟩ := h
    refine ⟨_, (pss_one (ps_ret (pe_and (pe_cmpR op_gt (pe_callB (r := rLen K) call_len_seq (by rfl) T.z_len (by decide +kernel) (pa_cons (pv 0) pa_nil)) pe_int (nomark _)) (pe_one (pe_cmpR (r := rEqD K) (op_eqD hr.units) (pe_evens (pv 0)) (pe_odds (pv 0)) (nomark _)))))), ?_⟩
    obtain ⟨xs, hx, px⟩ := id hL
    have hxl := px.length
    refine s_retk (v := .bl (canHalve ss)) (ev_andV (ev_is (by walk_at "ev") ?_) fun _ => ev_eqSS (el_evens (by walk_at "ev") hL) (el_odds (by walk_at "ev") hL) (fun s hs => hO s (evens_sub hs)) (fun s hs => hO s (tail_sub (evens_sub hs)))) k
    rw [hxl]
    refine congrArg V.bl (decide_eq_decide.mpr ?_)
    omega
def spHalved : Sp := fun vs H Q _ => ∃ (a : Addr) (ss : List Str), vs = [.ref a] ∧ LR rpStr H a ss ∧ RetLR rpStr (evens ss) H Q
theorem ok_halved (T : Top K mg) : FnOk P w K mg base CX0 1 T.a_halved T.fd_halved ["board"] spHalved := by
  refine T.F_halved.ok sc_halved (fun vs H Q E h => ?_) (fun cdv A outer s H vs Q E hr h => ?_)
  · obtain ⟨a, ss, rfl, _⟩ := h
    rfl
  · obtain ⟨a, ss, rfl, hL, k⟩ := h
    refine ⟨_, (pss_one (ps_ret (pe_evens (pv 0)))), ?_⟩
    exact s_retLR (el_evens (by walk_at "ev") hL) k
theorem spv_halve {a : Addr} {ss : List Str} {H : Hp} (h : LR rpStr H a ss) (ho : OkL ss) : SpV spHalve [.ref a] H (.bl (canHalve ss)) := fun A e Q q E => ⟨a, ss, rfl, h.mono e, ho, q⟩
theorem spl_doubled {a : Addr} {ss : List Str} {H : Hp} (h : LR rpStr H a ss) (hz : ss.length ≤ 1000) : SpLR rpStr spDoubled [.ref a] H (twice ss) := fun A e Q q E => ⟨a, ss, rfl, h.mono e, hz, q⟩
theorem spl_halved {a : Addr} {ss : List Str} {H : Hp} (h : LR rpStr H a ss) : SpLR rpStr spHalved [.ref a] H (evens ss) := fun A e Q q E => ⟨a, ss, rfl, h.mono e, q⟩
end
section
variable {P : Program} {w : World} {K : PySem.W.Frag} {mg : Str → Option Value} {base : Heap} [TabCx]
theorem ev_count {σ : L2.St} {H : Hp} {te : TE} {p : Addr} {ss : List Str} {z : Str} {t : TA} (h : Ev te σ H (.ref p)) (hl : LR rpStr H p ss) (ha : EvA t σ H [.str z]) : Ev (tBM K "list" (rCntS K) te t) σ H (.int (ss.count z : Nat)) := fun A a Q q => by
  obtain ⟨ys, h1, h2⟩ := hl.mono a
  refine h A a _ fun B b => ⟨.inl ⟨rfl, ys, sq_of (b.k h1)⟩, ha B (a.trans b) _ fun C c => ⟨p, ss, z, rfl, rfl, sq_of (by rw [c.k (b.k h1), prs_eq h2]), q C (b.trans c)⟩⟩
def spPartedAt : Sp := fun vs H Q _ => ∃ (a : Addr) (ss : List Str) (b : Str), vs = [.ref a, .str b] ∧ LR rpStr H a ss ∧ ss.length ≤ 1000 ∧ b.length ≤ 100 ∧ RetLR rpStr (partGo b (b ++ ("0" : Str)) (b ++ ("1" : Str)) (ss.count b / 2) ss) H Q
theorem ok_parted_at (T : Top K mg) : FnOk P w K mg base CX0 1 T.a_parted_at T.fd_parted_at ["board", "bits"] spPartedAt := by
  refine T.F_parted_at.ok sc_parted_at (fun vs H Q E h => ?_) (fun cdv A outer s H vs Q E hr h => ?_)
  · obtain ⟨a, ss, b, rfl, _⟩ := h
    rfl
  · obtain ⟨a, ss, b, rfl, hL, hz, hbz, k⟩ := h
    refine ⟨_, (pss_cons (ps_set (i := 2) sc_parted_at.nd rfl (Or.inl rfl) (pe_op op_fdiv (pe_bm PySem.F.plainAttrs_list PySem.F.slot_list_count PySem.F.type_list_count mt_scount (pv 0) (pa_cons (pv 1) pa_nil)) pe_int))
      (pss_cons (ps_set (i := 3) sc_parted_at.nd rfl (Or.inl rfl) (pe_lst pa_nil))
      (pss_cons (ps_for PassesOwn.never rfl (pi_list (pv 0)) (pg_name (i := 4) sc_parted_at.nd rfl (Or.inl rfl)) (pss_one (ps_if (pt_cmpR op_ne (pv 4) (pv 1) (nomark _)) (pss_one (ps_expr (pe_bm PySem.F.plainAttrs_list PySem.F.slot_list_append PySem.F.type_list_append mt_append (pv 3) (pa_cons (pv 4) pa_nil)))) (pss_one (ps_if (pt_cmpR op_gt (pv 2) pe_int (nomark _)) (pss_cons (ps_expr (pe_bm PySem.F.plainAttrs_list PySem.F.slot_list_append PySem.F.type_list_append mt_append (pv 3) (pa_cons (pe_op op_add_str (pv 1) pe_str) pa_nil)))
      (pss_one (ps_aug (i := 2) sc_parted_at.nd rfl (Or.inl rfl) pe_int ip_sub))) (pss_one (ps_expr (pe_bm PySem.F.plainAttrs_list PySem.F.slot_list_append PySem.F.type_list_append mt_append (pv 3) (pa_cons (pe_op op_add_str (pv 1) pe_str) pa_nil)))))))))
      (pss_one (ps_ret (pv 3)))))), ?_⟩
    refine q_asg (v := .int ((ss.count b / 2 : Nat) : Int)) (ev_is (ev_op (ev_count (by walk_at "ev") hL (by walk_at "ea")) ev_c (rv_I ⟨by decide, by decide⟩)) (congrArg V.int (by omega))) ?_
    intro H1 e1
    show tSeq _ _ _ [some (.ref a), some (.str b), some (.int ((ss.count b / 2 : Nat) : Int)), none, none] H1
    generalize hz0 : ss.count b / 2 = z0 at k
    refine q_asgG (eg_lst ea_nil (by decide)) ?_
    rintro v H2 e2 ⟨pd, rfl, hpd, hd⟩
    have h0 := fresh_back e1 hpd
    show tSeq _ _ _ [some (.ref a), some (.str b), some (.int (z0 : Int)), some (.ref pd), none] H2
    obtain ⟨xs, hx, px⟩ := hL.mono (e1.trans e2)
    have hxl := px.length
    refine q_forL (a := a) (xs := xs) (by walk_at "ev") (sq_of hx) (fun i σ' B => Ex H B ∧ i ≤ ss.length ∧ ∃ (z : Nat) (acc : List Str) (u : Option V), B pd = some (.lst (acc.map V.str)) ∧ acc.length = i ∧ acc ++ partGo b (b ++ ("0" : Str)) (b ++ ("1" : Str)) z (ss.drop i) = partGo b (b ++ ("0" : Str)) (b ++ ("1" : Str)) z0 ss ∧ σ' = [some (.ref a), some (.str b), some (.int (z : Int)), some (.ref pd), u]) ?_ ?_ ?_ ?_
    · intro B e
      exact ⟨(e1.trans e2).trans e, Nat.zero_le _, z0, [], none, e.k hd, rfl, rfl, rfl⟩
    · rintro i σ' B hi ⟨e, _⟩
      obtain ⟨ys, hy, py⟩ := hL.mono e
      rw [prs_eq px, ← prs_eq py]
      exact sq_of hy
    · rintro i x σ' B hi ⟨e, _, z, acc, u, hB, hal, hpg, rfl⟩
      obtain ⟨s, hs, rfl⟩ := pr_get px hi
      obtain ⟨hil, hsi⟩ := List.getElem?_eq_some_iff.mp hs
      rw [List.drop_eq_getElem_cons hil, hsi, partGo] at hpg
      show tIfS _ _ _ _ [some (.ref a), some (.str b), some (.int (z : Int)), some (.ref pd), some (.str s)] B
      have app : ∀ (y : Str) (z' : Nat) (te : TE) (D : Ends) (σ2 : L2.St), acc ++ y :: partGo b (b ++ ("0" : Str)) (b ++ ("1" : Str)) z' (ss.drop (i + 1)) = partGo b (b ++ ("0" : Str)) (b ++ ("1" : Str)) z0 ss → ∀ B1, Ex B B1 → Ev (tVar 3) σ2 B1 (.ref pd) → Ev te σ2 B1 (.str y) →
          (∀ B2, Ex H B2 → B2 pd = some (.lst ((acc ++ [y]).map V.str)) → D.nx σ2 B2) → tDrop (tBM K "list" rAppend (tVar 3) (tCons te tNil)) D σ2 B1 := fun y z' te D σ2 _ B1 b1 hv hy kk =>
        s_app (P := fun _ v _ => v = .str y) (b1.k hB) hv (hy.g fun _ _ _ _ => rfl) (by rw [List.length_map]; omega) fun A v C a c ev => by
          subst ev
          have hC := c.k (a.k (b1.k hB))
          refine kk _ ?_ ?_
          · exact (((e.trans b1).trans a).trans c).mut h0 hC
          · rw [upd_same, List.map_append]
            rfl
      refine s_if (b := !decide (V.str s = V.str b)) (et_test (ev_op (by walk_at "ev") (by walk_at "ev") (rv_ne rfl))) ?_ ?_
      · intro hb B1 b1
        have hne : ¬ s = b := by simpa [decide_str] using hb
        rw [if_neg hne] at hpg
        refine app s z _ _ _ hpg B1 b1 (by walk_at "ev") (by walk_at "ev") fun B2 e2 h2 => ⟨e2, hil, z, acc ++ [s], some (.str s), h2, by rw [List.length_append, hal]; rfl, by rw [List.append_assoc]; exact hpg, rfl⟩
      · intro hb B1 b1
        have he : s = b := by simpa [decide_str] using hb
        rw [if_pos he] at hpg
        refine s_if (b := decide ((0 : Int) < (z : Int))) (et_test (ev_op (by walk_at "ev") ev_c rv_I0)) ?_ ?_
        · intro hb2 B2 b2
          have hz : 0 < z := by have : (0 : Int) < (z : Int) := of_decide_eq_true hb2; omega
          rw [if_pos hz] at hpg
          refine app (b ++ ("0" : Str)) (z - 1) _ _ _ hpg B2 (b1.trans b2) (by walk_at "ev") (ev_op (by walk_at "ev") ev_c (rv_add_str (by show b.length + 1 ≤ _; omega))) fun B3 e3 h3 => ?_
          refine s_aug (x := (z : Int)) (y := 1) rfl ev_c fun B4 e4 => ⟨e3.trans e4, hil, z - 1, acc ++ [b ++ ("0" : Str)], some (.str s), e4.k h3, by rw [List.length_append, hal]; rfl, by rw [List.append_assoc]; exact hpg, ?_⟩
          show [_, _, some (V.int ((z : Int) - 1)), _, _] = _
          rw [show ((z : Int) - 1) = ((z - 1 : Nat) : Int) by omega]
        · intro hb2 B2 b2
          have hz : ¬ 0 < z := by have : ¬ (0 : Int) < (z : Int) := of_decide_eq_false hb2; omega
          rw [if_neg hz] at hpg
          refine app (b ++ ("1" : Str)) z _ _ _ hpg B2 (b1.trans b2) (by walk_at "ev") (ev_op (by walk_at "ev") ev_c (rv_add_str (by show b.length + 1 ≤ _; omega))) fun B3 e3 h3 => ⟨e3, hil, z, acc ++ [b ++ ("1" : Str)], some (.str s), h3, by rw [List.length_append, hal]; rfl, by rw [List.append_assoc]; exact hpg, rfl⟩
    · rintro σ' B ⟨e, _, z, acc, u, hB, hal, hpg, rfl⟩
      rw [hxl, List.drop_length, partGo, List.append_nil] at hpg
      subst hpg
      walk_at "ret"
      exact fun C c => k pd C h0 (e.trans c) ⟨_, c.k hB, pr_strs⟩
def spJoinedAt : Sp := fun vs H Q _ => ∃ (a : Addr) (ss : List Str) (b : Str), vs = [.ref a, .str b] ∧ LR rpStr H a ss ∧ ss.length ≤ 1000 ∧ b.length ≤ 100 ∧ RetLR rpStr (joinGo b (b ++ ("0" : Str)) (b ++ ("1" : Str)) ss) H Q
theorem ok_joined_at (T : Top K mg) : FnOk P w K mg base CX0 1 T.a_joined_at T.fd_joined_at ["board", "bits"] spJoinedAt := by
  refine T.F_joined_at.ok sc_joined_at (fun vs H Q E h => ?_) (fun cdv A outer s H vs Q E hr h => ?_)
  · obtain ⟨a, ss, b, rfl, _⟩ := h
    rfl
  · obtain ⟨a, ss, b, rfl, hL, hz, hbz, k⟩ := h
    refine ⟨_, (pss_cons (ps_set (i := 2) sc_joined_at.nd rfl (Or.inr rfl) (pe_tup (pa_cons (pe_op op_add_str (pv 1) pe_str) (pa_cons (pe_op op_add_str (pv 1) pe_str) pa_nil))))
      (pss_one (ps_ret (pe_lc (own := [("text", 3)]) (g := gName 3) (tt := tYes) rfl sc_joined_at.nd (pi_list (pv 0)) (blkOk_by (N := n_joined_at) (sc := defScope s_joined_at) (by decide +kernel)) (fun _ _ _ _ _ => pg_name (i := 3) sc_joined_at.nd rfl (Or.inl rfl)) (fun _ _ _ _ _ => by exact pts_nil) (fun _ _ _ _ _ => by exact (pe_ifExp (pt_cmpR (r := rIn K false) op_in_seq (pv 3) (pv 2) (by rfl)) (pv 1) (pv 3))))))), ?_⟩
    have h0 : ∀ {σ : L2.St} {A : Hp}, σ[1]? = some (some (.str b)) → Ev (tOp (fun x y H Q => ∃ i j, x = V.str i ∧ y = V.str j ∧ i.length + j.length ≤ sizeLine ∧ Q (.str (i ++ j)) H) (tVar 1) (tC (.str "0"))) σ A (.str (b ++ ("0" : Str))) := fun h => ev_op (ev_var h) ev_c (rv_add_str (by show b.length + 1 ≤ _; omega))
    have h1 : ∀ {σ : L2.St} {A : Hp}, σ[1]? = some (some (.str b)) → Ev (tOp (fun x y H Q => ∃ i j, x = V.str i ∧ y = V.str j ∧ i.length + j.length ≤ sizeLine ∧ Q (.str (i ++ j)) H) (tVar 1) (tC (.str "1"))) σ A (.str (b ++ ("1" : Str))) := fun h => ev_op (ev_var h) ev_c (rv_add_str (by show b.length + 1 ≤ _; omega))
    refine q_asgG (eg_tup (vs := [.str (b ++ ("0" : Str)), .str (b ++ ("1" : Str))]) (ea_cons (h0 rfl) (ea_cons (h1 rfl) ea_nil)) (by show 2 ≤ 100000; decide)) ?_
    rintro v H1 e1 ⟨t, rfl, _, ht⟩
    show tRet _ _ [some (.ref a), some (.str b), some (.ref t), none] H1
    obtain ⟨xs, hx, px⟩ := hL.mono e1
    refine s_retLR (r' := rpStr) (bs := (ss.filter fun _ => true).map fun s => if s = b ++ ("0" : Str) ∨ s = b ++ ("1" : Str) then b else s) (lcLR (K := K) (r := rpStr) (r' := rpStr) (fun _ => true) _ (by walk_at "ev") (sq_of hx) px (by omega) (fun _ => rfl) ?_ ?_) ?_
    · intro v s B F e _ _
      exact fun H5 e5 Q' q' => q' H5 (.refl H5)
    · rintro v s B F e _ _ rfl _
      refine ee_var (v := .str (if s = b ++ ("0" : Str) ∨ s = b ++ ("1" : Str) then b else s)) (ev_if (b := decide (s = b ++ ("0" : Str) ∨ s = b ++ ("1" : Str))) (et_is (et_test (ev_op (by walk_at "ev") (by walk_at "ev") (rv_in (neg := false) (xs := [b ++ ("0" : Str), b ++ ("1" : Str)].map V.str) (.inr (st_of (e.k ht))) rfl (flat_strs _)))) ?_) ?_ ?_) rfl
      · rw [in_strs]
        refine decide_eq_decide.mpr ?_
        simp
      · intro hb
        rw [if_pos (of_decide_eq_true hb)]
        walk_at "ev"
      · intro hb
        rw [if_neg (of_decide_eq_false hb)]
        walk_at "ev"
    · rw [List.filter_eq_self.mpr (fun _ _ => rfl)]
      exact k.mono e1
end

/-! ### the things of a room -/
section
variable {P : Program} {w : World} {K : PySem.W.Frag} {mg : Str → Option Value} {base : Heap} [TabCx]
def spWith : Sp := fun vs H Q _ => ∃ (a : Addr) (ps : List (Int × Int)) (n v : Int), vs = [.ref a, .int n, .int v] ∧ LR rpT H a ps ∧ ps.length ≤ 1000 ∧ RetLR rpT (insT ps n v) H Q
set_option maxHeartbeats 1000000 in
theorem ok_with_thing (T : Top K mg) : FnOk P w K mg base CX0 1 T.a_with_thing T.fd_with_thing ["things", "name", "value"] spWith := by
  refine T.F_with_thing.ok sc_with_thing (fun vs H Q E h => ?_) (fun cdv A outer s H vs Q E hr h => ?_)
  · obtain ⟨a, ps, n, v, rfl, _⟩ := h
    rfl
  · obtain ⟨a, ps, n, v, rfl, ⟨xs, hx, hp⟩, hz, k⟩ := h
    refine ⟨_, (pss_cons (ps_setLc (i := 3) (own := [("thing", 5)]) (g := gName 5) rfl sc_with_thing.nd rfl rfl (sw_true rfl rfl rfl (by decide +kernel)) (pi_list (pv 0)) (blkOk_by (N := n_with_thing) (sc := defScope s_with_thing) (by decide +kernel)) (fun _ _ _ _ _ => pg_name (i := 5) sc_with_thing.nd rfl (Or.inl rfl)) (fun _ _ _ _ _ => by exact (pts_one (pt_cmpR op_lt (pe_ix (r := rIxT K) ix_tup (pv 5) pe_int (fun _ _ => rfl)) (pv 1) (nomark _)))) (fun _ _ _ _ _ => by exact (pv 5)))
      (pss_cons (ps_setLc (i := 4) (own := [("thing", 5)]) (g := gName 5) rfl sc_with_thing.nd rfl rfl (sw_true rfl rfl rfl (by decide +kernel)) (pi_list (pv 0)) (blkOk_by (N := n_with_thing) (sc := defScope s_with_thing) (by decide +kernel)) (fun _ _ _ _ _ => pg_name (i := 5) sc_with_thing.nd rfl (Or.inl rfl)) (fun _ _ _ _ _ => by exact (pts_one (pt_cmpR op_gt (pe_ix (r := rIxT K) ix_tup (pv 5) pe_int (fun _ _ => rfl)) (pv 1) (nomark _)))) (fun _ _ _ _ _ => by exact (pv 5)))
      (pss_one (ps_ret (pe_lst (StX.pa_star (pv 3) (pa_cons (pe_tup (pa_cons (pv 1) (pa_cons (pv 2) pa_nil))) (StX.pa_star (pv 4) pa_nil)))))))), ?_⟩
    refine q_asgLR (lcLR (r := rpT) (r' := rpT) (fun p => decide (p.1 < n)) (fun p => p) (by walk_at "ev") (sq_of hx) hp (by omega) (fun _ => rfl) ?_ ?_) ?_
    · rintro x b H1 F e1 _ ⟨t, rfl, ht⟩
      walk_at "et"
    · rintro x b H1 F e1 _ _ hb _
      exact ee_var (by walk_at "ev") hb
    intro pa H1 hpa e1 ⟨ya, ha1, ha2⟩
    refine q_asgLR (lcLR (r := rpT) (r' := rpT) (fun p => decide (n < p.1)) (fun p => p) (by walk_at "ev") (sq_of (e1.k hx)) (pr_mono e1 hp) (by omega) (fun _ => rfl) ?_ ?_) ?_
    · rintro x b H1 F e1 _ ⟨t, rfl, ht⟩
      walk_at "et"
    · rintro x b H1 F e1 _ _ hb _
      exact ee_var (by walk_at "ev") hb
    intro pb H2 hpb e2 ⟨yb, hb1, hb2⟩
    rw [List.map_id'] at ha2 hb2
    refine s_retLR (r' := rpT) (bs := insT ps n v) (fun H3 e3 Q' q' => ?_) (RetLR.mono (e1.trans e2) k)
    refine ⟨_, rfl, pa, ya, rfl, Or.inr (sq_of (e3.k (e2.k ha1))), ?_⟩
    refine ⟨_, rfl, _, rfl, by show 2 ≤ sizeLine; decide, fun t ht => ?_⟩
    refine ⟨_, rfl, pb, yb, rfl, Or.inr (sq_of ((Ex.new ht).k (e3.k hb1))), ?_⟩
    have hla := ha2.length
    have hlb := hb2.length
    have l1 := List.length_filter_le (fun p : Int × Int => decide (p.1 < n)) ps
    have l2 := List.length_filter_le (fun p : Int × Int => decide (n < p.1)) ps
    refine ⟨?_, fun p hp2 => ?_⟩
    · simp only [List.length_append, List.length_cons, List.length_nil]
      exact sz_of (by omega)
    · refine q' _ _ ((Ex.new ht).trans (Ex.new hp2)) ⟨p, rfl, fresh_back (Ex.new ht) hp2, _, upd_same, ?_⟩
      have e4 := (Ex.new (o := HO.tup [.int n, .int v]) ht).trans (Ex.new (o := HO.lst (ya ++ V.ref t :: (yb ++ []))) hp2)
      refine pr_app (pr_mono ((e2.trans e3).trans e4) ha2) (.cons ⟨t, rfl, (Ex.new hp2).k upd_same⟩ ?_)
      rw [List.append_nil]
      rw [List.append_nil] at e4
      exact pr_mono (e3.trans e4) hb2
theorem spl_with {a : Addr} {ps : List (Int × Int)} {n v : Int} {H : Hp} (h : LR rpT H a ps) (hz : ps.length ≤ 1000) : SpLR rpT spWith [.ref a, .int n, .int v] H (insT ps n v) := fun A e Q q E => ⟨a, ps, n, v, rfl, h.mono e, hz, q⟩
def spWithout : Sp := fun vs H Q _ => ∃ (a : Addr) (ps : List (Int × Int)) (n : Int), vs = [.ref a, .int n] ∧ LR rpT H a ps ∧ ps.length ≤ 1000 ∧ RetLR rpT (delT ps n) H Q
theorem ok_without_thing (T : Top K mg) : FnOk P w K mg base CX0 1 T.a_without_thing T.fd_without_thing ["things", "name"] spWithout := by
  refine T.F_without_thing.ok sc_without_thing (fun vs H Q E h => ?_) (fun cdv A outer s H vs Q E hr h => ?_)
  · obtain ⟨a, ps, n, rfl, _⟩ := h
    rfl
  · obtain ⟨a, ps, n, rfl, ⟨xs, hx, hp⟩, hz, k⟩ := h
    refine ⟨_, (pss_one (ps_ret (pe_lc (own := [("thing", 2)]) (g := gName 2) rfl sc_without_thing.nd (pi_list (pv 0)) (blkOk_by (N := n_without_thing) (sc := defScope s_without_thing) (by decide +kernel)) (fun _ _ _ _ _ => pg_name (i := 2) sc_without_thing.nd rfl (Or.inl rfl)) (fun _ _ _ _ _ => by exact (pts_one (pt_cmpR op_ne (pe_ix (r := rIxT K) ix_tup (pv 2) pe_int (fun _ _ => rfl)) (pv 1) (nomark _)))) (fun _ _ _ _ _ => by exact (pv 2))))), ?_⟩
    refine s_retLR (r' := rpT) (bs := (ps.filter fun p => decide (p.1 ≠ n)).map fun p => p) (lcLR (r := rpT) (r' := rpT) (fun p => decide (p.1 ≠ n)) (fun p => p) (by walk_at "ev") (sq_of hx) hp (by omega) (fun _ => rfl) ?_ ?_) ?_
    · rintro x b H1 F e1 _ ⟨t, rfl, ht⟩
      refine et_is (a := !decide (V.int b.1 = V.int n)) (by walk_at "et") ?_
      rw [decide_int]
      by_cases z : b.1 = n
      · rw [decide_eq_true z, decide_eq_false (fun y => y z)]
        rfl
      · rw [decide_eq_false z, decide_eq_true z]
        rfl
    · rintro x b H1 F e1 _ _ hb _
      exact ee_var (by walk_at "ev") hb
    · rw [List.map_id']
      exact k
theorem spl_without {a : Addr} {ps : List (Int × Int)} {n : Int} {H : Hp} (h : LR rpT H a ps) (hz : ps.length ≤ 1000) : SpLR rpT spWithout [.ref a, .int n] H (delT ps n) := fun A e Q q E => ⟨a, ps, n, rfl, h.mono e, hz, q⟩
def vOpt : Option Int → V
  | some i => .int i
  | none => .non
theorem valT_skip (n : Int) : ∀ (ps : List (Int × Int)) (i : Nat), (∀ p ∈ ps.take i, p.1 ≠ n) → valT ps n = valT (ps.drop i) n
  | ps, 0, _ => rfl
  | [], _ + 1, _ => rfl
  | p :: t, i + 1, h => by
    have h1 := h p List.mem_cons_self
    rw [List.drop_succ_cons, ← valT_skip n t i fun q hq => h q (List.mem_cons_of_mem _ hq)]
    unfold valT
    rw [List.find?_cons, decide_eq_false h1]
def spValIn : Sp := fun vs H Q _ => ∃ (a : Addr) (ps : List (Int × Int)) (n : Int), vs = [.ref a, .int n] ∧ LR rpT H a ps ∧ RetV (vOpt (valT ps n)) H Q
theorem ok_value_in (T : Top K mg) : FnOk P w K mg base CX0 1 T.a_value_in T.fd_value_in ["things", "name"] spValIn := by
  refine T.F_value_in.ok sc_value_in (fun vs H Q E h => ?_) (fun cdv A outer s H vs Q E hr h => ?_)
  · obtain ⟨a, ps, n, rfl, _⟩ := h
    rfl
  · obtain ⟨a, ps, n, rfl, ⟨xs, hx, hp⟩, k⟩ := h
    refine ⟨_, (pss_cons (ps_for PassesOwn.never rfl (pi_list (pv 0)) (pg_tup rfl (pgs_cons (pg_name (i := 2) sc_value_in.nd rfl (Or.inl rfl)) (pgs_cons (pg_name (i := 3) sc_value_in.nd rfl (Or.inl rfl)) pgs_nil))) (pss_one (ps_if (pt_cmpR op_eq (pv 2) (pv 1) (nomark _)) (pss_one (ps_ret (pv 3))) pss_nil)))
      (pss_one (ps_ret pe_non))), ?_⟩
    refine q_forL (by walk_at "ev") (sq_of hx) (fun i σ H' => Ex H H' ∧ (∀ p ∈ ps.take i, p.1 ≠ n) ∧ ∃ u v, σ = [some (.ref a), some (.int n), u, v]) ?_ ?_ ?_ ?_
    · intro H1 e1
      exact ⟨e1, by simp, none, none, rfl⟩
    · rintro i σ' H' _ ⟨e1, _⟩
      exact sq_of (e1.k hx)
    · rintro i x σ' H' hi ⟨e1, hn, u, v, rfl⟩
      obtain ⟨b, hb, t, rfl, ht⟩ := pr_get hp hi
      refine ⟨t, _, rfl, st_of (e1.k ht), rfl, _, _, rfl, _, _, rfl, rfl, ?_⟩
      walk_at "when"
      · intro hq H1 e2
        walk_at "ret"
        have hbn : b.1 = n := by simpa [decide_int] using hq
        have e0 : valT ps n = some b.2 := by
          rw [valT_skip n ps i hn, List.drop_eq_getElem_cons (List.getElem?_eq_some_iff.mp hb).1, (List.getElem?_eq_some_iff.mp hb).2]
          unfold valT
          rw [List.find?_cons, decide_eq_true hbn]
          rfl
        rw [e0] at k
        exact RetV.mono (e1.trans e2) k
      · intro hq H1 e2
        have hbn : b.1 ≠ n := by simpa [decide_int] using hq
        refine ⟨e1.trans e2, ?_, _, _, rfl⟩
        rw [take_snoc hb]
        intro p hpm
        rcases List.mem_append.mp hpm with h | h
        · exact hn p h
        · rw [List.mem_singleton.mp h]
          exact hbn
    · rintro σ' H' ⟨e1, hn, u, v, rfl⟩
      walk_at "ret"
      have e0 : valT ps n = none := by
        rw [valT_skip n ps xs.length hn, hp.length, List.drop_length]
        rfl
      rw [e0] at k
      exact RetV.mono e1 k
theorem spv_valin {a : Addr} {ps : List (Int × Int)} {n : Int} {H : Hp} (h : LR rpT H a ps) : SpV spValIn [.ref a, .int n] H (vOpt (valT ps n)) := fun A e Q q E => ⟨a, ps, n, rfl, h.mono e, q⟩
/-! ### joined -/
theorem mem_perm_sorted {as bs : List (Int × Int)} (ha : as.Pairwise fun a b => a.1 < b.1) (hb : bs.Pairwise fun a b => a.1 ≤ b.1) (h : bs.Perm as) : bs = as := by
  have hnd : as.Pairwise fun a b => a.1 ≠ b.1 := ha.imp fun z => by omega
  have hb2 : bs.Pairwise fun a b => a.1 < b.1 := by
    have : bs.Pairwise fun a b => a.1 ≠ b.1 := (h.pairwise_iff fun z => Ne.symm z).mpr hnd
    exact (hb.and this).imp fun z => by omega
  exact h.eq_of_pairwise (le := fun a b => a.1 < b.1) (fun a b _ _ h1 h2 => by omega) hb2 ha
theorem thg_joined {ps : List (Int × Int)} (h : Names ps) {c : Code} (hl : c.1 < 8) {rs : List (Int × Int)} (perm : rs.Perm (thg ps (c0 c) ++ thg ps (c1 c))) (pw : rs.Pairwise fun a b => a.1 ≤ b.1) : rs = thg ps c := by
  refine mem_perm_sorted (h.fil (inn c)).up pw (perm.trans ?_)
  rw [← thg_half0 ps hl, ← thg_half1 ps hl]
  refine (List.perm_append_comm).trans ?_
  have := List.filter_append_perm (fun p => inn (c1 c) p) (thg ps c)
  exact this
def spJoined : Sp := fun vs H Q _ => ∃ (t1 l1 t2 l2 : Addr) (c : Code) (ps : List (Int × Int)), vs = [.ref t1, .ref t2] ∧ H t1 = some (.tup [.str (bt (c0 c)), .ref l1]) ∧ H t2 = some (.tup [.str (bt (c1 c)), .ref l2]) ∧ LR rpT H l1 (thg ps (c0 c)) ∧ LR rpT H l2 (thg ps (c1 c)) ∧ c.1 < 8 ∧ Names ps ∧ TabsOk H ∧
  ∀ (t l : Addr) (B : Hp), Ex H B → B t = some (.tup [.str (bt c), .ref l]) → LR rpT B l (thg ps c) → Q (.ref t) B
set_option maxHeartbeats 1000000 in
theorem ok_joined (T : Top K mg) (TB : Tabs base T) : FnOk P w K mg base CX0 3 T.a_joined T.fd_joined ["one", "other"] spJoined := by
  obtain ⟨oc, od, kV, doc, pm, an, ct, osl, hfd, lk, hcd⟩ := T.L_joined
  have hfd' : T.fd_joined = _ := hfd
  rw [hfd']
  rw [hfd] at lk
  refine fn_of lk hcd sc_joined (fun vs H Q E h => ?_) fun A outer s H vs Q E hr h => ?_
  · obtain ⟨t1, l1, t2, l2, c, ps, rfl, _⟩ := h
    rfl
  · obtain ⟨t1, l1, t2, l2, c, ps, rfl, ht1, ht2, hl1, hl2, hc, hn, hT, k⟩ := h
    refine ⟨_, PSs.nox ((pss_cons (ps_asg (pv 0) (pg_tup (by rfl) (pgs_cons (pg_name (i := 2) sc_joined.nd rfl (Or.inl rfl)) (pgs_cons (pg_name (i := 3) sc_joined.nd rfl (Or.inl rfl)) pgs_nil))))
      (pss_cons (ps_set (i := 4) sc_joined.nd rfl (Or.inl rfl) (pe_sortLam (X := _) (k := 2) (lq := lq_joined) TB.joined.1 TB.joined.2 rfl rfl hr (by decide) rfl T.z_sorted (pe_lst (StX.pa_star (pv 3) (StX.pa_star (pe_ix (r := rIxT K) ix_tup (pv 1) pe_int (fun _ _ => rfl)) pa_nil))) rfl rfl rfl rfl (by decide +kernel) rfl (by decide +kernel) (fun _ _ _ _ => rfl)))
      (pss_one (ps_ret (pe_tup (pa_cons (pe_slice sl_str (pv 2) po_none (po_some (pe_un un_neg pe_int))) (pa_cons (pv 4) pa_nil)))))))), ?_⟩
    obtain ⟨xs, hx1, hx2⟩ := id hl1
    obtain ⟨ys, hy1, hy2⟩ := id hl2
    refine ⟨_, rfl, t1, _, rfl, st_of ht1, rfl, _, _, rfl, _, _, rfl, rfl, ?_⟩
    refine ⟨_, rfl, l1, xs, rfl, Or.inr (sq_of hx1), _, rfl, t2, _, 1, _, rfl, rfl, st_of ht2, rfl, l2, ys, rfl, Or.inr (sq_of hy1), ?_, fun pl hpl => ?_⟩
    · have h1 := hx2.length
      have h2 := hy2.length
      have h3 := (hn.fil (inn (c0 c))).len
      have h4 := (hn.fil (inn (c1 c))).len
      simp only [List.length_append, List.length_nil]
      have h1 : xs.length = (ps.filter (inn (c0 c))).length := h1
      have h2 : ys.length = (ps.filter (inn (c1 c))).length := h2
      exact sz_of (by omega)
    have e1 : Ex H (upd H pl (.lst (xs ++ (ys ++ [])))) := .new hpl
    refine ⟨pl, _, thg ps (c0 c) ++ thg ps (c1 c), rfl, sq_of upd_same, ?_, e1.tabs hT, fun p rs B perm pw hp e2 hLR => ?_⟩
    · rw [List.append_nil] at e1 ⊢
      exact pr_mono e1 (pr_app hx2 hy2)
    · have hrs := thg_joined hn hc perm pw
      subst hrs
      show tRet (tTup (tCons (tSl rSlS (tVar 2) tNoPart (tPart (tUn (rU fun i => V.int (-i)) (tC (V.int 1))))) (tCons (tVar 4) tNil))) _ [some (.ref t1), some (.ref t2), some (.str (bt (c0 c))), some (.ref l1), some (.ref p)] B
      have hb2 : (bt (c0 c)).length ≤ 100000 := by
        rw [bt_len]
        show c.1 + 1 ≤ _
        omega
      refine s_retG (eg_tup (vs := [.str (bt c), .ref p]) (ea_cons (ev_is (ev_slS (s := bt (c0 c)) (by walk_at "ev") (by walk_at "eo") (show EvO _ _ _ (some (-1)) from eo_some (ev_neg ev_c)) hb2) (congrArg V.str ((bt_up (c0 c) (Nat.succ_pos _)).trans (congrArg bt (up0 c))))) (by walk_at "ea")) (by show 2 ≤ 100000; decide)) fun v C e3 ⟨t, ev, ht, htup⟩ => ?_
      subst ev
      exact k t p C ((e1.trans e2).trans e3) htup (hLR.mono e3)
end


/-! ### stores: statements that change them -/
section
variable [TabCx]
variable {K : PySem.W.Frag} {σ : L2.St} {H H' : Hp} {ta tb te td ty tv : TE} {D : Ends} {tz : TS} {C p dx d : Addr} {fs : List (Str × V)} {f : Str} {v x : V} {kvs : List (Key × V)} {k : Key} {P : Hp → V → Hp → Prop}
theorem q_fld (c : Cls K C) (n : NoAttr K C f) (hv : EvG tv σ H P) (ho : Ev ta σ H (.ref p)) (hp : H p = some (.ins C dx fs)) (hl : fs.length < 1000) (kk : ∀ v B B2, Ex H B → P H v B → Ex B B2 → tz D σ (upd B2 p (.ins C dx (putF f v fs)))) : tSeq (sFld K ta tv f) tz D σ H :=
  hv H (.refl H) _ fun v B b hvB => ho B b _ fun B2 b2 => ⟨p, C, dx, fs, rfl, (b.trans b2).k hp, c, n, hl, kk v B B2 b hvB b2⟩
theorem s_fld (c : Cls K C) (n : NoAttr K C f) (hv : EvG tv σ H P) (ho : Ev ta σ H (.ref p)) (hp : H p = some (.ins C dx fs)) (hl : fs.length < 1000) (kk : ∀ v B B2, Ex H B → P H v B → Ex B B2 → D.nx σ (upd B2 p (.ins C dx (putF f v fs)))) : sFld K ta tv f D σ H :=
  hv H (.refl H) _ fun v B b hvB => ho B b _ fun B2 b2 => ⟨p, C, dx, fs, rfl, (b.trans b2).k hp, c, n, hl, kk v B B2 b hvB b2⟩
/-- o.f += a number -/
theorem s_fldaug {rd : V → V → Hp → VK → Prop} {y z : V} (c : Cls K C) (n : NoAttr K C f) (ho : Ev ta σ H (.ref p)) (hp : H p = some (.ins C dx fs)) (hf : fs.lookup f = some x) (hv : Ev tv σ H y) (hr : RV rd x y H z) (hl : fs.length < 1000) (kk : ∀ B, Ex H B → D.nx σ (upd B p (.ins C dx (putF f z fs)))) : sFldAug K ta tv rd f D σ H :=
  ho H (.refl H) _ fun B b => ⟨p, C, dx, fs, x, rfl, b.k hp, c, n, hf, hv B b _ fun B2 b2 => hr B2 (b.trans b2) _ fun B3 b3 => ⟨dx, fs, ((b.trans b2).trans b3).k hp, hl, kk B3 ((b.trans b2).trans b3)⟩⟩
theorem q_dput (hv : EvG tv σ H P) (hd : Ev td σ H (.ref d)) (hk : Ev ty σ H (kV k)) (hdc : H d = some (.dK kvs)) (hl : kvs.length < 1000) (kk : ∀ v B B2, Ex H B → P H v B → Ex B B2 → tz D σ (upd B2 d (.dK (putK kvs k v)))) : tSeq (sDPut td ty tv) tz D σ H :=
  hv H (.refl H) _ fun v B b hvB => hd B b _ fun B2 b2 => hk B2 (b.trans b2) _ fun B3 b3 => ⟨d, _, rfl, DPut.k (((b.trans b2).trans b3).k hdc) (small1000 (by omega)), kk v B B3 b hvB (b2.trans b3)⟩
theorem s_dput (hv : EvG tv σ H P) (hd : Ev td σ H (.ref d)) (hk : Ev ty σ H (kV k)) (hdc : H d = some (.dK kvs)) (hl : kvs.length < 1000) (kk : ∀ v B B2, Ex H B → P H v B → Ex B B2 → D.nx σ (upd B2 d (.dK (putK kvs k v)))) : sDPut td ty tv D σ H :=
  hv H (.refl H) _ fun v B b hvB => hd B b _ fun B2 b2 => hk B2 (b.trans b2) _ fun B3 b3 => ⟨d, _, rfl, DPut.k (((b.trans b2).trans b3).k hdc) (small1000 (by omega)), kk v B B3 b hvB (b2.trans b3)⟩
theorem q_ddel (hd : Ev td σ H (.ref d)) (hk : Ev ty σ H (kV k)) (hdc : H d = some (.dK kvs)) (hs : (valV kvs k).isSome = true) (kk : ∀ B, Ex H B → tz D σ (upd B d (.dK (dropK kvs k)))) : tSeq (sDDel td ty) tz D σ H :=
  hd H (.refl H) _ fun B b => hk B b _ fun B2 b2 => ⟨d, kvs, k, rfl, (b.trans b2).k hdc, rfl, hs, kk B2 (b.trans b2)⟩
theorem q_while {c : TT} {t : TS} (Pv : Nat → L2.St → Hp → Prop) {m : Nat} (h0 : Pv m σ H) (hs : ∀ m σ H, Pv m σ H → ∃ b, EvT c σ H b ∧ (b = true → ∀ B, Ex H B → t { D with nx := fun σ' H' => ∃ m', m' < m ∧ Pv m' σ' H', ct := fun σ' H' => ∃ m', m' < m ∧ Pv m' σ' H', bk := tz D } σ B) ∧ (b = false → ∀ B, Ex H B → tz D σ B)) :
    tSeq (tWhile c t) tz D σ H := ⟨Pv, ⟨m, h0⟩, fun m σ H w => by
  obtain ⟨b, he, h1, h2⟩ := hs m σ H w
  refine he H (.refl H) _ fun B e => ?_
  cases b with
  | true => exact ⟨_, fun _ _ z => z, h1 rfl B e⟩
  | false => exact h2 rfl B e⟩
theorem s_while {c : TT} {t : TS} (Pv : Nat → L2.St → Hp → Prop) {m : Nat} (h0 : Pv m σ H) (hs : ∀ m σ H, Pv m σ H → ∃ b, EvT c σ H b ∧ (b = true → ∀ B, Ex H B → t { D with nx := fun σ' H' => ∃ m', m' < m ∧ Pv m' σ' H', ct := fun σ' H' => ∃ m', m' < m ∧ Pv m' σ' H', bk := D.nx } σ B) ∧ (b = false → ∀ B, Ex H B → D.nx σ B)) :
    tWhile c t D σ H := ⟨Pv, ⟨m, h0⟩, fun m σ H w => by
  obtain ⟨b, he, h1, h2⟩ := hs m σ H w
  refine he H (.refl H) _ fun B e => ?_
  cases b with
  | true => exact ⟨_, fun _ _ z => z, h1 rfl B e⟩
  | false => exact h2 rfl B e⟩
/-- an expression whose promise changes the store: by itself, given to a name -/
theorem q_dropC (h : te σ H (fun _ B => tz D σ B)) : tSeq (tDrop te) tz D σ H := h
theorem s_dropC (h : te σ H (fun _ B => D.nx σ B)) : tDrop te D σ H := h
theorem q_asgC {i : Nat} (h : te σ H (fun v B => tz D (σ.set i (some v)) B)) : tSeq (tAsg te (gName i)) tz D σ H := h
end
/-! ### the store's own defs -/
section
variable {P : Program} {w : World} {K : PySem.W.Frag} {mg : Str → Option Value} {base : Heap} [TabCx]
variable {T : Top K mg} {σ : L2.St} {H : Hp} {p d bd : Addr} {kvs : List (Key × V)} {b : Nat} {R : List Code} {D : Nat} {ps : List (Int × Int)}
theorem SA.e_rooms (h : SA T.a_Store H p d bd kvs b R D ps) {te : TE} (ho : Ev te σ H (.ref p)) : Ev (tFld K te "_rooms") σ H (.ref d) := by
  obtain ⟨dx, h1⟩ := h.ob
  exact ev_fld T.cl_Store T.d_Store.rooms ho h1 fl_rooms
theorem SA.e_board (h : SA T.a_Store H p d bd kvs b R D ps) {te : TE} (ho : Ev te σ H (.ref p)) : Ev (tFld K te "_board") σ H (.ref bd) := by
  obtain ⟨dx, h1⟩ := h.ob
  exact ev_fld T.cl_Store T.d_Store.board ho h1 fl_board
theorem SA.e_depth (h : SA T.a_Store H p d bd kvs b R D ps) {te : TE} (ho : Ev te σ H (.ref p)) : Ev (tFld K te "_depth") σ H (.int (D : Int)) := by
  obtain ⟨dx, h1⟩ := h.ob
  exact ev_fld T.cl_Store T.d_Store.depth ho h1 fl_depth
theorem SA.e_bound (h : SA T.a_Store H p d bd kvs b R D ps) {te : TE} (ho : Ev te σ H (.ref p)) : Ev (tFld K te "bound") σ H (.int (b : Int)) := by
  obtain ⟨dx, h1⟩ := h.ob
  exact ev_fld T.cl_Store T.d_Store.bound ho h1 fl_bound
/-- self._rooms[bits] -/
theorem SA.e_room (h : SA T.a_Store H p d bd kvs b R D ps) (hv : Cov R 8) {c : Code} (hc : c ∈ R) : ∃ l, valV kvs (Sum.inr (bt c)) = some (.ref l) ∧ LR rpT H l (thg ps c) ∧ ∀ {σ : L2.St} {te ty : TE}, Ev te σ H (.ref p) → Ev ty σ H (.str (bt c)) → Ev (tDGet (tFld K te "_rooms") ty) σ H (.ref l) := by
  obtain ⟨l, h1, h2⟩ := kr_get h.rs (fun d hd => (hv.val d hd).1) (hv.val c hc).1 hc
  exact ⟨l, h1, h2, fun ho hk => ev_dget (k := Sum.inr (bt c)) (h.e_rooms ho) hk h.dc h1⟩
/-- a method of a store that leaves all as it is -/
theorem SA.e_meth (h : SA T.a_Store H p d bd kvs b R D ps) {te : TE} {m : Str} {sp : Sp} {vs : List V} {v : V} {E : XK} {t : TA} (ho : Ev te σ H (.ref p)) (ha : EvA t σ H vs) (hs : SpV sp (.ref p :: vs) H v) (h1 : ¬ ("bound" : Str) = m := by decide +kernel) (h2 : ¬ ("_rooms" : Str) = m := by decide +kernel) (h3 : ¬ ("_board" : Str) = m := by decide +kernel) (h4 : ¬ ("_depth" : Str) = m := by decide +kernel) : Ev (tMeth T.a_Store m sp [] E te t) σ H v := by
  obtain ⟨dx, g⟩ := h.ob
  exact ev_meth ho g (fl_none h1 h2 h3 h4) ha hs
theorem SA.e_methLR {β : Type} {r : Rp β} {bs : List β} (h : SA T.a_Store H p d bd kvs b R D ps) {te : TE} {m : Str} {sp : Sp} {vs : List V} {E : XK} {t : TA} (ho : Ev te σ H (.ref p)) (ha : EvA t σ H vs) (hs : SpLR r sp (.ref p :: vs) H bs) (h1 : ¬ ("bound" : Str) = m := by decide +kernel) (h2 : ¬ ("_rooms" : Str) = m := by decide +kernel) (h3 : ¬ ("_board" : Str) = m := by decide +kernel) (h4 : ¬ ("_depth" : Str) = m := by decide +kernel) : EvLR r (tMeth T.a_Store m sp [] E te t) σ H bs := by
  obtain ⟨dx, g⟩ := h.ob
  exact ev_methLR ho g (fl_none h1 h2 h3 h4) ha hs
theorem SA.g_meth (h : SA T.a_Store H p d bd kvs b R D ps) {te : TE} {m : Str} {sp : Sp} {vs : List V} {Q : VK} {E : XK} {t : TA} (ho : Ev te σ H (.ref p)) (ha : EvA t σ H vs) (hs : ∀ B, Ex H B → sp (.ref p :: vs) B Q E) (h1 : ¬ ("bound" : Str) = m := by decide +kernel) (h2 : ¬ ("_rooms" : Str) = m := by decide +kernel) (h3 : ¬ ("_board" : Str) = m := by decide +kernel) (h4 : ¬ ("_depth" : Str) = m := by decide +kernel) : tMeth T.a_Store m sp [] E te t σ H Q := by
  obtain ⟨dx, g⟩ := h.ob
  exact Vf.g_meth ho g (fl_none h1 h2 h3 h4) ha hs
end
section
variable {P : Program} {w : World} {K : PySem.W.Frag} {mg : Str → Option Value} {base : Heap} [TabCx]
def spBoundIs : Sp := fun vs H Q _ => ∃ b : Nat, vs = [.int (b : Int)] ∧ (1 ≤ b ∧ b ≤ 64) ∧ RetV .non H Q
theorem ok_check_bound (T : Top K mg) : FnOk P w K mg base CX0 1 T.a_check_bound T.fd_check_bound ["bound"] spBoundIs := by
  refine T.F_check_bound.ok sc_check_bound (fun vs H Q E h => ?_) (fun cdv A outer s H vs Q E hr h => ?_)
  · obtain ⟨n, rfl, _⟩ := h
    rfl
  · obtain ⟨n, rfl, hn, k⟩ := h
    refine ⟨_, (pss_one (ps_if (PW.pt (pw_or (pt_cmpR op_notTyB (pe_callTy (r := rTyp K) call_type1 (by rfl) T.z_type (by decide +kernel) (pa_cons (pv 0) pa_nil)) (pe_bltn (v := .ty "int") (by rfl) T.z_int (by decide +kernel) rfl) (nomark _)) (pw_or1 (pt_not (pt_chain op_le op_le (pe_glob (v := .int 1) rfl T.c_LEAST_BOUND.2 ⟨_, rfl⟩) (pv 0) (pe_glob (v := .int 64) rfl T.c_GREATEST_BOUND.2 ⟨_, rfl⟩)))))) (pss_one ps_never) pss_nil)), ?_⟩
    refine s_when (b := !decide ("int" = "int") || !(decide ((1 : Int) ≤ (n : Int)) && decide ((n : Int) ≤ 64))) (by walk_at "et") ?_ ?_
    · intro hb
      simp at hb
      omega
    · exact fun _ => k
theorem good_nil {b : Nat} : Good b [(0, 0)] 0 [] := by
  refine ⟨cov_one 8, by simp, fun c hc => by rw [List.mem_singleton.mp hc]; exact Nat.le_refl _, ⟨(0, 0), List.mem_singleton.mpr rfl, rfl⟩, ⟨.nil, by simp⟩, fun c hc => Nat.zero_le _, fun c hc h => ?_⟩
  rw [List.mem_singleton.mp hc] at h
  exact absurd h (Nat.lt_irrefl 0)
theorem board_one : boardC [(0, 0)] 0 = [(0, 0)] := by decide +kernel
/-- a new store is made: from an instance without fields -/
def spInit (C : Addr) : Sp := fun vs H Q _ => ∃ (p dx : Addr) (b : Nat), vs = [.ref p, .int (b : Int)] ∧ H p = some (.ins C dx []) ∧ (1 ≤ b ∧ b ≤ 64) ∧
  ∀ (d bd : Addr) (kvs : List (Key × V)) (B : Hp), H d = none → ExS p d H B → SA C B p d bd kvs b [(0, 0)] 0 [] → Q .non B
theorem ok_m___init__ (T : Top K mg) : FnOk P w K mg base CX0 2 T.a_m___init__ T.fd_m___init__ ["self", "bound"] (spInit T.a_Store) := by
  refine T.F_m___init__.ok sc_m___init__ (fun vs H Q E h => ?_) (fun cdv A outer s H vs Q E hr h => ?_)
  · obtain ⟨p, dx, b, rfl, _⟩ := h
    rfl
  · obtain ⟨p, dx, b, rfl, hp, hb, k⟩ := h
    refine ⟨_, (pss_cons (ps_expr (pe_call (ok_check_bound T) (hr.mono (by decide)) rfl T.g_check_bound T.F_check_bound.kp T.b_check_bound .nil pass0 (pa_cons (pv 1) pa_nil)))
      (pss_cons (ps_fld (pv 0) (pv 1) rfl)
      (pss_cons (ps_fld (pv 0) (pe_disp (pps_cons pe_str (pe_lst pa_nil) pps_nil) (by rfl) (by rfl) (fun z => by cases z) (by decide)) rfl)
      (pss_cons (ps_fld (pv 0) (pe_lst (pa_cons pe_str pa_nil)) rfl)
      (pss_one (ps_fld (pv 0) pe_int rfl)))))), ?_⟩
    refine q_drop (v := .non) (ev_call (by walk_at "ea") fun A e Q' q' E' => ⟨b, rfl, hb, q'⟩) ?_
    intro H1 e1
    refine q_fld (P := fun _ v _ => v = .int (b : Int)) T.cl_Store T.d_Store.bound (Ev.g (v := .int (b : Int)) (by walk_at "ev") fun _ _ _ _ => rfl) (by walk_at "ev") (e1.k hp) (by show 0 < 1000; decide) ?_
    rintro v B B2 b1 rfl b2
    have x1 : Ex H B2 := (e1.trans b1).trans b2
    have hp2 : (upd B2 p (.ins T.a_Store dx (putF "bound" (.int (b : Int)) []))) p = some (.ins T.a_Store dx (putF "bound" (.int (b : Int)) [])) := upd_same
    have dom2 : ∀ a, (upd B2 p (.ins T.a_Store dx (putF "bound" (.int (b : Int)) []))) a = none → H a = none := fun a ha => x1.dom a (upd_dom (x1.k hp) a ha)
    have keep2 : ∀ d, ExS p d H (upd B2 p (.ins T.a_Store dx (putF "bound" (.int (b : Int)) []))) := fun d => x1.s.trans (ExS.updP (x1.k hp))
    generalize upd B2 p (.ins T.a_Store dx (putF "bound" (.int (b : Int)) [])) = H2 at hp2 dom2 keep2
    -- the rooms' dict
    refine q_fld (P := fun A v B => ∃ d l, v = .ref d ∧ A d = none ∧ B d = some (.dK [(Sum.inr (bt (0, 0)), .ref l)]) ∧ LR rpT B l []) T.cl_Store T.d_Store.rooms ?_ (by walk_at "ev") hp2 (by show 1 < 1000; decide) ?_
    · intro A a Q' q' d hd
      have nd := fresh_back a hd
      refine ⟨by decide, fun l hl => ?_⟩
      have hld : d ≠ l := fun z => by rw [z, upd_same] at hl; cases hl
      refine ⟨by rw [upd_ne hld, upd_same], [(Sum.inr (bt (0, 0)), .ref l)], by rw [bt_nil]; rfl, by show 1 ≤ 15; decide, ?_⟩
      have hm : mergeK [] [((Sum.inr (bt (0, 0)) : Key), V.ref l)] = [(Sum.inr (bt (0, 0)), .ref l)] := rfl
      have hd' : A d = none := hd
      refine q' (.ref d) _ ?_ ⟨d, l, rfl, hd', by rw [upd_same, hm], ?_⟩
      · refine .of fun x o hx => ?_
        have hxl : A l = none := by
          have := hl
          rw [upd_ne (fun z => hld z.symm)] at this
          exact this
        rw [upd_ne (ne_of_none hx hd'), upd_ne (ne_of_none hx hxl), upd_ne (ne_of_none hx hd')]
        exact hx
      · exact ⟨[], by rw [upd_ne (fun z => hld z.symm), upd_same], .nil⟩
    rintro v B3 B4 b3 ⟨d, l, rfl, hd, hdd, hll⟩ b4
    have npd : p ≠ d := ne_of_none hp2 hd
    have hd4 := b4.k hdd
    have hl4 := hll.mono b4
    have x2 := b3.trans b4
    have hp4 := x2.k hp2
    have hpl : ∀ {ys}, B4 l = some (.lst ys) → l ≠ p := fun h => ne_of h hp4 (by intro z; cases z)
    have w4 : ExW B4 (upd B4 p (.ins T.a_Store dx (putF "_rooms" (.ref d) (putF "bound" (.int (b : Int)) [])))) := (ExS.updP (d := d) hp4).w hp4 hd4
    have keep4 : ExS p d H (upd B4 p (.ins T.a_Store dx (putF "_rooms" (.ref d) (putF "bound" (.int (b : Int)) [])))) := (keep2 d).trans (x2.s.trans (ExS.updP hp4))
    have hp5 : (upd B4 p (.ins T.a_Store dx (putF "_rooms" (.ref d) (putF "bound" (.int (b : Int)) [])))) p = some (.ins T.a_Store dx (putF "_rooms" (.ref d) (putF "bound" (.int (b : Int)) []))) := upd_same
    have hd5 : (upd B4 p (.ins T.a_Store dx (putF "_rooms" (.ref d) (putF "bound" (.int (b : Int)) [])))) d = some (.dK [(Sum.inr (bt (0, 0)), .ref l)]) := by
      rw [upd_ne npd.symm]
      exact hd4
    have hl5 := hl4.monoW w4
    generalize upd B4 p (.ins T.a_Store dx (putF "_rooms" (.ref d) (putF "bound" (.int (b : Int)) []))) = H5 at keep4 hp5 hd5 hl5
    -- the board
    refine q_fld (P := fun A v B => ∃ bd, v = .ref bd ∧ LR rpC B bd [(0, 0)]) T.cl_Store T.d_Store.board ((el_one (r := rpC) (b := (0, 0)) (ee_var (v := .str "") (by walk_at "ev") (by show V.str "" = V.str (bt (0, 0)); rw [bt_nil]))).imp fun A v B _ _ ⟨p, e, _, h⟩ => ⟨p, e, h⟩) (by walk_at "ev") hp5 (by show 2 < 1000; decide) ?_
    rintro v B6 B7 b6 ⟨bd, rfl, hbd⟩ b7
    have x3 := b6.trans b7
    have hp7 := x3.k hp5
    have hd7 := x3.k hd5
    have hl7 := hl5.mono x3
    have hb7 := hbd.mono b7
    have w7 : ExW B7 (upd B7 p (.ins T.a_Store dx (putF "_board" (.ref bd) (putF "_rooms" (.ref d) (putF "bound" (.int (b : Int)) []))))) := (ExS.updP (d := d) hp7).w hp7 hd7
    have keep7 : ExS p d H (upd B7 p (.ins T.a_Store dx (putF "_board" (.ref bd) (putF "_rooms" (.ref d) (putF "bound" (.int (b : Int)) []))))) := keep4.trans (x3.s.trans (ExS.updP hp7))
    have hp8 : (upd B7 p (.ins T.a_Store dx (putF "_board" (.ref bd) (putF "_rooms" (.ref d) (putF "bound" (.int (b : Int)) []))))) p = some (.ins T.a_Store dx (putF "_board" (.ref bd) (putF "_rooms" (.ref d) (putF "bound" (.int (b : Int)) [])))) := upd_same
    have hd8 : (upd B7 p (.ins T.a_Store dx (putF "_board" (.ref bd) (putF "_rooms" (.ref d) (putF "bound" (.int (b : Int)) []))))) d = some (.dK [(Sum.inr (bt (0, 0)), .ref l)]) := by
      rw [upd_ne npd.symm]
      exact hd7
    have hl8 := hl7.monoW w7
    have hb8 := hb7.monoW w7
    generalize upd B7 p (.ins T.a_Store dx (putF "_board" (.ref bd) (putF "_rooms" (.ref d) (putF "bound" (.int (b : Int)) [])))) = H8 at keep7 hp8 hd8 hl8 hb8
    refine s_fld (P := fun _ v _ => v = .int ((0 : Nat) : Int)) T.cl_Store T.d_Store.depth (Ev.g (v := .int ((0 : Nat) : Int)) (ev_is ev_c rfl) fun _ _ _ _ => rfl) (by walk_at "ev") hp8 (by show 3 < 1000; decide) ?_
    rintro v B9 B10 b9 rfl b10
    have x4 := b9.trans b10
    have hp10 := x4.k hp8
    have hd10 := x4.k hd8
    have w10 : ExW B10 (upd B10 p (.ins T.a_Store dx (putF "_depth" (.int ((0 : Nat) : Int)) (putF "_board" (.ref bd) (putF "_rooms" (.ref d) (putF "bound" (.int (b : Int)) [])))))) := (ExS.updP (d := d) hp10).w hp10 hd10
    refine k d bd [(Sum.inr (bt (0, 0)), .ref l)] _ (dom2 d hd) (keep7.trans (x4.s.trans (ExS.updP hp10))) ⟨⟨dx, by rw [upd_same, fp_init]⟩, by rw [upd_ne npd.symm]; exact hd10, .cons ⟨l, rfl, (hl8.mono x4).monoW w10⟩ .nil, ?_⟩
    rw [board_one]
    exact (hb8.mono x4).monoW w10
end

section
variable {P : Program} {w : World} {K : PySem.W.Frag} {mg : Str → Option Value} {base : Heap} [TabCx]
/-- a store at p -/
structure St (C : Addr) (H : Hp) (p d bd : Addr) (kvs : List (Key × V)) (b : Nat) (R : List Code) (D : Nat) (ps : List (Int × Int)) : Prop where
  sa : SA C H p d bd kvs b R D ps
  cov : Cov R 8
  dep : ∀ c ∈ R, c.1 ≤ D
  d8 : D ≤ 8
  nm : Names ps
theorem St.mono {C : Addr} {H H' : Hp} {p d bd : Addr} {kvs : List (Key × V)} {b : Nat} {R : List Code} {D : Nat} {ps : List (Int × Int)} (e : Ex H H') (h : St C H p d bd kvs b R D ps) : St C H' p d bd kvs b R D ps := ⟨h.sa.mono e, h.cov, h.dep, h.d8, h.nm⟩
theorem St.covD {C : Addr} {H : Hp} {p d bd : Addr} {kvs : List (Key × V)} {b : Nat} {R : List Code} {D : Nat} {ps : List (Int × Int)} (h : St C H p d bd kvs b R D ps) : Cov R D := h.cov.down h.d8 h.dep
theorem St.len {C : Addr} {H : Hp} {p d bd : Addr} {kvs : List (Key × V)} {b : Nat} {R : List Code} {D : Nat} {ps : List (Int × Int)} (h : St C H p d bd kvs b R D ps) (c : Code) : (thg ps c).length ≤ 256 := (h.nm.fil (inn c)).len
/-- place of a name -/
def plc (D : Nat) (n : Int) : Nat := mx n / 2 ^ (8 - D)
theorem plc_lt {D : Nat} (hD : D ≤ 8) (n : Int) : plc D n < 2 ^ D := by
  unfold plc
  rw [Nat.div_lt_iff_lt_mul (Nat.two_pow_pos _), ← Nat.pow_add, show D + (8 - D) = 8 by omega]
  exact mx_lt n
def spAsk (C : Addr) (z : Nat → List Code → Nat → List (Int × Int) → Int → V) : Sp := fun vs H Q _ => ∃ (p d bd : Addr) (kvs : List (Key × V)) (b : Nat) (R : List Code) (D : Nat) (ps : List (Int × Int)) (n : Int), vs = [.ref p, .int n] ∧ St C H p d bd kvs b R D ps ∧ (0 ≤ n ∧ n < 256) ∧ RetV (z b R D ps n) H Q
theorem spv_ask {C : Addr} {z : Nat → List Code → Nat → List (Int × Int) → Int → V} {H : Hp} {p d bd : Addr} {kvs : List (Key × V)} {b : Nat} {R : List Code} {D : Nat} {ps : List (Int × Int)} {n : Int} (h : St C H p d bd kvs b R D ps) (hn : 0 ≤ n ∧ n < 256) : SpV (spAsk C z) [.ref p, .int n] H (z b R D ps n) :=
  fun A e Q q E => ⟨p, d, bd, kvs, b, R, D, ps, n, rfl, h.mono e, hn, q⟩
abbrev zPlace : Nat → List Code → Nat → List (Int × Int) → Int → V := fun _ _ D _ n => .int (plc D n : Nat)
abbrev zBits : Nat → List Code → Nat → List (Int × Int) → Int → V := fun _ R _ _ n => .str (bt (roomC R n))
abbrev zFind : Nat → List Code → Nat → List (Int × Int) → Int → V := fun _ _ _ ps n => vOpt (valT ps n)
theorem ok_m__place_of (T : Top K mg) : FnOk P w K mg base CX0 3 T.a_m__place_of T.fd_m__place_of ["self", "name"] (spAsk T.a_Store zPlace) := by
  refine T.F_m__place_of.ok sc_m__place_of (fun vs H Q E h => ?_) (fun cdv A outer s H vs Q E hr h => ?_)
  · obtain ⟨p, d, bd, kvs, b, R, D, ps, n, rfl, _⟩ := h
    rfl
  · obtain ⟨p, d, bd, kvs, b, R, D, ps, n, rfl, S, hn, k⟩ := h
    refine ⟨_, (pss_one (ps_ret (pe_op op_shr (pe_call (ok_mixed T) (hr.mono (by decide)) rfl T.g_mixed T.F_mixed.kp T.b_mixed .nil pass0 (pa_cons (pv 1) pa_nil)) (pe_op op_sub (pe_glob (v := .int 8) rfl T.c_SIGNS.2 ⟨_, rfl⟩) (pe_fld (pv 0) rfl))))), ?_⟩
    have hD := S.d8
    refine s_retk (v := .int (plc D n : Nat)) (ev_is (ev_op (ev_call (vs := [.int n]) (by walk_at "ea") (spv_mixed hn)) (ev_op ev_c (S.sa.e_depth (by walk_at "ev")) rv_I0) (rv_I (by show (0 : Int) ≤ 8 - (D : Int); omega))) (congrArg V.int ?_)) k
    unfold plc
    rw [show (8 - (D : Int)).toNat = 8 - D by omega]
    exact (Int.natCast_ediv (mx n) (2 ^ (8 - D))).symm ▸ (by rw [Int.natCast_pow] <;> rfl)
theorem ok_m__bits_of (T : Top K mg) : FnOk P w K mg base CX0 4 T.a_m__bits_of T.fd_m__bits_of ["self", "name"] (spAsk T.a_Store zBits) := by
  refine T.F_m__bits_of.ok sc_m__bits_of (fun vs H Q E h => ?_) (fun cdv A outer s H vs Q E hr h => ?_)
  · obtain ⟨p, d, bd, kvs, b, R, D, ps, n, rfl, _⟩ := h
    rfl
  · obtain ⟨p, d, bd, kvs, b, R, D, ps, n, rfl, S, hn, k⟩ := h
    refine ⟨_, (pss_one (ps_ret (pe_ix (r := rIxL K) ix_list (pe_fld (pv 0) rfl) (pe_meth (pv 0) T.cl_Store T.M_m__place_of (ok_m__place_of T) (hr.mono (by decide)) T.b_m__place_of .nil pass0 (pa_cons (pv 1) pa_nil)) (fun _ _ => rfl)))), ?_⟩
    have hlt := plc_lt S.d8 n
    refine s_retk (v := .str (bt (roomC R n))) (ev_ixV (S.sa.e_board (by walk_at "ev")) S.sa.br (S.sa.e_meth (by walk_at "ev") (by walk_at "ea") (spv_ask (z := zPlace) S hn)) fun ys hy => ?_) k
    rw [prC_at hy (by rw [board_len]; exact hlt)]
    refine congrArg (fun c => some (V.str (bt c))) ?_
    unfold boardC
    rw [List.getElem_map, List.getElem_range]
    exact atC_down S.cov S.d8 S.dep (mx_lt n)
theorem valT_fil {ps : List (Int × Int)} {n : Int} {q : Int × Int → Bool} (h : ∀ p ∈ ps, p.1 = n → q p = true) : valT (ps.filter q) n = valT ps n := by
  unfold valT
  refine congrArg (Option.map fun r : Int × Int => r.2) ?_
  induction ps with
  | nil => rfl
  | cons p t ih =>
    have ih := ih fun r hr => h r (List.mem_cons_of_mem _ hr)
    rw [List.filter_cons]
    by_cases e : p.1 = n
    · rw [h p List.mem_cons_self e, if_pos rfl, List.find?_cons, List.find?_cons, decide_eq_true e]
    · by_cases e2 : q p = true
      · rw [if_pos e2, List.find?_cons, List.find?_cons, decide_eq_false e]
        exact ih
      · rw [if_neg e2, List.find?_cons, decide_eq_false e]
        exact ih
theorem valT_thg {R : List Code} (h : Cov R 8) (ps : List (Int × Int)) (n : Int) : valT (thg ps (roomC R n)) n = valT ps n :=
  valT_fil fun p _ e => by
    show inB 8 (mx p.1) _ = true
    rw [e]
    exact (room_mem h n).2
/-- find, and the like: things of the room of a name -/
theorem St.room {T : Top K mg} {H : Hp} {p d bd : Addr} {kvs : List (Key × V)} {b : Nat} {R : List Code} {D : Nat} {ps : List (Int × Int)} (S : St T.a_Store H p d bd kvs b R D ps) (n : Int) : ∃ l, LR rpT H l (thg ps (roomC R n)) ∧ ∀ {σ : L2.St} {te ty : TE}, Ev te σ H (.ref p) → Ev ty σ H (.str (bt (roomC R n))) → Ev (tDGet (tFld K te "_rooms") ty) σ H (.ref l) := by
  obtain ⟨l, _, h2, h3⟩ := S.sa.e_room S.cov (room_mem S.cov n).1
  exact ⟨l, h2, h3⟩
end

section
variable {P : Program} {w : World} {K : PySem.W.Frag} {mg : Str → Option Value} {base : Heap} [TabCx]
theorem ok_m_find (T : Top K mg) : FnOk P w K mg base CX0 5 T.a_m_find T.fd_m_find ["self", "name"] (spAsk T.a_Store zFind) := by
  refine T.F_m_find.ok sc_m_find (fun vs H Q E h => ?_) (fun cdv A outer s H vs Q E hr h => ?_)
  · obtain ⟨p, d, bd, kvs, b, R, D, ps, n, rfl, _⟩ := h
    rfl
  · obtain ⟨p, d, bd, kvs, b, R, D, ps, n, rfl, S, hn, k⟩ := h
    refine ⟨_, (pss_one (ps_ret (pe_call (ok_value_in T) (hr.mono (by decide)) rfl T.g_value_in T.F_value_in.kp T.b_value_in .nil pass0 (pa_cons (by exact (pe_dget (hu_of hr) (pe_fld (pv 0) rfl) (pe_meth (pv 0) T.cl_Store T.M_m__bits_of (ok_m__bits_of T) (hr.mono (by decide)) T.b_m__bits_of .nil pass0 (pa_cons (pv 1) pa_nil)) (fun _ _ => rfl))) (pa_cons (pv 1) pa_nil))))), ?_⟩
    obtain ⟨l, h2, h3⟩ := S.room n
    refine s_retk (v := vOpt (valT ps n)) (ev_is (ev_call (vs := [.ref l, .int n]) (ea_cons (h3 (by walk_at "ev") (S.sa.e_meth (by walk_at "ev") (by walk_at "ea") (spv_ask (z := zBits) S hn))) (by walk_at "ea")) (spv_valin h2)) (congrArg vOpt (valT_thg S.cov ps n))) k
end

section
variable {P : Program} {w : World} {K : PySem.W.Frag} {mg : Str → Option Value} {base : Heap} [TabCx]
/-- what look tells -/
def lookT (R : List Code) (D : Nat) (ps : List (Int × Int)) (n : Int) : List V := [.int (plc D n : Nat), .str (bt (roomC R n)), .int (cnt ps (roomC R n) : Nat)]
def spLook (C : Addr) : Sp := fun vs H Q _ => ∃ (p d bd : Addr) (kvs : List (Key × V)) (b : Nat) (R : List Code) (D : Nat) (ps : List (Int × Int)) (n : Int), vs = [.ref p, .int n] ∧ St C H p d bd kvs b R D ps ∧ (0 ≤ n ∧ n < 256) ∧ ∀ t B, H t = none → Ex H B → B t = some (.tup (lookT R D ps n)) → Q (.ref t) B
theorem ok_m_look (T : Top K mg) : FnOk P w K mg base CX0 4 T.a_m_look T.fd_m_look ["self", "name"] (spLook T.a_Store) := by
  refine T.F_m_look.ok sc_m_look (fun vs H Q E h => ?_) (fun cdv A outer s H vs Q E hr h => ?_)
  · obtain ⟨p, d, bd, kvs, b, R, D, ps, n, rfl, _⟩ := h
    rfl
  · obtain ⟨p, d, bd, kvs, b, R, D, ps, n, rfl, S, hn, k⟩ := h
    refine ⟨_, (pss_cons (ps_set (i := 2) sc_m_look.nd rfl (Or.inl rfl) (pe_meth (pv 0) T.cl_Store T.M_m__place_of (ok_m__place_of T) (hr.mono (by decide)) T.b_m__place_of .nil pass0 (pa_cons (pv 1) pa_nil)))
      (pss_cons (ps_set (i := 3) sc_m_look.nd rfl (Or.inl rfl) (pe_ix (r := rIxL K) ix_list (pe_fld (pv 0) rfl) (pv 2) (fun _ _ => rfl)))
      (pss_one (ps_ret (pe_tup (pa_cons (pv 2) (pa_cons (pv 3) (pa_cons (pe_callB (r := rLen K) call_len_seq (by rfl) T.z_len (by decide +kernel) (pa_cons (by exact (pe_dget (hu_of hr) (pe_fld (pv 0) rfl) (pv 3) (fun _ _ => rfl))) pa_nil)) pa_nil)))))))), ?_⟩
    have hlt := plc_lt S.d8 n
    refine q_asg (v := .int (plc D n : Nat)) (S.sa.e_meth (by walk_at "ev") (by walk_at "ea") (spv_ask (z := zPlace) S hn)) ?_
    intro H1 e1
    have S1 := S.mono e1
    show tSeq _ _ _ [some (.ref p), some (.int n), some (.int (plc D n : Nat)), none] H1
    refine q_asg (v := .str (bt (roomC R n))) (ev_ixV (S1.sa.e_board (by walk_at "ev")) S1.sa.br (by walk_at "ev") fun ys hy => ?_) ?_
    · rw [prC_at hy (by rw [board_len]; exact hlt)]
      refine congrArg (fun c => some (V.str (bt c))) ?_
      unfold boardC
      rw [List.getElem_map, List.getElem_range]
      exact atC_down S.cov S.d8 S.dep (mx_lt n)
    intro H2 e2
    have S2 := S1.mono e2
    obtain ⟨l, ⟨xs, hx, hp⟩, h3⟩ := S2.room n
    show tRet _ _ [some (.ref p), some (.int n), some (.int (plc D n : Nat)), some (.str (bt (roomC R n)))] H2
    refine s_retG (eg_tup (vs := lookT R D ps n) (ea_cons (by walk_at "ev") (ea_cons (by walk_at "ev") (ea_cons (ev_is (ev_cb (ea_cons (h3 (by walk_at "ev") (by walk_at "ev")) ea_nil) (rc_len (sq_of hx))) (by rw [hp.length]; rfl)) ea_nil))) (by show 3 ≤ 100000; decide)) ?_
    rintro v B b ⟨t, rfl, ht, hB⟩
    exact k t B (fresh_back (e1.trans e2) ht) ((e1.trans e2).trans b) hB
end


section
variable {P : Program} {w : World} {K : PySem.W.Frag} {mg : Str → Option Value} {base : Heap} [TabCx]
def spBoardIs (C : Addr) : Sp := fun vs H Q _ => ∃ (p d bd : Addr) (kvs : List (Key × V)) (b : Nat) (R : List Code) (D : Nat) (ps : List (Int × Int)), vs = [.ref p] ∧ St C H p d bd kvs b R D ps ∧ RetLR rpC (boardC R D) H Q
theorem ok_m_board (T : Top K mg) : FnOk P w K mg base CX0 1 T.a_m_board T.fd_m_board ["self"] (spBoardIs T.a_Store) := by
  refine T.F_m_board.ok sc_m_board (fun vs H Q E h => ?_) (fun cdv A outer s H vs Q E hr h => ?_)
  · obtain ⟨p, d, bd, kvs, b, R, D, ps, rfl, _⟩ := h
    rfl
  · obtain ⟨p, d, bd, kvs, b, R, D, ps, rfl, S, k⟩ := h
    refine ⟨_, (pss_one (ps_ret (pe_callTy (r := rList K) call_list_of (by rfl) T.z_list (by decide +kernel) (pa_cons (pe_fld (pv 0) rfl) pa_nil)))), ?_⟩
    exact s_retLR (ev_listLR (S.sa.e_board (by walk_at "ev")) S.sa.br) k
theorem spl_board {C : Addr} {H : Hp} {p d bd : Addr} {kvs : List (Key × V)} {b : Nat} {R : List Code} {D : Nat} {ps : List (Int × Int)} (h : St C H p d bd kvs b R D ps) : SpLR rpC (spBoardIs C) [.ref p] H (boardC R D) := fun A e Q q E => ⟨p, d, bd, kvs, b, R, D, ps, rfl, h.mono e, q⟩
end


section
variable {P : Program} {w : World} {K : PySem.W.Frag} {mg : Str → Option Value} {base : Heap} [TabCx]
/-- a call with one value that is made for it -/
theorem ev_callE1 {σ : L2.St} {H : Hp} {te : TE} {P : Hp → V → Hp → Prop} {R : V → Hp → Prop} {sp : Sp} {E : XK} (h : EvG te σ H P) (hs : ∀ A v B, Ex H A → Ex A B → P A v B → ∀ Q : VK, (∀ u C, Ex B C → R u C → Q u C) → sp [v] B Q E) : EvG (tCall sp [] E (tCons te tNil)) σ H (fun _ u C => R u C) := fun A a Q q =>
  h A a _ fun v B b hv => hs A v B a b hv Q fun u C c r => q u C (b.trans c) r
theorem twice_board {R : List Code} {D : Nat} (h : Cov R D) : twice (boardC R D) = boardC R (D + 1) := by
  apply List.ext_getElem?
  intro i
  rw [twice_get]
  unfold boardC
  rw [List.getElem?_map, List.getElem?_map]
  by_cases hi : i < 2 ^ (D + 1)
  · rw [List.getElem?_range hi, List.getElem?_range (by rw [Nat.pow_succ] at hi; omega)]
    show some _ = some _
    rw [atC_up h hi]
  · rw [List.getElem?_eq_none (by rw [List.length_range]; omega), List.getElem?_eq_none (by rw [List.length_range]; rw [Nat.pow_succ] at hi; omega)]
    rfl
theorem twice_map {α β : Type} (f : α → β) : ∀ l : List α, twice (l.map f) = (twice l).map f
  | [] => rfl
  | a :: t => by
    show f a :: f a :: twice (t.map f) = f a :: f a :: (twice t).map f
    rw [twice_map f t]
theorem kr_congr {H : Hp} {kvs : List (Key × V)} {R : List Code} {ps qs : List (Int × Int)} (h : KR H kvs R ps) (e : ∀ c ∈ R, thg ps c = thg qs c) : KR H kvs R qs := by
  induction h with
  | nil => exact .nil
  | cons a t ih =>
    obtain ⟨l, h1, h2⟩ := a
    exact .cons ⟨l, h1, by rw [← e _ List.mem_cons_self]; exact h2⟩ (ih fun c hc => e c (List.mem_cons_of_mem _ hc))
def spPartC (C : Addr) : Sp := fun vs H Q _ => ∃ (p d bd : Addr) (kvs : List (Key × V)) (b : Nat) (R : List Code) (D : Nat) (ps : List (Int × Int)) (c : Code), vs = [.ref p, .str (bt c)] ∧ St C H p d bd kvs b R D ps ∧ c ∈ R ∧ c.1 < 8 ∧ R.length ≤ 600 ∧ R.Nodup ∧
  ∀ (bd' : Addr) (kvs' : List (Key × V)) (B : Hp), ExS p d H B → SA C B p d bd' kvs' b (partR R c) (if c.1 = D then D + 1 else D) ps → Q .non B
set_option maxHeartbeats 2000000 in
theorem ok_m__part (T : Top K mg) : FnOk P w K mg base CX0 6 T.a_m__part T.fd_m__part ["self", "bits"] (spPartC T.a_Store) := by
  refine T.F_m__part.ok sc_m__part (fun vs H Q E h => ?_) (fun cdv A outer s H vs Q E hr h => ?_)
  · obtain ⟨p, d, bd, kvs, b, R, D, ps, c, rfl, _⟩ := h
    rfl
  · obtain ⟨p, d, bd, kvs, b, R, D, ps, c, rfl, S, hc, hc8, hRl, hnd, k⟩ := h
    refine ⟨_, (pss_cons (ps_if (pt_cmpR op_eq (pe_callB call_len_str (by rfl) T.z_len (by decide +kernel) (pa_cons (pv 1) pa_nil)) (pe_fld (pv 0) rfl) (nomark _)) (pss_cons (ps_fld (pv 0) (pe_call (ok_doubled T) (hr.mono (by decide)) rfl T.g_doubled T.F_doubled.kp T.b_doubled .nil pass0 (pa_cons (pe_fld (pv 0) rfl) pa_nil)) rfl)
      (pss_one (ps_fldaug (pv 0) pe_int in_add))) pss_nil)
      (pss_cons (ps_fld (pv 0) (pe_call (ok_parted_at T) (hr.mono (by decide)) rfl T.g_parted_at T.F_parted_at.kp T.b_parted_at .nil pass0 (pa_cons (pe_fld (pv 0) rfl) (pa_cons (pv 1) pa_nil))) rfl)
      (pss_cons (ps_set (i := 2) sc_m__part.nd rfl (Or.inl rfl) (pe_call (ok_parted T) (hr.mono (by decide)) rfl T.g_parted T.F_parted.kp T.b_parted .nil pass0 (pa_cons (pe_tup (pa_cons (pv 1) (pa_cons (by exact (pe_dget (hu_of hr) (pe_fld (pv 0) rfl) (pv 1) (fun _ _ => rfl))) pa_nil))) pa_nil)))
      (pss_cons (ps_ddel (pe_fld (pv 0) rfl) (pv 1))
      (pss_one (ps_for PassesOwn.never rfl (pi_tup (pv 2)) (pg_tup rfl (pgs_cons (pg_name (i := 3) sc_m__part.nd rfl (Or.inl rfl)) (pgs_cons (pg_name (i := 4) sc_m__part.nd rfl (Or.inl rfl)) pgs_nil))) (pss_one (ps_dput (hu_of hr) (pe_fld (pv 0) rfl) (pv 3) (pv 4) rfl)))))))), ?_⟩
    have hcv := S.cov.val c hc
    have hcD := S.dep c hc
    have hkl := kr_len S.sa.rs
    -- the board is doubled where the room is as deep as it
    refine q_whenM (M := fun σ' B => ExS p d H B ∧ σ' = [some (.ref p), some (.str (bt c)), none, none, none] ∧ ∃ bd1, SA T.a_Store B p d bd1 kvs b R (if c.1 = D then D + 1 else D) ps) (b := decide (c.1 = D)) (et_is (et_test (ev_op (ev_cb (by walk_at "ea") (rc_lenS (by rw [bt_len]; omega))) (S.sa.e_depth (by walk_at "ev")) (rv_eq rfl))) (by rw [bt_len, decide_int]; exact decide_eq_decide.mpr (by omega))) ?_ ?_ ?_
    · intro hb go B e
      have hcd : c.1 = D := of_decide_eq_true hb
      have S1 := S.mono e
      obtain ⟨dx, h1⟩ := S1.sa.ob
      have hbl := board_len R D
      have hp8 : 2 ^ D ≤ 2 ^ 8 := Nat.pow_le_pow_right (by decide) S.d8
      refine q_fld (P := fun A v B => ∃ q, v = .ref q ∧ LR rpC B q (boardC R (D + 1))) T.cl_Store T.d_Store.board ((ev_callLR (vs := [.ref bd]) (ea_cons (S1.sa.e_board (by walk_at "ev")) ea_nil) (spl_doubled (lrC_str S1.sa.br) (by rw [List.length_map]; omega))).imp fun A v B _ _ ⟨q, e, _, h⟩ => ⟨q, e, lrS_C (by rw [← twice_board S.covD, ← twice_map]; exact h)⟩) (by walk_at "ev") h1 (by rw [fl_len]; decide) ?_
      rintro v B2 B3 b2 ⟨q, rfl, hq⟩ b3
      rw [fp_board]
      have S3 := S1.mono (b2.trans b3)
      have x3 := (e.trans b2).trans b3
      have h3 := (b2.trans b3).k h1
      have w3 : ExW B3 (upd B3 p (.ins T.a_Store dx (flds b d q D))) := (ExS.updP (d := d) h3).w h3 S3.sa.dc
      have hp4 : (upd B3 p (.ins T.a_Store dx (flds b d q D))) p = some (.ins T.a_Store dx (flds b d q D)) := upd_same
      have hd4 : (upd B3 p (.ins T.a_Store dx (flds b d q D))) d = some (.dK kvs) := by rw [upd_ne S.sa.pd.symm]; exact S3.sa.dc
      have hr4 := kr_mono w3 S3.sa.rs
      have hb4 := (hq.mono b3).monoW w3
      have k4 : ExS p d H (upd B3 p (.ins T.a_Store dx (flds b d q D))) := x3.s.trans (ExS.updP h3)
      generalize upd B3 p (.ins T.a_Store dx (flds b d q D)) = H4 at hp4 hd4 hr4 hb4 k4
      refine s_fldaug (x := .int (D : Int)) (y := .int 1) (z := .int ((D + 1 : Nat) : Int)) T.cl_Store T.d_Store.depth (by walk_at "ev") hp4 fl_depth (by walk_at "ev") (fun A _ Q q => ⟨_, _, rfl, rfl, q A (.refl A)⟩) (by rw [fl_len]; decide) ?_
      intro B5 e5
      rw [fp_depth]
      have hp5 := e5.k hp4
      have hd5 := e5.k hd4
      have w5 : ExW B5 (upd B5 p (.ins T.a_Store dx (flds b d q (D + 1)))) := (ExS.updP (d := d) hp5).w hp5 hd5
      refine go _ _ ⟨k4.trans (e5.s.trans (ExS.updP hp5)), rfl, q, ?_⟩
      rw [if_pos hcd]
      exact ⟨⟨dx, upd_same⟩, by rw [upd_ne S.sa.pd.symm]; exact hd5, kr_mono w5 (kr_mono e5.w hr4), (hb4.mono e5).monoW w5⟩
    · intro hb B e
      have hcd : ¬ c.1 = D := of_decide_eq_false hb
      refine ⟨e.s, rfl, bd, ?_⟩
      rw [if_neg hcd]
      exact S.sa.mono e
    rintro σ' H1 ⟨x1, rfl, bd1, SA1⟩
    have hD' : c.1 < (if c.1 = D then D + 1 else D) := by split <;> omega
    have hD8 : (if c.1 = D then D + 1 else D) ≤ 8 := by have := S.d8; split <;> omega
    have hdep' : ∀ e ∈ R, e.1 ≤ (if c.1 = D then D + 1 else D) := fun e he => by have := S.dep e he; split <;> omega
    generalize (if c.1 = D then D + 1 else D) = D' at SA1 hD' hD8 hdep' k
    have hcovD := S.cov.down hD8 hdep'
    have bcv := board_cv hcovD
    have hbl := board_len R D'
    have hp8 : 2 ^ D' ≤ 2 ^ 8 := Nat.pow_le_pow_right (by decide) hD8
    obtain ⟨dx, h1⟩ := SA1.ob
    -- self._board = parted_at(self._board, bits)
    refine q_fld (P := fun A v B => ∃ q, v = .ref q ∧ LR rpC B q (boardC (partR R c) D')) T.cl_Store T.d_Store.board ((ev_callLR (r' := rpC) (bs := boardC (partR R c) D') (vs := [.ref bd1, .str (bt c)]) (ea_cons (SA1.e_board (by walk_at "ev")) (by walk_at "ea")) fun A e Q' q' E' => ⟨bd1, _, bt c, rfl, lrC_str (SA1.br.mono e), by rw [List.length_map]; omega, by rw [bt_len]; omega, ?_⟩).imp fun A v B _ _ ⟨q, e, _, h⟩ => ⟨q, e, h⟩) (by walk_at "ev") h1 (by rw [fl_len]; decide) ?_
    · rw [bt_0, bt_1, count_bt hcv.1 _ bcv, partGo_bt hcv.1 _ _ bcv, part_board hcovD hc hD']
      exact fun l B hl e' hL => q' l B hl e' (lrS_C hL)
    rintro v B2 B3 b2 ⟨q, rfl, hq⟩ b3
    rw [fp_board]
    have x3 := b2.trans b3
    have SA3 := SA1.mono x3
    have h3 := x3.k h1
    have w3 : ExW B3 (upd B3 p (.ins T.a_Store dx (flds b d q D'))) := (ExS.updP (d := d) h3).w h3 SA3.dc
    have hp4 : (upd B3 p (.ins T.a_Store dx (flds b d q D'))) p = some (.ins T.a_Store dx (flds b d q D')) := upd_same
    have hd4 : (upd B3 p (.ins T.a_Store dx (flds b d q D'))) d = some (.dK kvs) := by rw [upd_ne S.sa.pd.symm]; exact SA3.dc
    have hr4 := kr_mono w3 SA3.rs
    have hb4 := (hq.mono b3).monoW w3
    have k4 : ExS p d H (upd B3 p (.ins T.a_Store dx (flds b d q D'))) := x1.trans (x3.s.trans (ExS.updP h3))
    generalize upd B3 p (.ins T.a_Store dx (flds b d q D')) = H4 at hp4 hd4 hr4 hb4 k4
    -- halves = parted((bits, self._rooms[bits]))
    have hRv : ∀ e ∈ R, Cv e := fun e he => (S.cov.val e he).1
    obtain ⟨l, hvl, hll⟩ := kr_get hr4 hRv hcv.1 hc
    have eRooms : ∀ {σ : L2.St} {B : Hp}, Ex H4 B → σ[0]? = some (some (.ref p)) → Ev (tFld K (tVar 0) "_rooms") σ B (.ref d) := fun e h => ev_fld T.cl_Store T.d_Store.rooms (ev_var h) (e.k hp4) fl_rooms
    refine q_asgG (P := fun _ v B => ∃ t t0 l0 t1 l1, v = .ref t ∧ B t = some (.tup [.ref t0, .ref t1]) ∧ B t0 = some (.tup [.str (bt (c0 c)), .ref l0]) ∧ B t1 = some (.tup [.str (bt (c1 c)), .ref l1]) ∧ LR rpT B l0 (thg ps (c0 c)) ∧ LR rpT B l1 (thg ps (c1 c))) (ev_callE1 (P := NewT [.str (bt c), .ref l]) (R := fun v B => ∃ t t0 l0 t1 l1, v = .ref t ∧ B t = some (.tup [.ref t0, .ref t1]) ∧ B t0 = some (.tup [.str (bt (c0 c)), .ref l0]) ∧ B t1 = some (.tup [.str (bt (c1 c)), .ref l1]) ∧ LR rpT B l0 (thg ps (c0 c)) ∧ LR rpT B l1 (thg ps (c1 c))) (eg_tup (ea_cons (by walk_at "ev") (ea_cons (ev_dget (k := Sum.inr (bt c)) (eRooms (.refl H4) rfl) (by walk_at "ev") hd4 hvl) ea_nil)) (by show 2 ≤ 100000; decide)) ?_) ?_
    · rintro A v C a c' ⟨t, rfl, _, ht⟩ Q' q'
      exact ⟨t, l, c, ps, rfl, ht, (hll.mono a).mono c', hc8, S.nm, fun t' t0 l0 t1 l1 B e g g0 g1 L0 L1 => q' _ B e ⟨t', t0, l0, t1, l1, rfl, g, g0, g1, L0, L1⟩⟩
    rintro v H5 e5 ⟨t, t0, l0, t1, l1, rfl, gt, g0, g1, L0, L1⟩
    show tSeq _ _ _ [some (.ref p), some (.str (bt c)), some (.ref t), none, none] H5
    have hd5 := e5.k hd4
    have hp5 := e5.k hp4
    -- del self._rooms[bits]
    refine q_ddel (k := Sum.inr (bt c)) (eRooms e5 rfl) (by walk_at "ev") hd5 (by rw [hvl]; rfl) ?_
    intro H6 e6
    have hd6 := e6.k hd5
    have hp6 := e6.k hp5
    have w6 : ExW H6 (upd H6 d (.dK (dropK kvs (Sum.inr (bt c))))) := (ExS.updD (p := p) hd6).w hp6 hd6
    have r7 : KR (upd H6 d (.dK (dropK kvs (Sum.inr (bt c))))) (dropK kvs (Sum.inr (bt c))) (R.filter fun d => decide (d ≠ c)) ps := kr_mono w6 (kr_mono (e5.trans e6).w (kr_drop hr4 hRv hcv.1))
    have hp7 : (upd H6 d (.dK (dropK kvs (Sum.inr (bt c))))) p = some (.ins T.a_Store dx (flds b d q D')) := by rw [upd_ne S.sa.pd]; exact hp6
    have hd7 : (upd H6 d (.dK (dropK kvs (Sum.inr (bt c))))) d = some (.dK (dropK kvs (Sum.inr (bt c)))) := upd_same
    have gt7 := w6.k (e6.k gt)
    have g07 := w6.k (e6.k g0)
    have g17 := w6.k (e6.k g1)
    have L07 := (L0.mono e6).monoW w6
    have L17 := (L1.mono e6).monoW w6
    have hb7 := ((hb4.mono e5).mono e6).monoW w6
    have k7 : ExS p d H (upd H6 d (.dK (dropK kvs (Sum.inr (bt c))))) := k4.trans ((e5.trans e6).s.trans (ExS.updD hd6))
    have dl := dropK_le kvs (Sum.inr (bt c) : Key)
    generalize upd H6 d (.dK (dropK kvs (Sum.inr (bt c)))) = H7 at r7 hp7 hd7 gt7 g07 g17 L07 L17 hb7 k7
    generalize dropK kvs (Sum.inr (bt c) : Key) = kv7 at r7 hd7 dl
    -- for half, things in halves: self._rooms[half] = things
    refine ⟨_, rfl, t, rfl, ⟨_, st_of gt7⟩, for_tup (K := K) (a := t) (xs := [.ref t0, .ref t1]) (fun i σ' B => ExS p d H B ∧ B t = some (.tup [.ref t0, .ref t1]) ∧ B t0 = some (.tup [.str (bt (c0 c)), .ref l0]) ∧ B t1 = some (.tup [.str (bt (c1 c)), .ref l1]) ∧ LR rpT B l0 (thg ps (c0 c)) ∧ LR rpT B l1 (thg ps (c1 c)) ∧ B p = some (.ins T.a_Store dx (flds b d q D')) ∧ LR rpC B q (boardC (partR R c) D') ∧ ∃ kv u v, B d = some (.dK kv) ∧ kv.length ≤ 900 ∧ KR B kv ((R.filter fun d => decide (d ≠ c)) ++ [c0 c, c1 c].take i) ps ∧ σ' = [some (.ref p), some (.str (bt c)), some (.ref t), u, v]) ?_ ?_ ?_ ?_⟩
    · exact ⟨k7, gt7, g07, g17, L07, L17, hp7, hb7, kv7, none, none, hd7, by omega, by rw [List.take_zero, List.append_nil]; exact r7, rfl⟩
    · rintro i σ' B _ ⟨_, g, _⟩
      exact st_of g
    · rintro i x σ' B hi ⟨kB, gB, g0B, g1B, L0B, L1B, hpB, hbB, kv, u, v, hdB, hkl, rB, rfl⟩
      have hprt : ∀ e ∈ R.filter (fun d => decide (d ≠ c)), Cv e ∧ e ≠ c0 c ∧ e ≠ c1 c := fun e he => by
        have hnd' := part_nd S.cov hnd hc hc8
        unfold partR at hnd'
        have h3 := (List.nodup_append.mp hnd').2.2 e he
        exact ⟨hRv e (List.mem_filter.mp he).1, h3 _ List.mem_cons_self, h3 _ (List.mem_cons_of_mem _ List.mem_cons_self)⟩
      have hfl := List.length_filter_le (fun d => decide (d ≠ c)) R
      -- one half put
      have step : ∀ (cc : Code) (ll : Addr) (L : List Code), LR rpT B ll (thg ps cc) → Cv cc → cc ∉ L → (∀ e ∈ L, Cv e) → KR B kv L ps → kv.length ≤ 800 → ∀ (Q : L2.St → Hp → Prop),
          (∀ B2 kv2, ExS p d H B2 → B2 t = some (.tup [.ref t0, .ref t1]) → B2 t0 = some (.tup [.str (bt (c0 c)), .ref l0]) → B2 t1 = some (.tup [.str (bt (c1 c)), .ref l1]) → LR rpT B2 l0 (thg ps (c0 c)) → LR rpT B2 l1 (thg ps (c1 c)) → B2 p = some (.ins T.a_Store dx (flds b d q D')) → LR rpC B2 q (boardC (partR R c) D') → B2 d = some (.dK kv2) → kv2.length ≤ kv.length + 1 → KR B2 kv2 (L ++ [cc]) ps → Q [some (.ref p), some (.str (bt c)), some (.ref t), some (.str (bt cc)), some (.ref ll)] B2) →
          ∀ D : Ends, D.nx = Q → sDPut (tFld K (tVar 0) "_rooms") (tVar 3) (tVar 4) D [some (.ref p), some (.str (bt c)), some (.ref t), some (.str (bt cc)), some (.ref ll)] B := fun cc ll L hL hcc hn hv hK hk Q kk D hD => by
        refine s_dput (k := Sum.inr (bt cc)) (P := fun _ v _ => v = .ref ll) (Ev.g (v := .ref ll) (by walk_at "ev") fun _ _ _ _ => rfl) (ev_fld T.cl_Store T.d_Store.rooms (by walk_at "ev") hpB fl_rooms) (by walk_at "ev") hdB (by omega) ?_
        rintro v2 B1 B2 e1 rfl e2
        have e3 := e1.trans e2
        have hp2 := e3.k hpB
        have hd2 := e3.k hdB
        have w2 : ExW B2 (upd B2 d (.dK (putK kv (Sum.inr (bt cc)) (.ref ll)))) := (ExS.updD (p := p) hd2).w hp2 hd2
        have w3 := e3.w.trans w2
        rw [hD]
        refine kk _ (putK kv (Sum.inr (bt cc)) (.ref ll)) (kB.trans (e3.s.trans (ExS.updD hd2))) (w3.k gB) (w3.k g0B) (w3.k g1B) (L0B.monoW w3) (L1B.monoW w3) (by rw [upd_ne S.sa.pd]; exact hp2) (hbB.monoW w3) upd_same ?_ (kr_mono w3 (kr_snoc hK hv hcc hn hL))
        rw [putK_new _ (kr_none hK hv hcc hn), List.length_append]
        exact Nat.le_refl _
      have hlk : kv.length ≤ R.length + 2 := by
        rw [kr_len rB, List.length_append, List.length_take]
        show _ + min i 2 ≤ _
        omega
      match i, hi with
      | 0, hi =>
        obtain rfl := Option.some.inj hi
        refine ⟨t0, _, rfl, st_of g0B, rfl, _, _, rfl, _, _, rfl, rfl, ?_⟩
        refine step (c0 c) l0 _ L0B (cv0 hcv.1) (fun z => ?_) (fun e he => ?_) rB (by omega) _ (fun B2 kv2 x1 x2 x3 x4 x5 x6 x7 x8 x9 x10 x11 => ⟨x1, x2, x3, x4, x5, x6, x7, x8, kv2, _, _, x9, by omega, by rw [List.take_zero, List.append_nil] at x11; exact x11, rfl⟩) _ rfl
        · rw [List.take_zero, List.append_nil] at z
          exact (hprt _ z).2.1 rfl
        · rw [List.take_zero, List.append_nil] at he
          exact (hprt e he).1
      | 1, hi =>
        obtain rfl := Option.some.inj hi
        refine ⟨t1, _, rfl, st_of g1B, rfl, _, _, rfl, _, _, rfl, rfl, ?_⟩
        refine step (c1 c) l1 _ L1B (cv1 hcv.1) (fun z => ?_) (fun e he => ?_) rB (by omega) _ (fun B2 kv2 x1 x2 x3 x4 x5 x6 x7 x8 x9 x10 x11 => ⟨x1, x2, x3, x4, x5, x6, x7, x8, kv2, _, _, x9, by omega, by rw [List.append_assoc] at x11; exact x11, rfl⟩) _ rfl
        · rcases List.mem_append.mp z with z | z
          · exact (hprt _ z).2.2 rfl
          · exact c01 c (List.mem_singleton.mp z).symm
        · rcases List.mem_append.mp he with he | he
          · exact (hprt e he).1
          · rw [List.mem_singleton.mp he]
            exact cv0 hcv.1
      | i + 2, hi => exact absurd hi (by simp)
    · rintro σ' B ⟨kB, gB, g0B, g1B, L0B, L1B, hpB, hbB, kv, u, v, hdB, hkl, rB, rfl⟩
      exact k q kv B kB ⟨⟨dx, hpB⟩, hdB, rB, hbB⟩
end


theorem nat_few : ∀ (n : Nat) (L : List Nat), L.Nodup → (∀ x ∈ L, x < n) → L.length ≤ n
  | 0, [], _, _ => Nat.le_refl _
  | 0, x :: _, _, h => absurd (h x List.mem_cons_self) (Nat.not_lt_zero _)
  | n + 1, L, hd, h => by
    by_cases hm : n ∈ L
    · have := nat_few n (L.erase n) (hd.erase n) fun x hx => by
        have h1 := h x (List.mem_of_mem_erase hx)
        have h2 : x ≠ n := fun z => by
          rw [z] at hx
          exact (List.Nodup.not_mem_erase hd) hx
        omega
      rw [List.length_erase_of_mem hm] at this
      omega
    · have := nat_few n L hd fun x hx => by
        have h1 := h x hx
        have h2 : x ≠ n := fun z => hm (z ▸ hx)
        omega
      omega
theorem cov_len {R : List Code} (h : Cov R 8) (nd : R.Nodup) : R.length ≤ 256 := by
  have hi : ∀ c ∈ R, c.2 * 2 ^ (8 - c.1) < 2 ^ 8 ∧ inB 8 (c.2 * 2 ^ (8 - c.1)) c = true := fun c hc => by
    have hv := h.val c hc
    have := blk_end hv.1 hv.2
    have := Nat.two_pow_pos (8 - c.1)
    exact ⟨by omega, inB_iff.mpr ⟨hv.2, Nat.mul_div_cancel _ (Nat.two_pow_pos _)⟩⟩
  have := nat_few (2 ^ 8) (R.map fun c => c.2 * 2 ^ (8 - c.1)) ?_ fun x hx => ?_
  · rw [List.length_map] at this
    exact this
  · rw [List.Nodup, List.pairwise_map]
    refine List.Pairwise.imp_of_mem ?_ nd
    intro a b ha hb hne e
    exact hne (h.uq _ (hi a ha).1 a ha b hb (hi a ha).2 (e ▸ (hi b hb).2))
  · obtain ⟨c, hc, rfl⟩ := List.mem_map.mp hx
    exact (hi c hc).1
section
variable {P : Program} {w : World} {K : PySem.W.Frag} {mg : Str → Option Value} {base : Heap} [TabCx]
def spPartFor (C : Addr) : Sp := fun vs H Q _ => ∃ (p d bd : Addr) (kvs : List (Key × V)) (b : Nat) (R : List Code) (D : Nat) (ps : List (Int × Int)) (n : Int), vs = [.ref p, .int n] ∧ SA C H p d bd kvs b R D ps ∧ PutS b R D ps n ∧ 1 ≤ b ∧ (0 ≤ n ∧ n < 256) ∧
  ∀ (bd' : Addr) (kvs' : List (Key × V)) (R' : List Code) (D' : Nat) (B : Hp), ExS p d H B → SA C B p d bd' kvs' b R' D' ps → Good b R' D' ps → Q .non B
theorem PutS.st {C : Addr} {H : Hp} {p d bd : Addr} {kvs : List (Key × V)} {b : Nat} {R : List Code} {D : Nat} {ps : List (Int × Int)} {n : Int} (h : PutS b R D ps n) (s : SA C H p d bd kvs b R D ps) : St C H p d bd kvs b R D ps := ⟨s, h.cov, h.dep, h.d8, h.nm⟩
theorem ok_m__part_for (T : Top K mg) : FnOk P w K mg base CX0 7 T.a_m__part_for T.fd_m__part_for ["self", "name"] (spPartFor T.a_Store) := by
  refine T.F_m__part_for.ok sc_m__part_for (fun vs H Q E h => ?_) (fun cdv A outer s H vs Q E hr h => ?_)
  · obtain ⟨p, d, bd, kvs, b, R, D, ps, n, rfl, _⟩ := h
    rfl
  · obtain ⟨p, d, bd, kvs, b, R, D, ps, n, rfl, S, hP, hb, hn, k⟩ := h
    refine ⟨_, (pss_cons (ps_set (i := 2) sc_m__part_for.nd rfl (Or.inl rfl) (pe_meth (pv 0) T.cl_Store T.M_m__bits_of (ok_m__bits_of T) (hr.mono (by decide)) T.b_m__bits_of .nil pass0 (pa_cons (pv 1) pa_nil)))
      (pss_one (ps_while PassesOwn.never (pt_cmpR op_gt (pe_callB (r := rLen K) call_len_seq (by rfl) T.z_len (by decide +kernel) (pa_cons (by exact (pe_dget (hu_of hr) (pe_fld (pv 0) rfl) (pv 2) (fun _ _ => rfl))) pa_nil)) (pe_fld (pv 0) rfl) (nomark _)) (pss_cons (ps_expr (pe_meth (pv 0) T.cl_Store T.M_m__part (ok_m__part T) (hr.mono (by decide)) T.b_m__part .nil pass0 (pa_cons (pv 2) pa_nil)))
      (pss_one (ps_set (i := 2) sc_m__part_for.nd rfl (Or.inl rfl) (pe_meth (pv 0) T.cl_Store T.M_m__bits_of (ok_m__bits_of T) (hr.mono (by decide)) T.b_m__bits_of .nil pass0 (pa_cons (pv 1) pa_nil)))))))), ?_⟩
    refine q_asg (v := .str (bt (roomC R n))) (S.e_meth (by walk_at "ev") (by walk_at "ea") (spv_ask (z := zBits) (hP.st S) hn)) ?_
    intro H1 e1
    show tWhile _ _ _ [some (.ref p), some (.int n), some (.str (bt (roomC R n)))] H1
    refine s_while (fun m σ' B => ExS p d H B ∧ ∃ bd kvs R D, SA T.a_Store B p d bd kvs b R D ps ∧ PutS b R D ps n ∧ m = 8 - (roomC R n).1 ∧ σ' = [some (.ref p), some (.int n), some (.str (bt (roomC R n)))]) ⟨e1.s, bd, kvs, R, D, S.mono e1, hP, rfl, rfl⟩ ?_
    rintro m σ' B ⟨x1, bd, kvs, R, D, S, hP, rfl, rfl⟩
    have ST := hP.st S
    obtain ⟨l, ⟨xs, hx, hpx⟩, h3⟩ := ST.room n
    refine ⟨decide (b < cnt ps (roomC R n)), et_is (et_test (ev_op (ev_cb (ea_cons (h3 (by walk_at "ev") (by walk_at "ev")) ea_nil) (rc_len (sq_of hx))) (S.e_bound (by walk_at "ev")) rv_I0)) ?_, fun hb' B2 e2 => ?_, fun hb' B2 e2 => ?_⟩
    · rw [hpx.length]
      refine decide_eq_decide.mpr ?_
      show ((b : Int) < ((thg ps (roomC R n)).length : Int)) ↔ b < (thg ps (roomC R n)).length
      omega
    · have hg : b < cnt ps (roomC R n) := of_decide_eq_true hb'
      obtain ⟨h8, hP', hlt⟩ := hP.part hb hg
      have hc8 := (hP'.cov.val _ (room_mem hP'.cov n).1).2
      refine q_dropC ((S.mono e2).g_meth (by walk_at "ev") (by walk_at "ea") fun B3 e3 => ⟨p, d, bd, kvs, b, R, D, ps, roomC R n, rfl, (ST.mono e2).mono e3, (room_mem hP.cov n).1, h8, by have := cov_len hP.cov hP.nd; omega, hP.nd, fun bd' kvs' B4 x4 S4 => ?_⟩)
      refine s_asg (v := .str (bt (roomC (partR R (roomC R n)) n))) (S4.e_meth (by walk_at "ev") (by walk_at "ea") (spv_ask (z := zBits) (hP'.st S4) hn)) ?_
      intro B5 e5
      exact ⟨8 - (roomC (partR R (roomC R n)) n).1, by omega, x1.trans ((e2.trans e3).s.trans (x4.trans e5.s)), bd', kvs', _, _, S4.mono e5, hP', rfl, rfl⟩
    · have hg : ¬ b < cnt ps (roomC R n) := of_decide_eq_false hb'
      exact k bd kvs R D B2 (x1.trans e2.s) (S.mono e2) (hP.done (by omega))
/-- a store whose rooms are as they should be -/
theorem Good.st {C : Addr} {H : Hp} {p d bd : Addr} {kvs : List (Key × V)} {b : Nat} {R : List Code} {D : Nat} {ps : List (Int × Int)} (h : Good b R D ps) (s : SA C H p d bd kvs b R D ps) : St C H p d bd kvs b R D ps := ⟨s, h.cov, h.dep, h.d8, h.nm⟩
def spPut (C : Addr) : Sp := fun vs H Q _ => ∃ (p d bd : Addr) (kvs : List (Key × V)) (b : Nat) (R : List Code) (D : Nat) (ps : List (Int × Int)) (n v : Int), vs = [.ref p, .int n, .int v] ∧ SA C H p d bd kvs b R D ps ∧ Good b R D ps ∧ 1 ≤ b ∧ (0 ≤ n ∧ n < 256) ∧
  ∀ (bd' : Addr) (kvs' : List (Key × V)) (R' : List Code) (D' : Nat) (B : Hp), ExS p d H B → SA C B p d bd' kvs' b R' D' (insT ps n v) → Good b R' D' (insT ps n v) → Q (vOpt (valT ps n)) B
theorem ok_m_put (T : Top K mg) : FnOk P w K mg base CX0 8 T.a_m_put T.fd_m_put ["self", "name", "value"] (spPut T.a_Store) := by
  refine T.F_m_put.ok sc_m_put (fun vs H Q E h => ?_) (fun cdv A outer s H vs Q E hr h => ?_)
  · obtain ⟨p, d, bd, kvs, b, R, D, ps, n, v, rfl, _⟩ := h
    rfl
  · obtain ⟨p, d, bd, kvs, b, R, D, ps, n, v, rfl, S, G, hb, hn, k⟩ := h
    refine ⟨_, (pss_cons (ps_set (i := 3) sc_m_put.nd rfl (Or.inl rfl) (pe_meth (pv 0) T.cl_Store T.M_m__bits_of (ok_m__bits_of T) (hr.mono (by decide)) T.b_m__bits_of .nil pass0 (pa_cons (pv 1) pa_nil)))
      (pss_cons (ps_set (i := 4) sc_m_put.nd rfl (Or.inl rfl) (by exact (pe_dget (hu_of hr) (pe_fld (pv 0) rfl) (pv 3) (fun _ _ => rfl))))
      (pss_cons (ps_set (i := 5) sc_m_put.nd rfl (Or.inl rfl) (pe_call (ok_value_in T) (hr.mono (by decide)) rfl T.g_value_in T.F_value_in.kp T.b_value_in .nil pass0 (pa_cons (pv 4) (pa_cons (pv 1) pa_nil))))
      (pss_cons (ps_dput (hu_of hr) (pe_fld (pv 0) rfl) (pv 3) (pe_call (ok_with_thing T) (hr.mono (by decide)) rfl T.g_with_thing T.F_with_thing.kp T.b_with_thing .nil pass0 (pa_cons (pv 4) (pa_cons (pv 1) (pa_cons (pv 2) pa_nil)))) rfl)
      (pss_cons (ps_expr (pe_meth (pv 0) T.cl_Store T.M_m__part_for (ok_m__part_for T) (hr.mono (by decide)) T.b_m__part_for .nil pass0 (pa_cons (pv 1) pa_nil)))
      (pss_one (ps_ret (pv 5)))))))), ?_⟩
    have ST := G.st S
    obtain ⟨hcm, hin⟩ := room_mem G.cov n
    have hcv := G.cov.val _ hcm
    refine q_asg (v := .str (bt (roomC R n))) (S.e_meth (by walk_at "ev") (by walk_at "ea") (spv_ask (z := zBits) ST hn)) ?_
    intro H1 e1
    have S1 := S.mono e1
    show tSeq _ _ _ [some (.ref p), some (.int n), some (.int v), some (.str (bt (roomC R n))), none, none] H1
    obtain ⟨l, hl, h3⟩ := (ST.mono e1).room n
    refine q_asg (v := .ref l) (h3 (by walk_at "ev") (by walk_at "ev")) ?_
    intro H2 e2
    have S2 := S1.mono e2
    have hl2 := hl.mono e2
    show tSeq _ _ _ [some (.ref p), some (.int n), some (.int v), some (.str (bt (roomC R n))), some (.ref l), none] H2
    refine q_asg (v := vOpt (valT ps n)) (ev_is (ev_call (vs := [.ref l, .int n]) (by walk_at "ea") (spv_valin hl2)) (congrArg vOpt (valT_thg G.cov ps n))) ?_
    intro H3 e3
    have S3 := S2.mono e3
    have hl3 := hl2.mono e3
    generalize hvo : vOpt (valT ps n) = vo at k
    show tSeq _ _ _ [some (.ref p), some (.int n), some (.int v), some (.str (bt (roomC R n))), some (.ref l), some vo] H3
    have hkl := kr_len S3.rs
    have hR := cov_len G.cov G.nd
    refine q_dput (k := Sum.inr (bt (roomC R n))) (P := fun A v' B => ∃ q, v' = .ref q ∧ LR rpT B q (insT (thg ps (roomC R n)) n v)) ((ev_callLR (r' := rpT) (bs := insT (thg ps (roomC R n)) n v) (by walk_at "ea") (spl_with hl3 (by have := (G.st S).len (roomC R n); omega))).imp fun A v' B _ _ ⟨q, e, _, h⟩ => ⟨q, e, h⟩) (S3.e_rooms (by walk_at "ev")) (by walk_at "ev") S3.dc (by omega) ?_
    rintro v' B B2 b1 ⟨q, rfl, hq⟩ b2
    have x3 := b1.trans b2
    have S4 := S3.mono x3
    obtain ⟨dx, h4⟩ := S4.ob
    have w4 : ExW B2 (upd B2 d (.dK (putK kvs (Sum.inr (bt (roomC R n))) (.ref q)))) := (ExS.updD (p := p) S4.dc).w h4 S4.dc
    have hins := thg_ins G.nm n v
    have S5 : SA T.a_Store (upd B2 d (.dK (putK kvs (Sum.inr (bt (roomC R n))) (.ref q)))) p d bd (putK kvs (Sum.inr (bt (roomC R n))) (.ref q)) b R D (insT ps n v) := by
      refine ⟨⟨dx, by rw [upd_ne S.pd]; exact h4⟩, upd_same, kr_put (ps := ps) (kr_mono w4 S4.rs) (fun e he => (G.cov.val e he).1) hcv.1 hcm ?_ ?_, S4.br.monoW w4⟩
      · rw [hins, if_pos hin]
        exact (hq.mono b2).monoW w4
      · intro e he hne
        rw [hins, if_neg fun z => hne (room_eq G.cov he z).symm]
    have k5 : ExS p d H (upd B2 d (.dK (putK kvs (Sum.inr (bt (roomC R n))) (.ref q)))) := ((((e1.trans e2).trans e3).trans x3).s).trans (ExS.updD S4.dc)
    refine q_dropC (S5.g_meth (by walk_at "ev") (by walk_at "ea") fun B6 e6 => ⟨p, d, bd, _, b, R, D, insT ps n v, n, rfl, S5.mono e6, G.put v hn.1 hn.2, hb, hn, fun bd' kvs' R' D' B7 x7 S7 G7 => ?_⟩)
    refine s_retk (v := vo) (by walk_at "ev") fun B8 e8 => ?_
    exact k bd' kvs' R' D' B8 ((k5.trans e6.s).trans (x7.trans e8.s)) (S7.mono e8) G7
end


section
variable [TabCx]
variable {K : PySem.W.Frag} {σ : L2.St} {H H' : Hp} {ta tb te td ty tv : TE} {D : Ends} {tz : TS} {v x : V} {P P' : Hp → V → Hp → Prop}
theorem q_par {i j : Nat} {t : TA} (h : EvA t σ H [v, x]) (k : ∀ B, Ex H B → tz D ((σ.set i (some v)).set j (some x)) B) : tSeq (tPar i j t) tz D σ H := h H (.refl H) _ fun B e => ⟨v, x, rfl, k B e⟩
theorem ev_callE2 {R : V → Hp → Prop} {sp : Sp} {E : XK} (ha : EvG ta σ H P) (hb : EvG tb σ H P') (hs : ∀ A u B B2 v C, Ex H A → Ex A B → P A u B → Ex B B2 → Ex B2 C → P' B2 v C → ∀ Q : VK, (∀ z G, Ex C G → R z G → Q z G) → sp [u, v] C Q E) : EvG (tCall sp [] E (tCons ta (tCons tb tNil))) σ H (fun _ z G => R z G) := fun A a Q q =>
  ha A a _ fun u B b hu => hb B (a.trans b) _ fun v C c hv => hs A u B B v C a b hu (.refl B) c hv Q fun z G g r => q z G ((b.trans c).trans g) r
theorem s_asgTG {g : TG} (h : EvG te σ H P) (k : ∀ v B, Ex H B → P H v B → g v σ B D.nx) : tAsg te g D σ H := h H (.refl H) _ fun v B b p => k v B b p
theorem q_asgTG {g : TG} (h : EvG te σ H P) (k : ∀ v B, Ex H B → P H v B → g v σ B (tz D)) : tSeq (tAsg te g) tz D σ H := h H (.refl H) _ fun v B b p => k v B b p
end
section
variable [TabCx]
theorem canHalve_board {R : List Code} {D : Nat} (h : Cov R D) : canHalve ((boardC R D).map bt) = decide (0 < D ∧ ∀ c ∈ R, c.1 < D) := by
  unfold canHalve
  rw [List.length_map, board_len]
  rcases Nat.eq_zero_or_pos D with z | z
  · subst z
    rw [show decide (1 < 2 ^ 0) = false from rfl, Bool.false_and]
    exact (decide_eq_false fun w => Nat.lt_irrefl 0 w.1).symm
  · have hl : 1 < 2 ^ D := Nat.one_lt_two_pow (by omega)
    rw [decide_eq_true hl, Bool.true_and]
    by_cases g : ∀ c ∈ R, c.1 < D
    · rw [decide_eq_true (show 0 < D ∧ ∀ c ∈ R, c.1 < D from ⟨z, g⟩)]
      have hd : Cov R (D - 1) := h.down (Nat.sub_le _ _) fun c hc => by have := g c hc; omega
      have e : boardC R D = twice (boardC R (D - 1)) := by rw [twice_board hd, show D - 1 + 1 = D by omega]
      rw [e, ← twice_map, evens_twice, odds_twice]
      exact decide_eq_true rfl
    · rw [show decide (0 < D ∧ ∀ c ∈ R, c.1 < D) = false from decide_eq_false fun w => g w.2]
      refine decide_eq_false fun he => g fun c hc => ?_
      have hv := h.val c hc
      refine Nat.lt_of_le_of_ne hv.2 fun hcD => ?_
      have hcv : c.2 < 2 ^ D := hcD ▸ hv.1
      have h1 := congrArg (fun l : List Str => l[c.2 / 2]?) he
      simp only [evens_get, List.getElem?_tail] at h1
      have hp2 : 2 ^ D = 2 * 2 ^ (D - 1) := by rw [show D = D - 1 + 1 by omega, Nat.pow_succ, Nat.mul_comm, show D - 1 + 1 - 1 = D - 1 by omega]
      have at_ : ∀ i, i < 2 ^ D → ((boardC R D).map bt)[i]? = some (bt (atC R D i)) := fun i hi => by
        unfold boardC
        rw [List.getElem?_map, List.getElem?_map, List.getElem?_range hi]
        rfl
      have i0 : 2 * (c.2 / 2) < 2 ^ D := by omega
      have i1 : 2 * (c.2 / 2) + 1 < 2 ^ D := by omega
      rw [at_ _ i0, at_ _ i1] at h1
      have m0 := atC_mem h i0
      have m1 := atC_mem h i1
      have e := bt_inj (h.val _ m0.1).1 (h.val _ m1.1).1 (Option.some.inj h1)
      have hcb : inB D c.2 c = true := inB_iff.mpr ⟨hv.2, by rw [hcD, Nat.sub_self, Nat.pow_zero, Nat.div_one]⟩
      have only : ∀ i, inB D i c = true → i = c.2 := fun i hb => by
        have := (inB_iff.mp hb).2
        rw [hcD, Nat.sub_self, Nat.pow_zero, Nat.div_one] at this
        exact this
      rcases Nat.mod_two_eq_zero_or_one c.2 with q | q
      · have ei : 2 * (c.2 / 2) = c.2 := by omega
        have e0 : atC R D (2 * (c.2 / 2)) = c := by rw [ei]; exact atC_eq h hcv hc hcb
        rw [e0] at e
        have m1' := m1.2
        rw [← e] at m1'
        have := only _ m1'
        omega
      · have ei : 2 * (c.2 / 2) + 1 = c.2 := by omega
        have e1 : atC R D (2 * (c.2 / 2) + 1) = c := by rw [ei]; exact atC_eq h hcv hc hcb
        rw [e1] at e
        have m0' := m0.2
        rw [e] at m0'
        have := only _ m0'
        omega
theorem evens_board {R : List Code} {D : Nat} (h : Cov R D) (hD : 0 < D) (g : ∀ c ∈ R, c.1 < D) : evens ((boardC R D).map bt) = (boardC R (D - 1)).map bt := by
  have hd : Cov R (D - 1) := h.down (Nat.sub_le _ _) fun c hc => by have := g c hc; omega
  have e : boardC R D = twice (boardC R (D - 1)) := by rw [twice_board hd, show D - 1 + 1 = D by omega]
  rw [e, ← twice_map, evens_twice]
theorem okC (R : List Code) : OkL (R.map bt) := fun s hs => by
  obtain ⟨c, _, rfl⟩ := List.mem_map.mp hs
  exact bt_ok c
end
section
variable {P : Program} {w : World} {K : PySem.W.Frag} {mg : Str → Option Value} {base : Heap} [TabCx]
def canJ (b : Nat) (R : List Code) (ps : List (Int × Int)) (u : Code) : Bool := decide (c0 u ∈ R) && (decide (c1 u ∈ R) && decide (cnt ps (c0 u) + cnt ps (c1 u) ≤ b))
def spCanJoin (C : Addr) : Sp := fun vs H Q _ => ∃ (p d bd : Addr) (kvs : List (Key × V)) (b : Nat) (R : List Code) (D : Nat) (ps : List (Int × Int)) (u : Code), vs = [.ref p, .str (bt u)] ∧ St C H p d bd kvs b R D ps ∧ Cv u ∧ u.1 ≤ 8 ∧ RetV (.bl (canJ b R ps u)) H Q
theorem in_kr {H : Hp} {kvs : List (Key × V)} {R : List Code} {ps : List (Int × Int)} (h : KR H kvs R ps) (hv : ∀ d ∈ R, Cv d) {c : Code} (hc : Cv c) : (valV kvs (Sum.inr (bt c))).isSome = decide (c ∈ R) := by
  by_cases m : c ∈ R
  · obtain ⟨l, h1, _⟩ := kr_get h hv hc m
    rw [h1, decide_eq_true m]
    rfl
  · rw [kr_none h hv hc m, decide_eq_false m]
    rfl
theorem ok_m__can_join (T : Top K mg) : FnOk P w K mg base CX0 1 T.a_m__can_join T.fd_m__can_join ["self", "bits"] (spCanJoin T.a_Store) := by
  refine T.F_m__can_join.ok sc_m__can_join (fun vs H Q E h => ?_) (fun cdv A outer s H vs Q E hr h => ?_)
  · obtain ⟨p, d, bd, kvs, b, R, D, ps, u, rfl, _⟩ := h
    rfl
  · obtain ⟨p, d, bd, kvs, b, R, D, ps, u, rfl, S, hu, hu8, k⟩ := h
    refine ⟨_, (pss_cons (ps_par (i := 2) (j := 3) rfl sc_m__can_join.nd rfl rfl (by decide) rfl rfl (pa_cons (pe_op op_add_str (pv 1) pe_str) (pa_cons (pe_op op_add_str (pv 1) pe_str) pa_nil)) (by rfl))
      (pss_cons (ps_if (PW.pt (pw_or (pt_cmp (pc_dnotin (hu_of hr) (pv 2) (pe_fld (pv 0) rfl))) (pw_or1 (pt_cmp (pc_dnotin (hu_of hr) (pv 3) (pe_fld (pv 0) rfl)))))) (pss_one (ps_ret pe_bl)) pss_nil)
      (pss_one (ps_ret (pe_cmpR op_le (pe_op op_add (pe_callB (r := rLen K) call_len_seq (by rfl) T.z_len (by decide +kernel) (pa_cons (by exact (pe_dget (hu_of hr) (pe_fld (pv 0) rfl) (pv 2) (fun _ _ => rfl))) pa_nil)) (pe_callB (r := rLen K) call_len_seq (by rfl) T.z_len (by decide +kernel) (pa_cons (by exact (pe_dget (hu_of hr) (pe_fld (pv 0) rfl) (pv 3) (fun _ _ => rfl))) pa_nil))) (pe_fld (pv 0) rfl) (nomark _)))))), ?_⟩
    have hRv : ∀ e ∈ R, Cv e := fun e he => (S.cov.val e he).1
    refine q_par (v := .str (bt (c0 u))) (x := .str (bt (c1 u))) (ea_cons (ev_b0 (by walk_at "ev") (by omega)) (ea_cons (ev_b1 (by walk_at "ev") (by omega)) ea_nil)) ?_
    intro H1 e1
    have S1 := S.mono e1
    show tSeq _ _ _ [some (.ref p), some (.str (bt u)), some (.str (bt (c0 u))), some (.str (bt (c1 u)))] H1
    refine q_when (b := !decide (c0 u ∈ R) || !decide (c1 u ∈ R)) (et_or (et_is (et_B (ev_dnotin (k := Sum.inr (bt (c0 u))) (S1.sa.e_rooms (by walk_at "ev")) (by walk_at "ev") S1.sa.dc)) (by rw [in_kr S1.sa.rs hRv (cv0 hu)])) fun _ => et_is (et_B (ev_dnotin (k := Sum.inr (bt (c1 u))) (S1.sa.e_rooms (by walk_at "ev")) (by walk_at "ev") S1.sa.dc)) (by rw [in_kr S1.sa.rs hRv (cv1 hu)])) ?_ ?_
    · intro hb B e
      walk_at "ret"
      have hz : canJ b R ps u = false := by
        unfold canJ
        by_cases h0 : c0 u ∈ R
        · by_cases h1 : c1 u ∈ R
          · simp [h0, h1] at hb
          · rw [decide_eq_false h1]; simp
        · rw [decide_eq_false h0]; rfl
      rw [hz] at k
      exact RetV.mono (e1.trans e) k
    · intro hb B e
      have hb2 : c0 u ∈ R ∧ c1 u ∈ R := by simpa using hb
      obtain ⟨h0, h1⟩ := hb2
      have S2 := S1.mono e
      obtain ⟨l0, _, ⟨xs, hx, hpx⟩, g0⟩ := S2.sa.e_room S.cov h0
      obtain ⟨l1, _, ⟨ys, hy, hpy⟩, g1⟩ := S2.sa.e_room S.cov h1
      refine s_retk (v := .bl (canJ b R ps u)) (ev_is (ev_op (ev_op (ev_cb (ea_cons (g0 (by walk_at "ev") (by walk_at "ev")) ea_nil) (rc_len (sq_of hx))) (ev_cb (ea_cons (g1 (by walk_at "ev") (by walk_at "ev")) ea_nil) (rc_len (sq_of hy))) rv_I0) (S2.sa.e_bound (by walk_at "ev")) rv_I0) (congrArg V.bl ?_)) (RetV.mono (e1.trans e) k)
      unfold canJ
      rw [decide_eq_true h0, decide_eq_true h1, Bool.true_and, Bool.true_and, hpx.length, hpy.length]
      refine decide_eq_decide.mpr ?_
      show (((thg ps (c0 u)).length : Int) + ((thg ps (c1 u)).length : Int) ≤ (b : Int)) ↔ (thg ps (c0 u)).length + (thg ps (c1 u)).length ≤ b
      omega
theorem fil2 (R : List Code) (c : Code) : (R.filter fun d => decide (d ≠ c0 c)).filter (fun d => decide (d ≠ c1 c)) = R.filter fun d => decide (d ≠ c0 c) && decide (d ≠ c1 c) := by
  rw [List.filter_filter]
  exact List.filter_congr fun d _ => Bool.and_comm _ _
def spJoinC (C : Addr) : Sp := fun vs H Q _ => ∃ (p d bd : Addr) (kvs : List (Key × V)) (b : Nat) (R : List Code) (D : Nat) (ps : List (Int × Int)) (u : Code), vs = [.ref p, .str (bt u)] ∧ St C H p d bd kvs b R D ps ∧ R.Nodup ∧ Cv u ∧ c0 u ∈ R ∧ c1 u ∈ R ∧ TabsOk H ∧
  ∀ (bd' : Addr) (kvs' : List (Key × V)) (B : Hp), ExS p d H B → SA C B p d bd' kvs' b (joinR R u) D ps → Q .non B
set_option maxHeartbeats 2000000 in
theorem ok_m__join (T : Top K mg) (TB : Tabs base T) : FnOk P w K mg base CX0 4 T.a_m__join T.fd_m__join ["self", "bits"] (spJoinC T.a_Store) := by
  refine T.F_m__join.ok sc_m__join (fun vs H Q E h => ?_) (fun cdv A outer s H vs Q E hr h => ?_)
  · obtain ⟨p, d, bd, kvs, b, R, D, ps, u, rfl, _⟩ := h
    rfl
  · obtain ⟨p, d, bd, kvs, b, R, D, ps, u, rfl, S, hnd, hu, h0, h1, hT, k⟩ := h
    refine ⟨_, (pss_cons (ps_par (i := 2) (j := 3) rfl sc_m__join.nd rfl rfl (by decide) rfl rfl (pa_cons (pe_op op_add_str (pv 1) pe_str) (pa_cons (pe_op op_add_str (pv 1) pe_str) pa_nil)) (by rfl))
      (pss_cons (ps_asg (pe_call (ok_joined T TB) (hr.mono (by decide)) rfl T.g_joined T.F_joined.kp T.b_joined .nil pass0 (pa_cons (pe_tup (pa_cons (pv 2) (pa_cons (by exact (pe_dget (hu_of hr) (pe_fld (pv 0) rfl) (pv 2) (fun _ _ => rfl))) pa_nil))) (pa_cons (pe_tup (pa_cons (pv 3) (pa_cons (by exact (pe_dget (hu_of hr) (pe_fld (pv 0) rfl) (pv 3) (fun _ _ => rfl))) pa_nil))) pa_nil))) (pg_tup (by rfl) (pgs_cons (pg_name (i := 4) sc_m__join.nd rfl (Or.inl rfl)) (pgs_cons (pg_name (i := 5) sc_m__join.nd rfl (Or.inl rfl)) pgs_nil))))
      (pss_cons (ps_ddel (pe_fld (pv 0) rfl) (pv 2))
      (pss_cons (ps_ddel (pe_fld (pv 0) rfl) (pv 3))
      (pss_cons (ps_dput (hu_of hr) (pe_fld (pv 0) rfl) (pv 1) (pv 5) rfl)
      (pss_one (ps_fld (pv 0) (pe_call (ok_joined_at T) (hr.mono (by decide)) rfl T.g_joined_at T.F_joined_at.kp T.b_joined_at .nil pass0 (pa_cons (pe_fld (pv 0) rfl) (pa_cons (pv 1) pa_nil))) rfl))))))), ?_⟩
    have hRv : ∀ e ∈ R, Cv e := fun e he => (S.cov.val e he).1
    have hu8 : u.1 < 8 := (S.cov.val _ h0).2
    have hR := cov_len S.cov hnd
    have hkl := kr_len S.sa.rs
    refine q_par (v := .str (bt (c0 u))) (x := .str (bt (c1 u))) (ea_cons (ev_b0 (by walk_at "ev") (by omega)) (ea_cons (ev_b1 (by walk_at "ev") (by omega)) ea_nil)) ?_
    intro H1 e1
    have S1 := S.mono e1
    show tSeq _ _ _ [some (.ref p), some (.str (bt u)), some (.str (bt (c0 u))), some (.str (bt (c1 u))), none, none] H1
    obtain ⟨l0, v0, L0, g0⟩ := S1.sa.e_room S.cov h0
    obtain ⟨l1, v1, L1, g1⟩ := S1.sa.e_room S.cov h1
    refine q_asgTG (P := fun _ v B => ∃ t l, v = .ref t ∧ B t = some (.tup [.str (bt u), .ref l]) ∧ LR rpT B l (thg ps u)) (ev_callE2 (P := NewT [.str (bt (c0 u)), .ref l0]) (P' := NewT [.str (bt (c1 u)), .ref l1]) (R := fun v B => ∃ t l, v = .ref t ∧ B t = some (.tup [.str (bt u), .ref l]) ∧ LR rpT B l (thg ps u)) (eg_tup (ea_cons (by walk_at "ev") (ea_cons (g0 (by walk_at "ev") (by walk_at "ev")) ea_nil)) (by show 2 ≤ 100000; decide)) (eg_tup (ea_cons (by walk_at "ev") (ea_cons (g1 (by walk_at "ev") (by walk_at "ev")) ea_nil)) (by show 2 ≤ 100000; decide)) ?_) ?_
    · rintro A x B B2 y C' a b' ⟨t1, rfl, _, ht1⟩ b2 c' ⟨t2, rfl, _, ht2⟩ Q' q'
      have x3 := b2.trans c'
      have x4 := (a.trans b').trans x3
      exact ⟨t1, l0, t2, l1, u, ps, rfl, x3.k ht1, ht2, L0.mono x4, L1.mono x4, hu8, S.nm, x4.tabs (e1.tabs hT), fun t l G g ht hl => q' _ G g ⟨t, l, rfl, ht, hl⟩⟩
    rintro v H2 e2 ⟨t, l, rfl, ht, hl⟩
    refine ⟨t, _, rfl, st_of ht, rfl, _, _, rfl, _, _, rfl, rfl, ?_⟩
    dsimp only
    refine st_nf (t := tSeq _ _) (σ' := [some (.ref p), some (.str (bt u)), some (.str (bt (c0 u))), some (.str (bt (c1 u))), some (.str (bt u)), some (.ref l)]) rfl ?_
    have S2 := S1.mono e2
    obtain ⟨dx, hp2⟩ := S2.sa.ob
    -- del low
    refine q_ddel (k := Sum.inr (bt (c0 u))) (S2.sa.e_rooms (by walk_at "ev")) (by walk_at "ev") S2.sa.dc (by rw [in_kr S2.sa.rs hRv (cv0 hu)]; exact decide_eq_true h0) ?_
    intro H3 e3
    have S3 := S2.mono e3
    have hp3 := e3.k hp2
    have w3 : ExW H3 (upd H3 d (.dK (dropK kvs (Sum.inr (bt (c0 u)))))) := (ExS.updD (p := p) S3.sa.dc).w hp3 S3.sa.dc
    have r4 : KR (upd H3 d (.dK (dropK kvs (Sum.inr (bt (c0 u)))))) (dropK kvs (Sum.inr (bt (c0 u)))) (R.filter fun d => decide (d ≠ c0 u)) ps := kr_mono w3 (kr_drop S3.sa.rs hRv (cv0 hu))
    have hp4 : (upd H3 d (.dK (dropK kvs (Sum.inr (bt (c0 u)))))) p = some (.ins T.a_Store dx (flds b d bd D)) := by rw [upd_ne S.sa.pd]; exact hp3
    have hd4 : (upd H3 d (.dK (dropK kvs (Sum.inr (bt (c0 u)))))) d = some (.dK (dropK kvs (Sum.inr (bt (c0 u))))) := upd_same
    have hl4 := (hl.mono e3).monoW w3
    have hb4 := S3.sa.br.monoW w3
    have k4 : ExS p d H (upd H3 d (.dK (dropK kvs (Sum.inr (bt (c0 u)))))) := ((e1.trans e2).trans e3).s.trans (ExS.updD S3.sa.dc)
    have dl := dropK_le kvs (Sum.inr (bt (c0 u)) : Key)
    generalize upd H3 d (.dK (dropK kvs (Sum.inr (bt (c0 u))))) = H4 at r4 hp4 hd4 hl4 hb4 k4
    generalize dropK kvs (Sum.inr (bt (c0 u)) : Key) = kv4 at r4 hd4 dl
    have hRv4 : ∀ e ∈ R.filter (fun d => decide (d ≠ c0 u)), Cv e := fun e he => hRv e (List.mem_filter.mp he).1
    have h14 : c1 u ∈ R.filter (fun d => decide (d ≠ c0 u)) := List.mem_filter.mpr ⟨h1, decide_eq_true fun z => c01 u z.symm⟩
    have eR : ∀ {σ : L2.St} {te : TE} {B : Hp} {bd' : Addr}, B p = some (.ins T.a_Store dx (flds b d bd' D)) → Ev te σ B (.ref p) → Ev (tFld K te "_rooms") σ B (.ref d) := fun hp h => ev_fld T.cl_Store T.d_Store.rooms h hp fl_rooms
    -- del high
    refine q_ddel (k := Sum.inr (bt (c1 u))) (eR hp4 (by walk_at "ev")) (by walk_at "ev") hd4 (by rw [in_kr r4 hRv4 (cv1 hu)]; exact decide_eq_true h14) ?_
    intro H5 e5
    have hp5 := e5.k hp4
    have hd5 := e5.k hd4
    have w5 : ExW H5 (upd H5 d (.dK (dropK kv4 (Sum.inr (bt (c1 u)))))) := (ExS.updD (p := p) hd5).w hp5 hd5
    have r6 : KR (upd H5 d (.dK (dropK kv4 (Sum.inr (bt (c1 u)))))) (dropK kv4 (Sum.inr (bt (c1 u)))) (R.filter fun d => decide (d ≠ c0 u) && decide (d ≠ c1 u)) ps := by
      rw [← fil2]
      exact kr_mono w5 (kr_mono e5.w (kr_drop r4 hRv4 (cv1 hu)))
    have hp6 : (upd H5 d (.dK (dropK kv4 (Sum.inr (bt (c1 u)))))) p = some (.ins T.a_Store dx (flds b d bd D)) := by rw [upd_ne S.sa.pd]; exact hp5
    have hd6 : (upd H5 d (.dK (dropK kv4 (Sum.inr (bt (c1 u)))))) d = some (.dK (dropK kv4 (Sum.inr (bt (c1 u))))) := upd_same
    have hl6 := (hl4.mono e5).monoW w5
    have hb6 := (hb4.mono e5).monoW w5
    have k6 : ExS p d H (upd H5 d (.dK (dropK kv4 (Sum.inr (bt (c1 u)))))) := k4.trans (e5.s.trans (ExS.updD hd5))
    have dl6 := dropK_le kv4 (Sum.inr (bt (c1 u)) : Key)
    generalize upd H5 d (.dK (dropK kv4 (Sum.inr (bt (c1 u))))) = H6 at r6 hp6 hd6 hl6 hb6 k6
    generalize dropK kv4 (Sum.inr (bt (c1 u)) : Key) = kv6 at r6 hd6 dl6
    -- the joined room put
    refine q_dput (k := Sum.inr (bt u)) (P := fun _ v _ => v = .ref l) (Ev.g (v := .ref l) (by walk_at "ev") fun _ _ _ _ => rfl) (eR hp6 (by walk_at "ev")) (by walk_at "ev") hd6 (by omega) ?_
    rintro v7 B7 H7 b7 rfl c7
    have e7 := b7.trans c7
    have hp7 := e7.k hp6
    have hd7 := e7.k hd6
    have w7 : ExW H7 (upd H7 d (.dK (putK kv6 (Sum.inr (bt u)) (.ref l)))) := (ExS.updD (p := p) hd7).w hp7 hd7
    have hw := e7.w.trans w7
    have hnu : u ∉ R.filter fun d => decide (d ≠ c0 u) && decide (d ≠ c1 u) := fun z => by
      have hnd' := join_nd (c := u) S.cov hnd h0
      unfold joinR at hnd'
      exact (List.nodup_append.mp hnd').2.2 u z u (List.mem_singleton.mpr rfl) rfl
    have r8 : KR (upd H7 d (.dK (putK kv6 (Sum.inr (bt u)) (.ref l)))) (putK kv6 (Sum.inr (bt u)) (.ref l)) (joinR R u) ps := kr_mono hw (kr_snoc r6 (fun e he => hRv e (List.mem_filter.mp he).1) hu hnu hl6)
    have hp8 : (upd H7 d (.dK (putK kv6 (Sum.inr (bt u)) (.ref l)))) p = some (.ins T.a_Store dx (flds b d bd D)) := by rw [upd_ne S.sa.pd]; exact hp7
    have hd8 : (upd H7 d (.dK (putK kv6 (Sum.inr (bt u)) (.ref l)))) d = some (.dK (putK kv6 (Sum.inr (bt u)) (.ref l))) := upd_same
    have hb8 := hb6.monoW hw
    have k8 : ExS p d H (upd H7 d (.dK (putK kv6 (Sum.inr (bt u)) (.ref l)))) := k6.trans (e7.s.trans (ExS.updD hd7))
    generalize upd H7 d (.dK (putK kv6 (Sum.inr (bt u)) (.ref l))) = H8 at r8 hp8 hd8 hb8 k8
    generalize putK kv6 (Sum.inr (bt u) : Key) (.ref l) = kv8 at r8 hd8
    -- the board
    have hcovD := S.covD
    have bcv := board_cv hcovD
    have hbl := board_len R D
    have hp28 : 2 ^ D ≤ 2 ^ 8 := Nat.pow_le_pow_right (by decide) S.d8
    refine s_fld (P := fun A v B => ∃ q, v = .ref q ∧ LR rpC B q (boardC (joinR R u) D)) T.cl_Store T.d_Store.board ((ev_callLR (r' := rpC) (bs := boardC (joinR R u) D) (vs := [.ref bd, .str (bt u)]) (ea_cons (ev_fld T.cl_Store T.d_Store.board (by walk_at "ev") hp8 fl_board) (by walk_at "ea")) fun A e Q' q' E' => ⟨bd, _, bt u, rfl, lrC_str (hb8.mono e), by rw [List.length_map]; omega, by rw [bt_len]; omega, ?_⟩).imp fun A v B _ _ ⟨q, e, _, h⟩ => ⟨q, e, h⟩) (by walk_at "ev") hp8 (by rw [fl_len]; decide) ?_
    · rw [bt_0, bt_1, joinGo_bt hu _ bcv, join_board hcovD hu h0 h1]
      exact fun l B hl e' hL => q' l B hl e' (lrS_C hL)
    rintro v9 B9 H9 b9 ⟨q, rfl, hq⟩ c9
    rw [fp_board]
    have e9 := b9.trans c9
    have hp9 := e9.k hp8
    have hd9 := e9.k hd8
    have w9 : ExW H9 (upd H9 p (.ins T.a_Store dx (flds b d q D))) := (ExS.updP (d := d) hp9).w hp9 hd9
    exact k q kv8 _ (k8.trans (e9.s.trans (ExS.updP hp9))) ⟨⟨dx, upd_same⟩, by rw [upd_ne S.sa.pd.symm]; exact hd9, kr_mono (e9.w.trans w9) r8, (hq.mono c9).monoW w9⟩
end


section
variable {P : Program} {w : World} {K : PySem.W.Frag} {mg : Str → Option Value} {base : Heap} [TabCx]
theorem TakeS.st {C : Addr} {H : Hp} {p d bd : Addr} {kvs : List (Key × V)} {b : Nat} {R : List Code} {D : Nat} {ps : List (Int × Int)} {n : Int} (h : TakeS b R D ps n) (s : SA C H p d bd kvs b R D ps) : St C H p d bd kvs b R D ps := ⟨s, h.cov, h.dep, h.d8, h.nm⟩
def spJoinFrom (C : Addr) : Sp := fun vs H Q _ => ∃ (p d bd : Addr) (kvs : List (Key × V)) (b : Nat) (R : List Code) (D : Nat) (ps : List (Int × Int)) (n : Int), vs = [.ref p, .str (bt (roomC R n))] ∧ SA C H p d bd kvs b R D ps ∧ TakeS b R D ps n ∧ TabsOk H ∧
  ∀ (bd' : Addr) (kvs' : List (Key × V)) (R' : List Code) (B : Hp), ExS p d H B → SA C B p d bd' kvs' b R' D ps → TakeS b R' D ps n → (∀ c ∈ R', 0 < c.1 → b < cnt ps (up c)) → Q .non B
theorem bt_ne_nil {c : Code} : decide (V.str (bt c) = V.str "") = decide (c.1 = 0) := by
  rw [decide_str]
  refine decide_eq_decide.mpr ⟨fun z => ?_, fun z => ?_⟩
  · have := congrArg Str.length z
    rw [bt_len] at this
    exact this
  · obtain ⟨l, k⟩ := c
    obtain rfl : l = 0 := z
    exact bt_nil k
theorem canJ_iff {b : Nat} {R : List Code} {ps : List (Int × Int)} {u : Code} : canJ b R ps u = true ↔ c0 u ∈ R ∧ c1 u ∈ R ∧ cnt ps (c0 u) + cnt ps (c1 u) ≤ b := by
  unfold canJ
  rw [Bool.and_eq_true_iff, Bool.and_eq_true_iff, decide_eq_true_iff, decide_eq_true_iff, decide_eq_true_iff]
theorem ok_m__join_from (T : Top K mg) (TB : Tabs base T) : FnOk P w K mg base CX0 5 T.a_m__join_from T.fd_m__join_from ["self", "bits"] (spJoinFrom T.a_Store) := by
  refine T.F_m__join_from.ok sc_m__join_from (fun vs H Q E h => ?_) (fun cdv A outer s H vs Q E hr h => ?_)
  · obtain ⟨p, d, bd, kvs, b, R, D, ps, n, rfl, _⟩ := h
    rfl
  · obtain ⟨p, d, bd, kvs, b, R, D, ps, n, rfl, S, hP, hT, k⟩ := h
    refine ⟨_, (pss_one (ps_while PassesOwn.never (PW.pt (pw_and (pt_cmpR op_ne (pv 1) pe_str (nomark _)) (pw_and1 (pt_val (pe_meth (pv 0) T.cl_Store T.M_m__can_join (ok_m__can_join T) (hr.mono (by decide)) T.b_m__can_join .nil pass0 (pa_cons (pe_slice sl_str (pv 1) po_none (po_some (pe_un un_neg pe_int))) pa_nil)))))) (pss_cons (ps_set (i := 1) sc_m__join_from.nd rfl (Or.inl rfl) (pe_slice sl_str (pv 1) po_none (po_some (pe_un un_neg pe_int))))
      (pss_one (ps_expr (pe_meth (pv 0) T.cl_Store T.M_m__join (ok_m__join T TB) (hr.mono (by decide)) T.b_m__join .nil pass0 (pa_cons (pv 1) pa_nil))))))), ?_⟩
    refine s_while (fun m σ' B => ExS p d H B ∧ ∃ bd kvs R, SA T.a_Store B p d bd kvs b R D ps ∧ TakeS b R D ps n ∧ m = (roomC R n).1 ∧ σ' = [some (.ref p), some (.str (bt (roomC R n)))]) ⟨.refl H, bd, kvs, R, S, hP, rfl, rfl⟩ ?_
    rintro m σ' B ⟨x1, bd, kvs, R, S, hP, rfl, rfl⟩
    have ST := hP.st S
    have hcm := room_mem hP.cov n
    have hcv := hP.cov.val _ hcm.1
    have ecut : ∀ {B' : Hp}, 0 < (roomC R n).1 → Ev (tSl rSlS (tVar 1) tNoPart (tPart (tUn (rU fun i => V.int (-i)) (tC (V.int 1))))) [some (.ref p), some (.str (bt (roomC R n)))] B' (.str (bt (up (roomC R n)))) := fun h0 =>
      ev_is (ev_slS (s := bt (roomC R n)) (by walk_at "ev") (by walk_at "eo") (show EvO _ _ _ (some (-1)) from eo_some (ev_neg ev_c)) (by rw [bt_len]; omega)) (congrArg V.str (bt_up _ h0))
    refine ⟨!decide ((roomC R n).1 = 0) && canJ b R ps (up (roomC R n)), et_and (et_is (et_test (ev_op (by walk_at "ev") ev_c (rv_ne rfl))) (by rw [bt_ne_nil])) fun hb => et_test (S.e_meth (by walk_at "ev") (ea_cons (ecut (by simp at hb; omega)) ea_nil) fun A e Q' q' E' => ⟨p, d, bd, kvs, b, R, D, ps, up (roomC R n), rfl, ST.mono e, cvu hcv.1 (by simp at hb; omega), by show (roomC R n).1 - 1 ≤ 8; omega, q'⟩), fun hb B2 e2 => ?_, fun hb B2 e2 => ?_⟩
    · obtain ⟨h1, h2⟩ := Bool.and_eq_true_iff.mp hb
      have h0 : 0 < (roomC R n).1 := by simp at h1; omega
      obtain ⟨j0, j1, j2⟩ := canJ_iff.mp h2
      obtain ⟨hP', hrm⟩ := hP.join h0 j0 j1 j2
      refine q_asg (v := .str (bt (up (roomC R n)))) (ecut h0) ?_
      intro B3 e3
      have S3 := (S.mono e2).mono e3
      show tDrop _ _ [some (.ref p), some (.str (bt (up (roomC R n))))] B3
      refine s_dropC (S3.g_meth (by walk_at "ev") (by walk_at "ea") fun B4 e4 => ⟨p, d, bd, kvs, b, R, D, ps, up (roomC R n), rfl, hP.st (S3.mono e4), hP.nd, cvu hcv.1 h0, j0, j1, ((x1.trans e2.s).trans (e3.trans e4).s).tabs hT, fun bd' kvs' B5 x5 S5 => ?_⟩)
      refine ⟨(roomC R n).1 - 1, by omega, (x1.trans e2.s).trans ((e3.trans e4).s.trans x5), bd', kvs', _, S5, hP', by rw [hrm]; rfl, by rw [hrm]⟩
    · refine k bd kvs R B2 (x1.trans e2.s) (S.mono e2) hP (hP.done fun z => ?_)
      have h3 : canJ b R ps (up (roomC R n)) = true := canJ_iff.mpr z.2
      rw [h3, Bool.and_true] at hb
      simp at hb
      omega
def spHalveB (C : Addr) : Sp := fun vs H Q _ => ∃ (p d bd : Addr) (kvs : List (Key × V)) (b : Nat) (R : List Code) (D : Nat) (ps : List (Int × Int)), vs = [.ref p] ∧ St C H p d bd kvs b R D ps ∧
  ∀ (bd' : Addr) (D' : Nat) (B : Hp), ExS p d H B → SA C B p d bd' kvs b R D' ps → (∀ c ∈ R, c.1 ≤ D') → (∃ c ∈ R, c.1 = D') → Q .non B
theorem ok_m__halve_board (T : Top K mg) : FnOk P w K mg base CX0 2 T.a_m__halve_board T.fd_m__halve_board ["self"] (spHalveB T.a_Store) := by
  refine T.F_m__halve_board.ok sc_m__halve_board (fun vs H Q E h => ?_) (fun cdv A outer s H vs Q E hr h => ?_)
  · obtain ⟨p, d, bd, kvs, b, R, D, ps, rfl, _⟩ := h
    rfl
  · obtain ⟨p, d, bd, kvs, b, R, D, ps, rfl, S, k⟩ := h
    refine ⟨_, (pss_one (ps_while PassesOwn.never (pt_val (pe_call (ok_can_halve T) (hr.mono (by decide)) rfl T.g_can_halve T.F_can_halve.kp T.b_can_halve .nil pass0 (pa_cons (pe_fld (pv 0) rfl) pa_nil))) (pss_cons (ps_fld (pv 0) (pe_call (ok_halved T) (hr.mono (by decide)) rfl T.g_halved T.F_halved.kp T.b_halved .nil pass0 (pa_cons (pe_fld (pv 0) rfl) pa_nil)) rfl)
      (pss_one (ps_fldaug (pv 0) pe_int in_sub))))), ?_⟩
    refine s_while (fun m σ' B => ExS p d H B ∧ ∃ bd D, St T.a_Store B p d bd kvs b R D ps ∧ m = D ∧ σ' = [some (.ref p)]) ⟨.refl H, bd, D, S, rfl, rfl⟩ ?_
    rintro m σ' B ⟨x1, bd, D, S, rfl, rfl⟩
    have hcovD := S.covD
    have hch := canHalve_board hcovD
    have hbl := board_len R m
    have hp28 : 2 ^ m ≤ 2 ^ 8 := Nat.pow_le_pow_right (by decide) S.d8
    refine ⟨decide (0 < m ∧ ∀ c ∈ R, c.1 < m), et_is (et_test (ev_call (vs := [.ref bd]) (ea_cons (S.sa.e_board (by walk_at "ev")) ea_nil) (spv_halve (lrC_str S.sa.br) (okC _)))) hch, fun hb B2 e2 => ?_, fun hb B2 e2 => ?_⟩
    · obtain ⟨h0, hlt⟩ := of_decide_eq_true hb
      have S2 := S.mono e2
      obtain ⟨dx, hp2⟩ := S2.sa.ob
      refine q_fld (P := fun A v B => ∃ q, v = .ref q ∧ LR rpC B q (boardC R (m - 1))) T.cl_Store T.d_Store.board ((ev_callLR (vs := [.ref bd]) (ea_cons (S2.sa.e_board (by walk_at "ev")) ea_nil) (spl_halved (lrC_str S2.sa.br))).imp fun A v B _ _ ⟨q, e, _, h⟩ => ⟨q, e, lrS_C (by rw [← evens_board hcovD h0 hlt]; exact h)⟩) (by walk_at "ev") hp2 (by rw [fl_len]; decide) ?_
      rintro v B3 B4 b3 ⟨q, rfl, hq⟩ b4
      rw [fp_board]
      have x3 := b3.trans b4
      have S4 := S2.mono x3
      have hp4 := x3.k hp2
      have w4 : ExW B4 (upd B4 p (.ins T.a_Store dx (flds b d q m))) := (ExS.updP (d := d) hp4).w hp4 S4.sa.dc
      have hp5 : (upd B4 p (.ins T.a_Store dx (flds b d q m))) p = some (.ins T.a_Store dx (flds b d q m)) := upd_same
      have hd5 : (upd B4 p (.ins T.a_Store dx (flds b d q m))) d = some (.dK kvs) := by rw [upd_ne S.sa.pd.symm]; exact S4.sa.dc
      have hr5 := kr_mono w4 S4.sa.rs
      have hb5 := (hq.mono b4).monoW w4
      have k5 : ExS p d H (upd B4 p (.ins T.a_Store dx (flds b d q m))) := x1.trans ((e2.trans x3).s.trans (ExS.updP hp4))
      generalize upd B4 p (.ins T.a_Store dx (flds b d q m)) = H5 at hp5 hd5 hr5 hb5 k5
      refine s_fldaug (x := .int (m : Int)) (y := .int 1) (z := .int ((m - 1 : Nat) : Int)) T.cl_Store T.d_Store.depth (by walk_at "ev") hp5 fl_depth (by walk_at "ev") (fun A _ Q q => ⟨_, _, rfl, rfl, ?_⟩) (by rw [fl_len]; decide) ?_
      · rw [show ((m : Int) - 1) = ((m - 1 : Nat) : Int) by omega]
        exact q A (.refl A)
      intro B6 e6
      rw [fp_depth]
      have hp6 := e6.k hp5
      have hd6 := e6.k hd5
      have w6 : ExW B6 (upd B6 p (.ins T.a_Store dx (flds b d q (m - 1)))) := (ExS.updP (d := d) hp6).w hp6 hd6
      have d8 := S.d8
      exact ⟨m - 1, by omega, k5.trans (e6.s.trans (ExS.updP hp6)), q, m - 1, ⟨⟨⟨dx, upd_same⟩, by rw [upd_ne S.sa.pd.symm]; exact hd6, kr_mono w6 (kr_mono e6.w hr5), (hb5.mono e6).monoW w6⟩, S.cov, fun c hc => by have := hlt c hc; omega, by omega, S.nm⟩, rfl, rfl⟩
    · refine k bd m B2 (x1.trans e2.s) (S.sa.mono e2) S.dep ?_
      have hb := of_decide_eq_false hb
      by_cases h0 : 0 < m
      · have : ∃ c ∈ R, ¬ c.1 < m := by
          by_cases hall : ∀ c ∈ R, c.1 < m
          · exact absurd ⟨h0, hall⟩ hb
          · exact Classical.not_forall.mp hall |>.elim fun c hc => ⟨c, Classical.not_imp.mp hc⟩
        obtain ⟨c, hc, hn⟩ := this
        exact ⟨c, hc, by have := S.dep c hc; omega⟩
      · obtain ⟨c, hc, _⟩ := S.cov.ex 0 (by decide)
        exact ⟨c, hc, by have := S.dep c hc; omega⟩
/-- take: told, or refused with all as it was -/
def spTake (C NT : Addr) : Sp := fun vs H Q E => ∃ (p d bd : Addr) (kvs : List (Key × V)) (b : Nat) (R : List Code) (D : Nat) (ps : List (Int × Int)) (n : Int), vs = [.ref p, .int n] ∧ SA C H p d bd kvs b R D ps ∧ Good b R D ps ∧ (0 ≤ n ∧ n < 256) ∧ TabsOk H ∧
  ((valT ps n = none ∧ ∀ B, Ex H B → E (.ref NT) none B) ∨ ∃ v, valT ps n = some v ∧ ∀ (bd' : Addr) (kvs' : List (Key × V)) (R' : List Code) (D' : Nat) (B : Hp), ExS p d H B → SA C B p d bd' kvs' b R' D' (delT ps n) → Good b R' D' (delT ps n) → Q (.int v) B)
theorem ok_m_take (T : Top K mg) (TB : Tabs base T) : FnOk P w K mg base (L2N.CX P w) 6 T.a_m_take T.fd_m_take ["self", "name"] (spTake T.a_Store T.a_NoThing) := by
  refine okN T.F_m_take sc_m_take (fun vs H Q E h => ?_) (fun cdv A outer s H vs Q E hr h => ?_)
  · obtain ⟨p, d, bd, kvs, b, R, D, ps, n, rfl, _⟩ := h
    rfl
  · obtain ⟨p, d, bd, kvs, b, R, D, ps, n, rfl, S, G, hn, hT, kk⟩ := h
    refine ⟨_, (pss_cons (ps_set (i := 2) sc_m_take.nd rfl (Or.inl rfl) (pe_meth (pv 0) T.cl_Store T.M_m__bits_of (ok_m__bits_of T) (hr.mono (by decide)) T.b_m__bits_of .nil pass0 (pa_cons (pv 1) pa_nil)))
      (pss_cons (ps_set (i := 3) sc_m_take.nd rfl (Or.inl rfl) (by exact (pe_dget (hu_of hr) (pe_fld (pv 0) rfl) (pv 2) (fun _ _ => rfl))))
      (pss_cons (ps_set (i := 4) sc_m_take.nd rfl (Or.inl rfl) (pe_call (ok_value_in T) (hr.mono (by decide)) rfl T.g_value_in T.F_value_in.kp T.b_value_in .nil pass0 (pa_cons (pv 3) (pa_cons (pv 1) pa_nil))))
      (pss_cons (ps_if (pt_cmpR op_isN (pv 4) pe_non (nomark _)) (pss_one (L2N.ps_raise rfl (L2N.takes_of rfl rfl rfl rfl) (L2N.pmk_own PySem.F.excBase_ValueError T.x_NoThing T.g_NoThing T.kc_NoThing (raises_own T.bc_NoThing T.tc_NoThing) (by exact rfl)))) pss_nil)
      (pss_cons (ps_dput (hu_of hr) (pe_fld (pv 0) rfl) (pv 2) (pe_call (ok_without_thing T) (hr.mono (by decide)) rfl T.g_without_thing T.F_without_thing.kp T.b_without_thing .nil pass0 (pa_cons (pv 3) (pa_cons (pv 1) pa_nil))) rfl)
      (pss_cons (ps_expr (pe_meth (pv 0) T.cl_Store T.M_m__join_from (ok_m__join_from T TB) (hr.mono (by decide)) T.b_m__join_from .nil pass0 (pa_cons (pv 2) pa_nil)))
      (pss_cons (ps_expr (pe_meth0 (pv 0) T.cl_Store T.M_m__halve_board (ok_m__halve_board T) (hr.mono (by decide)) T.b_m__halve_board .nil pass0))
      (pss_one (ps_ret (pv 4)))))))))), ?_⟩
    have ST := G.st S
    obtain ⟨hcm, hin⟩ := room_mem G.cov n
    have hcv := G.cov.val _ hcm
    refine q_asg (v := .str (bt (roomC R n))) (S.e_meth (by walk_at "ev") (by walk_at "ea") (spv_ask (z := zBits) ST hn)) ?_
    intro H1 e1
    have S1 := S.mono e1
    show tSeq _ _ _ [some (.ref p), some (.int n), some (.str (bt (roomC R n))), none, none] H1
    obtain ⟨l, hl, h3⟩ := (ST.mono e1).room n
    refine q_asg (v := .ref l) (h3 (by walk_at "ev") (by walk_at "ev")) ?_
    intro H2 e2
    have S2 := S1.mono e2
    have hl2 := hl.mono e2
    show tSeq _ _ _ [some (.ref p), some (.int n), some (.str (bt (roomC R n))), some (.ref l), none] H2
    refine q_asg (v := vOpt (valT ps n)) (ev_is (ev_call (vs := [.ref l, .int n]) (by walk_at "ea") (spv_valin hl2)) (congrArg vOpt (valT_thg G.cov ps n))) ?_
    intro H3 e3
    have S3 := S2.mono e3
    have hl3 := hl2.mono e3
    show tSeq _ _ _ [some (.ref p), some (.int n), some (.str (bt (roomC R n))), some (.ref l), some (vOpt (valT ps n))] H3
    refine q_when (b := decide (vOpt (valT ps n) = .non)) (et_test (ev_op (by walk_at "ev") ev_c rv_isN)) ?_ ?_
    · intro hb B e
      rcases kk with ⟨_, kE⟩ | ⟨v, hv, _⟩
      · exact kE B (((e1.trans e2).trans e3).trans e)
      · rw [hv] at hb
        exact absurd (of_decide_eq_true hb) (by intro z; cases z)
    intro hb B e
    rcases kk with ⟨hv, _⟩ | ⟨v, hv, k⟩
    · rw [hv] at hb
      exact absurd hb (by decide)
    rw [hv]
    have S4 := S3.mono e
    have hl4 := hl3.mono e
    have hkl := kr_len S4.rs
    have hR := cov_len G.cov G.nd
    show tSeq _ _ _ [some (.ref p), some (.int n), some (.str (bt (roomC R n))), some (.ref l), some (.int v)] B
    refine q_dput (k := Sum.inr (bt (roomC R n))) (P := fun A v' B => ∃ q, v' = .ref q ∧ LR rpT B q (delT (thg ps (roomC R n)) n)) ((ev_callLR (r' := rpT) (bs := delT (thg ps (roomC R n)) n) (by walk_at "ea") (spl_without hl4 (by have := (G.st S).len (roomC R n); omega))).imp fun A v' B _ _ ⟨q, e, _, h⟩ => ⟨q, e, h⟩) (S4.e_rooms (by walk_at "ev")) (by walk_at "ev") S4.dc (by omega) ?_
    rintro v' B1 B2 b1 ⟨q, rfl, hq⟩ b2
    have x3 := b1.trans b2
    have S5 := S4.mono x3
    obtain ⟨dx, h5⟩ := S5.ob
    have w5 : ExW B2 (upd B2 d (.dK (putK kvs (Sum.inr (bt (roomC R n))) (.ref q)))) := (ExS.updD (p := p) S5.dc).w h5 S5.dc
    have S6 : SA T.a_Store (upd B2 d (.dK (putK kvs (Sum.inr (bt (roomC R n))) (.ref q)))) p d bd (putK kvs (Sum.inr (bt (roomC R n))) (.ref q)) b R D (delT ps n) := by
      refine ⟨⟨dx, by rw [upd_ne S.pd]; exact h5⟩, upd_same, kr_put (ps := ps) (kr_mono w5 S5.rs) (fun e he => (G.cov.val e he).1) hcv.1 hcm ?_ ?_, S5.br.monoW w5⟩
      · rw [thg_del]
        exact (hq.mono b2).monoW w5
      · intro e' he hne
        rw [thg_del]
        refine List.filter_eq_self.mpr fun p hp => decide_eq_true fun z => hne ?_
        have := (List.mem_filter.mp hp).2
        unfold inn at this
        rw [z] at this
        exact (room_eq G.cov he this).symm
    have k6 : ExS p d H (upd B2 d (.dK (putK kvs (Sum.inr (bt (roomC R n))) (.ref q)))) := (((((e1.trans e2).trans e3).trans e).trans x3).s).trans (ExS.updD S5.dc)
    refine q_dropC (S6.g_meth (by walk_at "ev") (by walk_at "ea") fun B6 e6 => ⟨p, d, bd, _, b, R, D, delT ps n, n, rfl, S6.mono e6, G.take n, (k6.trans e6.s).tabs hT, fun bd' kvs' R' B7 x7 S7 hP' hgt => ?_⟩)
    refine q_dropC (S7.g_meth (by walk_at "ev") (by walk_at "ea") fun B8 e8 => ⟨p, d, bd', kvs', b, R', D, delT ps n, rfl, hP'.st (S7.mono e8), fun bd2 D2 B9 x9 S9 hd9 ht9 => ?_⟩)
    refine s_retk (v := .int v) (by walk_at "ev") fun B10 e10 => ?_
    exact k bd2 kvs' R' D2 B10 ((k6.trans e6.s).trans ((x7.trans e8.s).trans (x9.trans e10.s))) (S9.mono e10) ⟨hP'.cov, hP'.nd, hd9, ht9, hP'.nm, hP'.le, hgt⟩
end


section
variable {P : Program} {w : World} {K : PySem.W.Frag} {mg : Str → Option Value} {base : Heap} [TabCx]
def spSize (C : Addr) : Sp := fun vs H Q _ => ∃ (p d bd : Addr) (kvs : List (Key × V)) (b : Nat) (R : List Code) (D : Nat) (ps : List (Int × Int)), vs = [.ref p] ∧ St C H p d bd kvs b R D ps ∧ R.Nodup ∧ RetV (.int (ps.length : Int)) H Q
theorem kr_vals {H : Hp} {kvs : List (Key × V)} {R : List Code} {ps : List (Int × Int)} (h : KR H kvs R ps) : Paired (fun (kv : Key × V) c => ∃ l, kv.2 = V.ref l ∧ LR rpT H l (thg ps c)) kvs R := by
  induction h with
  | nil => exact .nil
  | cons a t ih =>
    obtain ⟨l, rfl, h⟩ := a
    exact .cons ⟨l, rfl, h⟩ ih
theorem ok_m_size (T : Top K mg) : FnOk P w K mg base CX0 1 T.a_m_size T.fd_m_size ["self"] (spSize T.a_Store) := by
  refine T.F_m_size.ok sc_m_size (fun vs H Q E h => ?_) (fun cdv A outer s H vs Q E hr h => ?_)
  · obtain ⟨p, d, bd, kvs, b, R, D, ps, rfl, _⟩ := h
    rfl
  · obtain ⟨p, d, bd, kvs, b, R, D, ps, rfl, S, nd, k⟩ := h
    refine ⟨_, (pss_one (ps_ret (pe_callB (r := rSum K) (cr_sum rfl) (by rfl) T.z_sum (by decide +kernel) (pa_cons (pe_lock (pe_lc (own := [("things", 1)]) (g := gName 1) (tt := tYes) rfl sc_m_size.nd (pi_values (pe_fld (pv 0) rfl)) (blkOk_by (N := n_m_size) (sc := defScope s_m_size) (by decide +kernel)) (fun _ _ _ _ _ => pg_name (i := 1) sc_m_size.nd rfl (Or.inl rfl)) (fun _ _ _ _ _ => by exact pts_nil) (fun _ _ _ _ _ => by exact (pe_callB (r := rLen K) call_len_seq (by rfl) T.z_len (by decide +kernel) (pa_cons (pv 1) pa_nil))))) pa_nil)))), ?_⟩
    have hR := cov_len S.cov nd
    refine s_retk (v := .int (ps.length : Int)) (ev_is (ev_sum (K := K) (ns := R.map fun c => ((cnt ps c : Nat) : Int)) (el_lock S.sa.dc fun od A e => ?_)) (congrArg V.int (sum_cnt S.cov nd S.nm))) k
    have SA1 := S.sa.mono e
    obtain ⟨dx, hp⟩ := SA1.ob
    have hp1 : (upd A d (.frz od (.dK kvs))) p = some (.ins T.a_Store dx (flds b d bd D)) := by rw [upd_ne S.sa.pd]; exact hp
    have w1 : ExW A (upd A d (.frz od (.dK kvs))) := (ExS.updD (p := p) SA1.dc).w hp SA1.dc
    refine lcV (r' := rpInt) (Rl := fun H v c => ∃ l, v = V.ref l ∧ LR rpT H l (thg ps c)) (as := R) (fun c => ((cnt ps c : Nat) : Int)) (fun e ⟨l, h1, h2⟩ => ⟨l, h1, h2.mono e⟩) (kr_vals (kr_mono w1 SA1.rs)) (ev_fld T.cl_Store T.d_Store.rooms (by walk_at "ev") hp1 fl_rooms) upd_same (by omega) (fun _ => rfl) ?_
    rintro x c H1 F e1 _ hc ⟨l, rfl, ⟨xs, hx, hpx⟩⟩
    refine ee_var (v := .int ((cnt ps c : Nat) : Int)) (ev_is (ev_cb (by walk_at "ea") (rc_len (sq_of hx))) (congrArg V.int ?_)) rfl
    rw [hpx.length]
    rfl
theorem spv_size {C : Addr} {H : Hp} {p d bd : Addr} {kvs : List (Key × V)} {b : Nat} {R : List Code} {D : Nat} {ps : List (Int × Int)} (h : St C H p d bd kvs b R D ps) (nd : R.Nodup) : SpV (spSize C) [.ref p] H (.int (ps.length : Int)) := fun A e Q q E => ⟨p, d, bd, kvs, b, R, D, ps, rfl, h.mono e, nd, q⟩
end

section
variable {P : Program} {w : World} {K : PySem.W.Frag} {mg : Str → Option Value} {base : Heap} [TabCx]
/-- the rooms as told: in order, each with its things -/
def roomsT (b : Nat) (ps : List (Int × Int)) : List (Code × List (Int × Int)) := (canon b ps).map fun c => (c, thg ps c)
def spRooms (C : Addr) : Sp := fun vs H Q _ => ∃ (p d bd : Addr) (kvs : List (Key × V)) (b : Nat) (R : List Code) (D : Nat) (ps : List (Int × Int)), vs = [.ref p] ∧ SA C H p d bd kvs b R D ps ∧ Good b R D ps ∧ 1 ≤ b ∧ RetLR rpRm (roomsT b ps) H Q
theorem prT_any {H : Hp} {F G : Addr → Prop} : ∀ {xs : List V} {as : List (Int × Int)}, PRF rpT F H xs as → PRF rpT G H xs as
  | _, _, .nil => .nil
  | _, _, .cons a t => .cons a (prT_any t)
theorem el_sortD {σ : L2.St} {H : Hp} {te : TE} {d : Addr} {kvs : List (Key × V)} {b : Nat} {R : List Code} {D : Nat} {ps : List (Int × Int)} (h : Ev te σ H (.ref d)) (hd : H d = some (.dK kvs)) (hk : KR H kvs R ps) (G : Good b R D ps) (hb : 1 ≤ b) : EvLR rpC (tCB rSortedDS (tCons te tNil)) σ H (canon b ps) := fun A a Q q =>
  h A a _ fun B e => ⟨d, kvs, R.map bt, rfl, .inl ((a.trans e).k hd), kr_keys hk, fun ys p hp hs hn => by
    have e1 := G.sorted hb hp hs
    rw [e1]
    exact q _ _ (e.trans (.new hn)) ⟨p, rfl, fresh_back e hn, _, upd_same, prS_C pr_strs⟩⟩
theorem ok_m_rooms (T : Top K mg) : FnOk P w K mg base CX0 1 T.a_m_rooms T.fd_m_rooms ["self"] (spRooms T.a_Store) := by
  refine T.F_m_rooms.ok sc_m_rooms (fun vs H Q E h => ?_) (fun cdv A outer s H vs Q E hr h => ?_)
  · obtain ⟨p, d, bd, kvs, b, R, D, ps, rfl, _⟩ := h
    rfl
  · obtain ⟨p, d, bd, kvs, b, R, D, ps, rfl, S, G, hb, k⟩ := h
    refine ⟨_, (pss_one (ps_ret (pe_lc (own := [("bits", 1)]) (te := tTup (tCons (tVar 1) (tCons (tCB (rList K) (tCons (tDGet (tFld K (tVar 0) "_rooms") (tVar 1)) tNil)) tNil))) (g := gName 1) (tt := tYes) rfl sc_m_rooms.nd (pi_list (pe_callB (call_sortedDS rfl) (by rfl) T.z_sorted (by decide +kernel) (pa_cons (pe_fld (pv 0) rfl) pa_nil))) (blkOk_by (N := n_m_rooms) (sc := defScope s_m_rooms) (by decide +kernel)) (fun _ _ _ _ _ => pg_name (i := 1) sc_m_rooms.nd rfl (Or.inl rfl)) (fun _ _ _ _ _ => by exact pts_nil) (fun _ _ _ _ _ => by exact (pe_tup (pa_cons (pv 1) (pa_cons (pe_callTy (r := rList K) call_list_of (by rfl) T.z_list (by decide +kernel) (pa_cons (by exact (pe_dget (hu_of hr) (pe_fld (pv 0) rfl) (pv 1) (fun _ _ => rfl))) pa_nil)) pa_nil))))))), ?_⟩
    have hcl : (canon b ps).length ≤ 256 := by
      rw [← (G.perm hb).length_eq]
      exact cov_len G.cov G.nd
    refine s_retG (P := fun A v B => ∃ q, v = .ref q ∧ A q = none ∧ LR rpRm B q (roomsT b ps)) (lcG (K := K) (P := fun _ v C => ∃ q, v = .ref q ∧ LR rpC C q (canon b ps)) ((el_sortD (S.e_rooms (by walk_at "ev")) S.dc S.rs G hb).imp fun A v B _ _ ⟨q, e, _, l⟩ => ⟨q, e, l⟩) ?_) ?_
    · rintro A v B a e ⟨q, rfl, ⟨xs, hx, hpx⟩⟩
      have S1 := (S.mono a).mono e
      refine (lcLR (K := K) (r := rpC) (r' := rpRm) (fun _ => true) (fun c => (c, thg ps c)) ev_c (sq_of hx) hpx (by omega) (fun _ => rfl) ?_ ?_).imp ?_
      · intro v c H1 F e1 _ _
        exact fun H5 e5 Q' q' => q' H5 (.refl H5)
      · rintro v c H1 F e1 hF hc rfl _
        have hcR := (G.mem hb c).mpr hc
        have S2 := S1.mono e1
        obtain ⟨l, _, hl, hg⟩ := S2.e_room G.cov hcR
        exact ee_P (ee_var (v := .str (bt c)) (by walk_at "ev") rfl) (ee_L (ev_listLR (hg (by walk_at "ev") (by walk_at "ev")) hl) hF fun B ys _ h => prT_any h)
      · rintro A2 v C a2 _ ⟨q2, rfl, hq, hl⟩
        rw [List.filter_eq_self.mpr (fun _ _ => rfl)] at hl
        exact ⟨q2, rfl, fresh_back (e.trans a2) hq, hl⟩
    · rintro v B e ⟨q, rfl, hq, hl⟩
      exact k q B hq e hl
end

section
variable {P : Program} {w : World} {K : PySem.W.Frag} {mg : Str → Option Value} {base : Heap} [TabCx]
def spThings (C : Addr) : Sp := fun vs H Q _ => ∃ (p d bd : Addr) (kvs : List (Key × V)) (b : Nat) (R : List Code) (D : Nat) (ps : List (Int × Int)), vs = [.ref p] ∧ St C H p d bd kvs b R D ps ∧ R.Nodup ∧ TabsOk H ∧ RetLR rpT ps H Q
theorem kr_valsL {H : Hp} {kvs : List (Key × V)} {R : List Code} {ps : List (Int × Int)} (h : KR H kvs R ps) : Paired (fun (kv : Key × V) a => ∃ l, kv.2 = V.ref l ∧ LR rpT H l a) kvs (R.map (thg ps)) := by
  induction h with
  | nil => exact .nil
  | cons a t ih =>
    obtain ⟨l, rfl, h⟩ := a
    exact .cons ⟨l, rfl, h⟩ ih
theorem ok_m_things (T : Top K mg) (TB : Tabs base T) : FnOk P w K mg base CX0 3 T.a_m_things T.fd_m_things ["self"] (spThings T.a_Store) := by
  obtain ⟨oc, od, kV, doc, pm, an, ct, osl, hfd, lk, hcd⟩ := T.L_m_things
  have hfd' : T.fd_m_things = _ := hfd
  rw [hfd']
  rw [hfd] at lk
  refine fn_of lk hcd sc_m_things (fun vs H Q E h => ?_) fun A outer s H vs Q E hr h => ?_
  · obtain ⟨p, d, bd, kvs, b, R, D, ps, rfl, _⟩ := h
    rfl
  · obtain ⟨p, d, bd, kvs, b, R, D, ps, rfl, S, nd, hT, k⟩ := h
    refine ⟨_, PSs.nox ((pss_cons (ps_lock (ps_setLc2 (i := 1) (own := [("things", 2), ("thing", 3)]) (vs1 := [3]) (tt := tYes) (tt1 := tYes) (wi1 := iList K (tVar 2)) rfl sc_m_things.nd rfl rfl (sw_true rfl rfl rfl (by decide +kernel)) (pi_values (pe_fld (pv 0) rfl)) (blkOk_by (N := n_m_things) (sc := defScope s_m_things) (by decide +kernel)) (by decide) (fun _ _ _ _ _ => by exact (pg_name (i := 2) sc_m_things.nd rfl (Or.inl rfl))) (fun _ _ _ _ _ => by exact pts_nil) (fun _ _ _ _ _ => by exact (pi_list (pv 2))) (fun _ _ _ _ _ => by exact (pg_name (i := 3) sc_m_things.nd rfl (Or.inl rfl))) (fun _ _ _ _ _ => by exact pts_nil) (fun _ _ _ _ _ => by exact (pv 3))))
      (pss_one (ps_ret (pe_sortLam (X := _) (k := 2) (lq := lq_things) TB.things.1 TB.things.2 rfl rfl hr (by decide) rfl T.z_sorted (pv 1) rfl rfl rfl rfl (by decide +kernel) rfl (by decide +kernel) (fun _ _ _ _ => rfl)))))), ?_⟩
    have hfl := flat_perm S.cov nd S.nm
    have hfl : ((R.map (thg ps)).flatten).Perm ps := by rw [← List.flatMap_def]; exact hfl
    refine ⟨d, .dK kvs, S.sa.dc, trivial, fun od => ?_⟩
    obtain ⟨dx, hp⟩ := S.sa.ob
    have w0 : ExW H (upd H d (.frz od (.dK kvs))) := (ExS.updD (p := p) S.sa.dc).w hp S.sa.dc
    have hp1 : (upd H d (.frz od (.dK kvs))) p = some (.ins T.a_Store dx (flds b d bd D)) := by rw [upd_ne S.sa.pd]; exact hp
    refine s_asgG (lcVV (K := K) (r := rpT) (as := R.map (thg ps)) (kr_valsL (kr_mono w0 S.sa.rs)) (ev_fld T.cl_Store T.d_Store.rooms (by walk_at "ev") hp1 fl_rooms) upd_same ?_ (fun _ => rfl) (fun _ => rfl) (fun _ _ => rfl) (fun _ _ => rfl)) fun v B e ⟨q, ev, hq, L⟩ => ?_
    · rw [← List.length_flatten, hfl.length_eq]
      exact Nat.le_trans S.nm.len (by decide)
    · subst ev
      have hB : B d = some (.frz od (.dK kvs)) := e.k upd_same
      refine ⟨hB, ?_⟩
      have L2 := L.monoW (ExW.unlock hB)
      have eH : Ex H (upd B d (.dK kvs)) := Ex.unlock S.sa.dc e
      obtain ⟨xs, hx, hpx⟩ := L2
      have key : tSortLam K T.P_m_things lq_things (tVar 1) [some (.ref p), some (.ref q), none, none] (upd B d (.dK kvs)) Q := by
        refine (show Ev (tVar 1) [some (.ref p), some (.ref q), none, none] (upd B d (.dK kvs)) (.ref q) by walk_at "ev") _ (.refl _) _ fun C c => ⟨q, xs, _, rfl, sq_of (c.k hx), pr_mono c hpx, c.tabs (eH.tabs hT), fun pp qs C' hperm hs hpn c' L3 => ?_⟩
        rw [mem_perm_sorted S.nm.up hs (hperm.trans hfl)] at L3
        exact k pp C' (fresh_back (eH.trans c) hpn) ((eH.trans c).trans c') L3
      exact key
end


section
variable [TabCx]
variable {α β : Type} {r : Rp α} {r' : Rp β} {K : PySem.W.Frag} {σ : L2.St} {H : Hp} {te tl : TE} {t : TT}
/-- a comprehension over things told, any target -/
theorem lcJ {xs : List V} {as : List α} {a : Addr} {j : TG} {vs : List Nat} (J : (Addr → Prop) → Hp → L2.St → α → Prop) (q : α → Bool) (g : α → β) (h : Ev tl σ H (.ref a)) (hx : SqL K H a xs) (hp : PR r H xs as) (hz : as.length ≤ 40000)
    (hg : ∀ x b H1 F Q, Ex H H1 → b ∈ as → r.R F H1 x b → (∀ σ', wipe σ' vs = wipe σ vs → J F H1 σ' b → Q σ' H1) → j x (wipe σ vs) H1 Q)
    (ht : ∀ σ' b H1 F, Ex H H1 → b ∈ as → J F H1 σ' b → EvT t σ' H1 (q b))
    (he : ∀ σ' b H1 F, Ex H H1 → (∀ y, F y → H1 y ≠ none) → b ∈ as → J F H1 σ' b → q b = true → EvE r' F te σ' H1 (g b)) :
    EvLR r' (tLc (iList K tl) j t te vs) σ H ((as.filter q).map g) := fun H0 e Q qq => h H0 e _ fun H1 e1 => ⟨a, rfl, ⟨xs, ex_l (e.trans e1) hx⟩, fun Dl hD => by
  have hlen := hp.length
  have hp1 : PRF r (F1 Dl) H1 xs as := pr_away (fun x z => .inr (z ▸ hD)) (pr_mono (e.trans e1) hp)
  refine lc_list (xs := xs) (fun i H' => Ex H1 H' ∧ ∃ ys, H' Dl = some (.lst ys) ∧ ys.length ≤ i ∧ PRF r' (F1 Dl) H' ys (((as.take i).filter q).map g)) ⟨Ex.new hD, [], upd_same, Nat.le_refl _, by rw [List.take_zero]; exact .nil⟩ (fun i H' _ p => ex_l ((e.trans e1).trans p.1) hx) (fun i x H' hi p => ?_) fun H' p => ?_
  · obtain ⟨p1, ys, p2, p3, p4⟩ := p
    obtain ⟨b, hb, rb⟩ := pr_get hp1 hi
    have hmem : b ∈ as := List.mem_of_getElem? hb
    have hil : i < xs.length := (List.getElem?_eq_some_iff.mp hi).1
    have eE := (e.trans e1).trans p1
    have rb' := r.mo p1 rb
    refine hg x b H' (F1 Dl) _ eE hmem rb' fun σ' hw' hJ => ⟨hw', ?_⟩
    refine ht σ' b H' (F1 Dl) eE hmem hJ H' (Ex.refl H') _ fun H3 e3 => ?_
    cases hq : q b with
    | true =>
      show te σ' H3 _
      refine he σ' b H' (F1 Dl) eE (fun y z => by rw [show y = Dl from z, p2]; intro w; cases w) hmem hJ hq H3 e3 _ fun y H4 e4 ry => ⟨ys, e4.k (e3.k p2), sz_lt (by omega), Ex.mut ((p1.trans e3).trans e4) hD (e4.k (e3.k p2)), ys ++ [y], upd_same, by rw [List.length_append]; exact Nat.succ_le_succ p3, ?_⟩
      have hD4 : H4 Dl = some (.lst ys) := e4.k (e3.k p2)
      rw [take_snoc hb, List.filter_append, List.map_append, List.filter_cons, if_pos hq]
      exact pr_lst (show F1 Dl Dl from rfl) hD4 (pr_app (pr_mono (e3.trans e4) p4) (.cons ry .nil))
    | false =>
      show Ex H1 H3 ∧ _
      refine ⟨p1.trans e3, ys, e3.k p2, by omega, ?_⟩
      rw [take_snoc hb, List.filter_append, List.filter_cons, if_neg (by rw [hq]; decide), List.filter_nil, List.append_nil]
      exact pr_mono (e3) p4
  · obtain ⟨p1, ys, p2, p3, p4⟩ := p
    refine qq _ H' (e1.trans p1) ⟨Dl, rfl, fresh_back e1 hD, ys, p2, ?_⟩
    rw [hlen, List.take_length] at p4
    exact pr_0 p4⟩
/-- the two parts of a pair to two names -/
theorem g_pair {t : Addr} {u v : V} {i j : Nat} {H1 : Hp} {Q : L2.St → Hp → Prop} (ht : H1 t = some (.tup [u, v])) (k : Q ((σ.set i (some u)).set j (some v)) H1) : gTup K 2 (gCons (gName i) (gCons (gName j) gNil)) (.ref t) σ H1 Q :=
  ⟨t, [u, v], rfl, st_of ht, rfl, u, [v], rfl, v, [], rfl, rfl, k⟩
end
section
open SX
variable [TabCx]
variable {K : PySem.W.Frag} {σ : L2.St} {H : Hp} {te ta to : TE} {ts : List TE}
theorem lit {s : String} {l : List Nat} (h : s.toList.map Char.toNat = l) : Str.ofString s = S l := TL.ext_tl (by rw [TL.tl_ofString, h])
def EvJs (ts : List TE) (acc : List Nat) (σ : L2.St) (H : Hp) (out : List Nat) : Prop := ∀ A, Ex H A → ∀ Q : Str → Hp → Prop, (∀ B, Ex A B → Q (S out) B) → tJs ts (S acc) σ A Q
theorem ej_nil {acc : List Nat} : EvJs [] acc σ H acc := fun A a Q q => q A (.refl A)
theorem ej_to {acc out : List Nat} (h : acc = out) : EvJs [] acc σ H out := h ▸ ej_nil
theorem ej_cons {t : TE} {acc b out : List Nat} (h : Ev t σ H (.str (S b))) (hl : (acc ++ b).length ≤ 100000) (r : EvJs ts (acc ++ b) σ H out) : EvJs (t :: ts) acc σ H out := fun A a Q q =>
  h A a _ fun B e => ⟨S b, rfl, by rw [S_cat, S_len]; exact sz_of hl, by rw [S_cat]; exact r B (a.trans e) Q fun C c => q C (e.trans c)⟩
theorem ev_js {out : List Nat} (h : EvJs ts [] σ H out) : Ev (fun σ H Q => tJs ts Str.empty σ H fun out H1 => Q (.str out) H1) σ H (.str (S out)) := fun A a Q q => h A a _ q
theorem ev_fmtS {y : Str} (h : Ev te σ H (.str y)) (hl : y.length ≤ 100000) : Ev (tFmt te) σ H (.str y) := fun A a Q q => h A a _ fun B b => .inl ⟨y, rfl, sz_of hl, q B b⟩
theorem ev_fmtI {i : Int} (h : Ev te σ H (.int i)) (hl : i.natAbs < 10 ^ 60) : Ev (tFmt te) σ H (.str (S (numZ i))) := fun A a Q q => h A a _ fun B b => .inr ⟨i, rfl, by
  by_cases h0 : i.natAbs = 0
  · rw [h0]; decide
  · exact Nat.lt_trans ((Nat.log2_lt h0).mpr (Nat.lt_of_lt_of_le hl (by decide : 10 ^ 60 ≤ 2 ^ 200))) (by decide), by
  have e : (toString i : String) = toString i := rfl
  have := numZ_S i
  rw [show (Str.ofString (toString i)) = S (numZ i) from this]
  exact q B b⟩
theorem ev_litc {s : String} {l : List Nat} (h : s.toList.map Char.toNat = l) : Ev (tC (.str (Str.ofString s))) σ H (.str (S l)) := fun A a Q q => by
  rw [lit h]
  exact q A (.refl A)
theorem ev_addS {a b : List Nat} {tb : TE} (ha : Ev ta σ H (.str (S a))) (hb : Ev tb σ H (.str (S b))) (hl : a.length + b.length ≤ 100000) : Ev (tOp rAddS ta tb) σ H (.str (S (a ++ b))) := fun A e Q q =>
  ha A e _ fun B e1 => hb B (e.trans e1) _ fun C e2 => ⟨S a, S b, rfl, rfl, by rw [S_len, S_len]; exact sz_of hl, by rw [S_cat]; exact q C (e1.trans e2)⟩
/-- join of a list of texts -/
theorem ev_join {s : List Nat} {ys : List (List Nat)} (ho : Ev to σ H (.str (S s))) (ha : EvG te σ H (fun _ v B => ∃ p, v = .ref p ∧ B p = some (.lst ((ys.map S).map V.str)))) (hz : (ys.map (·.length)).sum + ys.length * s.length ≤ 16777216) :
    Ev (tM1 (fun x xs H Q => ∃ a p, ∃ ys : List Str, x = .str a ∧ xs = [.ref p] ∧ (SqL K H p (ys.map V.str) ∨ SqT K H p (ys.map V.str)) ∧ (ys.map (·.length)).sum + ys.length * a.length ≤ 16777216 ∧ Q (.str (Txt.join a ys)) H) to te) σ H (.str (S (TL.joinL s ys))) := fun A a Q q =>
  ho A a _ fun B b => ⟨⟨_, rfl⟩, ha B (a.trans b) _ fun v C c ⟨p, e, hp⟩ => ⟨S s, p, ys.map S, rfl, by rw [e], .inl (sq_of hp), by rw [lens, List.length_map, S_len]; exact hz, by rw [join_S]; exact q C (b.trans c)⟩⟩
theorem ea_star {p : Addr} {xs ys : List V} {t : TA} (h : Ev te σ H (.ref p)) (hx : SqL K H p xs) (r : EvA t σ H ys) : EvA (StX.tStar K te t) σ H (xs ++ ys) := fun A a Q q =>
  h A a _ fun B b => ⟨p, xs, rfl, .inr (ex_l (a.trans b) hx), r B (a.trans b) _ fun C c => q C (b.trans c)⟩
end

section
open SX
variable {P : Program} {w : World} {K : PySem.W.Frag} {mg : Str → Option Value} {base : Heap} [TabCx]
def spRow : Sp := fun vs H Q _ => ∃ (l : Addr) (c : Code) (qs : List (Int × Int)), vs = [.str (bt c), .ref l] ∧ LR rpT H l qs ∧ Names qs ∧ VB qs ∧ c.1 ≤ 8 ∧ RetV (.str (S (rowL c qs))) H Q
theorem ok_row_of (T : Top K mg) : FnOk P w K mg base CX0 1 T.a_row_of T.fd_row_of ["bits", "things"] spRow := by
  refine T.F_row_of.ok sc_row_of (fun vs H Q E h => ?_) (fun cdv A outer s H vs Q E hr h => ?_)
  · obtain ⟨l, c, qs, rfl, _⟩ := h
    rfl
  · obtain ⟨l, c, qs, rfl, ⟨xs, hx, hpx⟩, hn, hv, hc, k⟩ := h
    refine ⟨_, (pss_cons (ps_setLc (i := 2) (own := [("name", 3), ("value", 4)]) (tt := tYes) (g := gTup K 2 (gCons (gName 3) (gCons (gName 4) gNil))) rfl sc_row_of.nd rfl rfl (sw_true rfl rfl rfl (by decide +kernel)) (pi_list (pv 1)) (blkOk_by (N := n_row_of) (sc := defScope s_row_of) (by decide +kernel)) (fun _ _ _ _ _ => by exact (pg_tup rfl (pgs_cons (pg_name (i := 3) sc_row_of.nd rfl (Or.inl rfl)) (pgs_cons (pg_name (i := 4) sc_row_of.nd rfl (Or.inl rfl)) pgs_nil)))) (fun _ _ _ _ _ => by exact pts_nil) (fun _ _ _ _ _ => by exact (pe_joined (PJ.cons pe_str (PJ.cons (pe_fmt (pv 3)) (PJ.cons pe_str (PJ.cons (pe_fmt (pv 4)) PJ.nil)))))))
      (pss_one (ps_ret (pe_op op_add_str (pe_joined (PJ.cons (pe_fmt (pv 0)) (PJ.cons pe_str PJ.nil))) (pe_join pe_str (pv 2)))))), ?_⟩
    have hlen := hn.len
    refine q_asgLR (r' := rpStr) (bs := (qs.filter fun _ => true).map fun p => S (wordL p)) (lcJ (K := K) (r := rpT) (r' := rpStr) (fun _ _ σ' p => σ' = [some (.str (bt c)), some (.ref l), none, some (.int p.1), some (.int p.2)]) (fun _ => true) _ (by walk_at "ev") (sq_of hx) hpx (by omega) ?_ ?_ ?_) ?_
    · rintro x p H1 F Q' e1 _ ⟨t, rfl, ht⟩ k'
      exact g_pair ht (k' _ rfl rfl)
    · rintro σ' p H1 F e1 _ rfl
      exact fun H5 e5 Q' q' => q' H5 (.refl H5)
    · rintro σ' p H1 F e1 _ hm rfl _
      have h1 := hn.all p hm
      have h2 := hv p hm
      have w := word0_len h1 h2
      unfold word0 at w
      rw [List.length_append, List.length_cons] at w
      refine ee_var (v := .str (S (wordL p))) (ev_js (ej_cons (b := [32]) (ev_litc rfl) (by decide) (ej_cons (ev_fmtI (i := p.1) (by walk_at "ev") (by omega)) ?_ (ej_cons (b := [61]) (ev_litc rfl) ?_ (ej_cons (ev_fmtI (i := p.2) (by walk_at "ev") h2) ?_ (ej_to (by simp [wordL, word0]))))))) rfl
      all_goals (simp only [List.length_append, List.length_cons, List.length_nil]; omega)
    · intro q B hq e ⟨ys, hy, hpy⟩
      have hys := prs_eq hpy
      rw [List.filter_eq_self.mpr (fun _ _ => rfl)] at hys
      subst hys
      have hk : (TL.joinL [] (qs.map wordL)) = qs.flatMap wordL := by rw [joinL_nil, List.flatMap_def]
      have hfl := flat_len wordL 67 qs (fun p hp => by
        unfold wordL
        rw [List.length_cons]
        have := word0_len (hn.all p hp) (hv p hp)
        omega)
      have hsum : ((qs.map wordL).map (·.length)).sum = (qs.flatMap wordL).length := by rw [List.flatMap_def, List.length_flatten]
      have hq2 : B q = some (.lst (((qs.map wordL).map S).map V.str)) := by rw [show (qs.map wordL).map S = qs.map (fun p => S (wordL p)) from List.map_map]; exact hy
      have hb : bt c = S (bl c.1 c.2) := rfl
      show tRet _ _ [some (.str (bt c)), some (.ref l), some (.ref q), none, none] B
      have h0 : Ev (tVar 0) [some (.str (bt c)), some (.ref l), some (.ref q), none, none] B (.str (S (bl c.1 c.2))) := by walk_at "ev"
      have h2 : Ev (tVar 2) [some (.str (bt c)), some (.ref l), some (.ref q), none, none] B (.ref q) := by walk_at "ev"
      generalize [some (V.str (bt c)), some (V.ref l), some (V.ref q), none, none] = σ at h0 h2 ⊢
      have g1 := ev_js (out := bl c.1 c.2 ++ [58]) (ej_cons (b := bl c.1 c.2) (ev_fmtS h0 (by rw [S_len, bl_len]; omega)) (by rw [List.nil_append, bl_len]; omega) (ej_cons (b := [58]) (ev_litc (s := ":") rfl) (by rw [List.nil_append, List.length_append, bl_len, List.length_singleton]; omega) (ej_to (by rw [List.nil_append]))))
      have g2 := ev_join (K := K) (s := []) (ys := qs.map wordL) (ev_litc (s := "") rfl) (fun A a Q' q' => h2 A a _ fun B1 b1 => q' _ B1 b1 ⟨q, rfl, (a.trans b1).k hq2⟩) (by rw [hsum, List.length_nil, Nat.mul_zero]; omega)
      rw [hk] at g2
      have g3 := ev_addS g1 g2 (by rw [List.length_append, bl_len, List.length_singleton]; omega)
      rw [show bl c.1 c.2 ++ [58] ++ qs.flatMap wordL = rowL c qs by unfold rowL; rw [List.append_assoc]; rfl] at g3
      exact s_retk g3 (k.mono e)
end

section
open SX
variable {P : Program} {w : World} {K : PySem.W.Frag} {mg : Str → Option Value} {base : Heap} [TabCx]
theorem spv_row {H : Hp} {l : Addr} {c : Code} {qs : List (Int × Int)} (h : LR rpT H l qs) (hn : Names qs) (hv : VB qs) (hc : c.1 ≤ 8) : SpV spRow [.str (bt c), .ref l] H (.str (S (rowL c qs))) := fun A e Q q E => ⟨l, c, qs, rfl, h.mono e, hn, hv, hc, q⟩
/-- what is written of a bound and its things -/
def wr (b : Nat) (ps : List (Int × Int)) : Str := S (textL b (roomsT b ps))
def spWritten (C : Addr) : Sp := fun vs H Q _ => ∃ (p d bd : Addr) (kvs : List (Key × V)) (b : Nat) (R : List Code) (D : Nat) (ps : List (Int × Int)), vs = [.ref p] ∧ SA C H p d bd kvs b R D ps ∧ Good b R D ps ∧ (1 ≤ b ∧ b ≤ 64) ∧ VB ps ∧ RetV (.str (wr b ps)) H Q
theorem spl_rooms {C : Addr} {H : Hp} {p d bd : Addr} {kvs : List (Key × V)} {b : Nat} {R : List Code} {D : Nat} {ps : List (Int × Int)} (S : SA C H p d bd kvs b R D ps) (G : Good b R D ps) (hb : 1 ≤ b) : SpLR rpRm (spRooms C) [.ref p] H (roomsT b ps) := fun A e Q q E => ⟨p, d, bd, kvs, b, R, D, ps, rfl, S.mono e, G, hb, q⟩
theorem rooms_in {b : Nat} {R : List Code} {D : Nat} {ps : List (Int × Int)} (G : Good b R D ps) (hb : 1 ≤ b) (hv : VB ps) : ∀ r ∈ roomsT b ps, r.1.1 ≤ 8 ∧ Names r.2 ∧ VB r.2 := fun r hr => by
  obtain ⟨c, hc, rfl⟩ := List.mem_map.mp hr
  have hcR := (G.mem hb c).mpr hc
  exact ⟨Nat.le_trans (G.dep c hcR) G.d8, G.nm.fil _, fun p hp => hv p (List.mem_filter.mp hp).1⟩
theorem rooms_len {b : Nat} {R : List Code} {D : Nat} {ps : List (Int × Int)} (G : Good b R D ps) (hb : 1 ≤ b) : (roomsT b ps).length ≤ 256 := by
  unfold roomsT
  rw [List.length_map, ← (G.perm hb).length_eq]
  exact cov_len G.cov G.nd
theorem ok_written (T : Top K mg) : FnOk P w K mg base CX0 2 T.a_written T.fd_written ["store"] (spWritten T.a_Store) := by
  refine T.F_written.ok sc_written (fun vs H Q E h => ?_) (fun cdv A outer s H vs Q E hr h => ?_)
  · obtain ⟨p, d, bd, kvs, b, R, D, ps, rfl, _⟩ := h
    rfl
  · obtain ⟨p, d, bd, kvs, b, R, D, ps, rfl, S0, G, hb, hv, k⟩ := h
    refine ⟨_, (pss_cons (ps_setLc (i := 1) (own := [("bits", 2), ("things", 3)]) (tt := tYes) (g := gTup K 2 (gCons (gName 2) (gCons (gName 3) gNil))) rfl sc_written.nd rfl rfl (sw_true rfl rfl rfl (by decide +kernel)) (pi_list (pe_meth0 (pv 0) T.cl_Store T.M_m_rooms (ok_m_rooms T) (hr.mono (by decide)) T.b_m_rooms .nil pass0)) (blkOk_by (N := n_written) (sc := defScope s_written) (by decide +kernel)) (fun _ _ _ _ _ => by exact (pg_tup rfl (pgs_cons (pg_name (i := 2) sc_written.nd rfl (Or.inl rfl)) (pgs_cons (pg_name (i := 3) sc_written.nd rfl (Or.inl rfl)) pgs_nil)))) (fun _ _ _ _ _ => by exact pts_nil) (fun _ _ _ _ _ => by exact (pe_call (ok_row_of T) (hr.mono (by decide)) rfl T.g_row_of T.F_row_of.kp T.b_row_of .nil pass0 (pa_cons (pv 2) (pa_cons (pv 3) pa_nil)))))
      (pss_one (ps_ret (pe_join pe_str (pe_lst (pa_cons (pe_joined (PJ.cons (pe_fmt (pe_glob (v := .str "bound ") rfl T.c_BOUND_WORD.2 ⟨_, rfl⟩)) (PJ.cons (pe_fmt (pe_fld (pv 0) rfl)) PJ.nil))) (StX.pa_star (pv 1) pa_nil))))))), ?_⟩
    have hin := rooms_in G hb.1 hv
    have hlen := rooms_len G hb.1
    refine q_asgLR (r' := rpStr) (bs := ((roomsT b ps).filter fun _ => true).map fun r => S (rowL r.1 r.2)) (lcG (K := K) (P := fun _ v C => ∃ q, v = .ref q ∧ LR rpRm C q (roomsT b ps)) ((S0.e_methLR (by walk_at "ev") (by walk_at "ea") (spl_rooms S0 G hb.1)).imp fun A v B _ _ ⟨q, e, _, l⟩ => ⟨q, e, l⟩) ?_) ?_
    · rintro A1 v B1 a1 e1 ⟨q, rfl, ⟨xs, hx, hpx⟩⟩
      refine (lcJ (K := K) (r := rpRm) (r' := rpStr) (fun _ H1 σ' r => ∃ l, σ' = [some (.ref p), none, some (.str (bt r.1)), some (.ref l)] ∧ LR rpT H1 l r.2) (fun _ => true) (fun r => S (rowL r.1 r.2)) ev_c (sq_of hx) hpx (by omega) ?_ ?_ ?_).imp ?_
      · rintro x r H1 F Q' e2 _ ⟨t, u, v, rfl, ht, rfl, l, ys, rfl, _, hy, hpy⟩ k'
        exact g_pair ht (k' _ rfl ⟨l, rfl, ys, hy, pr_0 hpy⟩)
      · rintro σ' r H1 F e2 _ ⟨l, rfl, hl⟩
        exact fun H5 e5 Q' q' => q' H5 (.refl H5)
      · rintro σ' r H1 F e2 _ hm ⟨l, rfl, hl⟩ _
        obtain ⟨h1, h2, h3⟩ := hin r hm
        exact ee_var (v := .str (S (rowL r.1 r.2))) (ev_call (by walk_at "ea") (spv_row hl h2 h3 h1)) rfl
      · rintro A2 v C a2 _ ⟨q2, rfl, hq, hl⟩
        exact ⟨q2, rfl, fresh_back (e1.trans a2) hq, hl⟩
    · intro q B hq e ⟨ys, hy, hpy⟩
      have hys := prs_eq hpy
      rw [List.filter_eq_self.mpr (fun _ _ => rfl)] at hys
      subst hys
      have S1 := S0.mono e
      have hB : SqL K B q ((((roomsT b ps).map fun r => rowL r.1 r.2).map S).map V.str) := by
        rw [show ((roomsT b ps).map fun r => rowL r.1 r.2).map S = (roomsT b ps).map (fun r => S (rowL r.1 r.2)) from List.map_map]
        exact sq_of hy
      show tRet _ _ [some (.ref p), some (.ref q), none, none] B
      have h0 : Ev (tFld K (tVar 0) "bound") [some (.ref p), some (.ref q), none, none] B (.int (b : Int)) := S1.e_bound (by walk_at "ev")
      have h2 : Ev (tVar 1) [some (.ref p), some (.ref q), none, none] B (.ref q) := by walk_at "ev"
      generalize [some (V.ref p), some (V.ref q), none, none] = σ at h0 h2 ⊢
      have hbl : ((b : Int)).natAbs < 10 ^ 60 := by omega
      have nl := numZ_len (i := (b : Int)) (k := 3) (by decide) (by omega)
      have g1 := ev_js (out := boundL ++ numZ b) (ej_cons (b := boundL) (ev_fmtS (ev_litc (s := "bound ") rfl) (by decide)) (by decide) (ej_cons (ev_fmtI h0 hbl) (by rw [List.nil_append, List.length_append, show boundL.length = 6 from rfl]; omega) (ej_to (by rw [List.nil_append]))))
      have g2 := eg_lst (ea_cons g1 (ea_star h2 hB ea_nil)) (by rw [List.length_cons, List.append_nil, List.length_map, List.length_map, List.length_map]; omega)
      have g3 := ev_join (K := K) (s := [10]) (ys := linesL b (roomsT b ps)) (ev_litc (s := "\n") rfl) (fun A a Q' q' => g2 A a _ fun v B1 b1 ⟨z, ez, _, hz⟩ => q' v B1 b1 ⟨z, ez, by rw [hz, List.append_nil]; rfl⟩) ?_
      · exact s_retk g3 (k.mono e)
      · have hll : ∀ x ∈ linesL b (roomsT b ps), x.length ≤ 17200 := by
          intro x hx
          rcases List.mem_cons.mp hx with rfl | hx
          · rw [List.length_append, show boundL.length = 6 from rfl]
            omega
          · obtain ⟨r, hr, rfl⟩ := List.mem_map.mp hx
            obtain ⟨i1, i2, i3⟩ := hin r hr
            exact rowL_len i1 i2 i3
        have hs := flat_len id 17200 (linesL b (roomsT b ps)) hll
        rw [List.flatMap_id, List.length_flatten] at hs
        have hs : ((linesL b (roomsT b ps)).map (fun x => x.length)).sum ≤ 17200 * (linesL b (roomsT b ps)).length := hs
        have hn : (linesL b (roomsT b ps)).length = (roomsT b ps).length + 1 := by
          unfold linesL
          rw [List.length_cons, List.length_map]
        rw [hn] at hs ⊢
        rw [List.length_singleton]
        omega
end


section
open SX
variable {P : Program} {w : World} {K : PySem.W.Frag} {mg : Str → Option Value} {base : Heap} [TabCx]
theorem ev_rmp {σ : L2.St} {H : Hp} {to te : TE} {a b c : List Nat} (ho : Ev to σ H (.str (S a))) (ha : Ev te σ H (.str (S b))) (hl : a.length ≤ 100000) (he : Txt.removeprefix (S a) (S b) = S c) : Ev (tBM K "str" (fun x xs H Q => ∃ a b, x = .str a ∧ xs = [.str b] ∧ a.length ≤ sizeLine ∧ Q (.str (Txt.removeprefix a b)) H) to (tCons te tNil)) σ H (.str (S c)) :=
  ev_bmS ho (ea_cons ha ea_nil) fun A _ Q q => ⟨S a, S b, rfl, rfl, by rw [S_len]; exact sz_of hl, by rw [he]; exact q A (.refl A)⟩
theorem ev_dec {σ : L2.St} {H : Hp} {to : TE} {a : List Nat} {z : Bool} (ho : Ev to σ H (.str (S a))) (he : Txt.isdecimal (S a) = z) : Ev (tBM0 K "str" (fun x xs H Q => ∃ a, x = V.str a ∧ xs = [] ∧ True ∧ Q (V.bl (Txt.isdecimal a)) H) to) σ H (.bl z) := fun A a' Q q =>
  ho A a' _ fun B b => ⟨rfl, S a, rfl, rfl, trivial, by rw [he]; exact q B b⟩
theorem ev_lenS {σ : L2.St} {H : Hp} {te : TE} {a : List Nat} (h : Ev te σ H (.str (S a))) (hl : a.length ≤ 100000) : Ev (tCB (fun xs H Q => ∃ z : Str, xs = [V.str z] ∧ z.length ≤ sizeLine ∧ Q (V.int z.length) H) (tCons te tNil)) σ H (.int (a.length : Int)) := fun A a' Q q =>
  h A a' _ fun B b => ⟨S a, rfl, by rw [S_len]; exact sz_of hl, by rw [S_len]; exact q B b⟩
theorem ev_intS {σ : L2.St} {H : Hp} {te : TE} {a : List Nat} {i : Int} (h : Ev te σ H (.str (S a))) (hl : a.length ≤ 640) (hi : PySem.intText? (S a) = some i) : Ev (tCB (fun xs H Q => ∃ a n, xs = [V.str a] ∧ PySem.intText? a = some n ∧ a.length ≤ 640 ∧ Q (V.int n) H) (tCons te tNil)) σ H (.int i) := fun A a' Q q =>
  h A a' _ fun B b => ⟨S a, i, rfl, hi, by rw [S_len]; exact hl, q B b⟩
def spNum : Sp := fun vs H Q _ => ∃ i : Int, vs = [.str (S (numZ i))] ∧ i.natAbs < 10 ^ 60 ∧ RetV (.int i) H Q
theorem spv_num {H : Hp} {i : Int} (hi : i.natAbs < 10 ^ 60) : SpV spNum [.str (S (numZ i))] H (.int i) := fun A e Q q E => ⟨i, rfl, hi, q⟩
theorem ok_number_in (T : Top K mg) : FnOk P w K mg base CX0 1 T.a_number_in T.fd_number_in ["word"] spNum := by
  refine T.F_number_in.ok sc_number_in (fun vs H Q E h => ?_) (fun cdv A outer s H vs Q E hr h => ?_)
  · obtain ⟨i, rfl, _⟩ := h
    rfl
  · obtain ⟨i, rfl, hi, k⟩ := h
    refine ⟨_, (pss_cons (ps_set (i := 1) sc_number_in.nd rfl (Or.inl rfl) (pe_bm PySem.F.plainAttrs_str PySem.F.slot_str_removeprefix PySem.F.type_str_removeprefix mt_removeprefix (pv 0) (pa_cons pe_str pa_nil)))
      (pss_cons (ps_if (PW.pt (pw_or (pt_not (pt_val (pe_bm0 PySem.F.plainAttrs_str PySem.F.slot_str_isdecimal PySem.F.type_str_isdecimal mt_isdecimal (pv 1)))) (pw_or1 (pt_cmpR op_gt (pe_callB call_len_str (by rfl) T.z_len (by decide +kernel) (pa_cons (pv 1) pa_nil)) (pe_glob (v := .int 60) rfl T.c_FIGURES.2 ⟨_, rfl⟩) (nomark _))))) (pss_one ps_never) pss_nil)
      (pss_one (ps_ret (pe_callTy call_int_str (by rfl) T.z_int (by decide +kernel) (pa_cons (pv 0) pa_nil)))))), ?_⟩
    have hl := numZ_len (k := 60) (by decide) hi
    have hl2 : (TL.numL i.natAbs).length ≤ 60 := TL.numL_len (by decide) hi
    refine q_asg (v := .str (S (TL.numL i.natAbs))) (ev_rmp (a := numZ i) (b := [45]) (by walk_at "ev") (ev_litc (s := "-") rfl) (by omega) (rmp_num i)) fun B e => ?_
    show tSeq _ _ _ [some (.str (S (numZ i))), some (.str (S (TL.numL i.natAbs)))] B
    have h0 : Ev (tVar 0) [some (.str (S (numZ i))), some (.str (S (TL.numL i.natAbs)))] B (.str (S (numZ i))) := by walk_at "ev"
    have h1 : Ev (tVar 1) [some (.str (S (numZ i))), some (.str (S (TL.numL i.natAbs)))] B (.str (S (TL.numL i.natAbs))) := by walk_at "ev"
    generalize [some (V.str (S (numZ i))), some (V.str (S (TL.numL i.natAbs)))] = σ at h0 h1 ⊢
    refine q_when (b := (!true) || decide ((60 : Int) < ((TL.numL i.natAbs).length : Int))) (et_or (et_not (et_B (ev_dec h1 (isdec_num _)))) fun _ => et_test ?_) (fun hb => ?_) fun _ B1 e1 => ?_
    · have hc : Ev (tC (V.int 60)) σ B (.int 60) := by walk_at "ev"
      exact fun A a Q' q' => ev_lenS h1 (by omega) A a _ fun B1 b1 => hc B1 (a.trans b1) _ fun B2 b2 => ⟨_, _, rfl, rfl, q' B2 (b1.trans b2)⟩
    · rw [decide_eq_false (by omega)] at hb
      exact absurd hb (by decide)
    · exact s_retk (ev_intS (h0.mono e1) (by omega) (int_numZ hi)) (k.mono (e.trans e1))
end

section
open SX
variable {P : Program} {w : World} {K : PySem.W.Frag} {mg : Str → Option Value} {base : Heap} [TabCx]
theorem eg_split {σ : L2.St} {H : Hp} {to te : TE} {a b : List Nat} {ys : List (List Nat)} (ho : Ev to σ H (.str (S a))) (ha : Ev te σ H (.str (S b))) (hb : (b.length == 0) = false) (hl : a.length ≤ 10000000) (he : Txt.split (S a) (S b) = ys.map S) :
    EvG (tM1 (fun x xs H Q => ∃ a b, x = .str a ∧ xs = [.str b] ∧ (b.length == 0) = false ∧ a.length + 2 ≤ sizeLine ∧ rNewStrs (Txt.split a b) H Q) to te) σ H (NewL ((ys.map S).map V.str)) := fun A a' Q q =>
  ho A a' _ fun B b1 => ⟨⟨_, rfl⟩, ha B (a'.trans b1) _ fun C c => ⟨S a, S b, rfl, rfl, by rw [S_len]; exact hb, by rw [S_len]; exact Nat.le_trans (Nat.add_le_add_right hl 2) (by decide), fun p hp => by
    rw [he]
    exact q _ _ ((b1.trans c).trans (.new hp)) ⟨p, rfl, fresh_back (b1.trans c) hp, upd_same⟩⟩⟩
theorem cutV_1 (x : V) (xs : List V) : cutV (x :: xs) (some 1) none = xs := by
  unfold cutV
  rw [HT.sIx_none, show (some (1 : Int)) = some ((1 : Nat) : Int) from rfl, HT.sIx_nat, List.length_cons, Nat.min_eq_left (by omega), List.drop_one, List.tail_cons, Nat.add_sub_cancel, List.take_length]
theorem eg_tail {σ : L2.St} {H : Hp} {te : TE} {tl : TO} {x : V} {xs : List V} (h : EvG te σ H (NewL (x :: xs))) (hl : ∀ B, Ex H B → EvO tl σ B (some 1)) : EvG (tSl (rSlL K) te tl tNoPart) σ H (NewL xs) := fun A a Q q =>
  h A a _ fun v B b ⟨p, ev, hp, hB⟩ => hl B (a.trans b) B (.refl B) _ fun C c => ⟨p, x :: xs, ev, sq_of (c.k hB), fun l hl => by
    rw [cutV_1]
    exact q _ _ ((b.trans c).trans (.new hl)) ⟨l, rfl, fresh_back (b.trans c) hl, upd_same⟩⟩
/-- a word taken apart -/
def rpW : Rp (Int × Int) := ⟨fun _ H v p => ∃ t, v = .ref t ∧ H t = some (.tup [.str (S (numZ p.1)), .str (S [61]), .str (S (numZ p.2))]), fun e ⟨t, h1, h2⟩ => ⟨t, h1, e.k h2⟩, fun h _ => h, fun _ hD ⟨t, h1, h2⟩ => ⟨t, h1, by rw [upd_ne (ne_of h2 hD (by intro z; cases z))]; exact h2⟩⟩
def rpWd : Rp (Int × Int) := ⟨fun _ _ v p => v = .str (S (word0 p)), fun _ h => h, fun h _ => h, fun _ _ h => h⟩
theorem pr_wd {F : Addr → Prop} {H : Hp} : ∀ {qs : List (Int × Int)}, PRF rpWd F H (((qs.map word0).map S).map V.str) qs
  | [] => .nil
  | _ :: _ => .cons rfl pr_wd
theorem ee_part {σ : L2.St} {H : Hp} {to te : TE} {p : Int × Int} {F : Addr → Prop} (hl : (word0 p).length ≤ 100000) (ho : Ev to σ H (.str (S (word0 p)))) (ha : Ev te σ H (.str (S [61]))) :
    EvE rpW F (tM1 (fun x xs H Q => ∃ a b, x = .str a ∧ xs = [.str b] ∧ (b.length == 0) = false ∧ a.length ≤ sizeLine ∧ ∀ p, H p = none → Q (.ref p) (upd H p (.tup [.str (Txt.partition a b).1, .str (Txt.partition a b).2.1, .str (Txt.partition a b).2.2]))) to te) σ H p := fun A a' Q q =>
  ho A a' _ fun B b1 => ⟨⟨_, rfl⟩, ha B (a'.trans b1) _ fun C c => ⟨S (word0 p), S [61], rfl, rfl, rfl, by rw [S_len]; exact sz_of hl, fun t ht => by
    rw [part_word]
    exact q _ _ ((b1.trans c).trans (.new ht)) ⟨t, rfl, upd_same⟩⟩⟩
theorem ee_T {σ : L2.St} {H : Hp} {ta tb : TE} {p : Int × Int} {F : Addr → Prop} (ha : Ev ta σ H (.int p.1)) (hb : Ev tb σ H (.int p.2)) : EvE rpT F (tTup (tCons ta (tCons tb tNil))) σ H p := fun A a Q q =>
  ha A a _ fun B b => hb B (a.trans b) _ fun C c => ⟨by show 2 ≤ sizeLine; decide, fun t ht => q _ _ ((b.trans c).trans (.new ht)) ⟨t, rfl, upd_same⟩⟩
theorem g_triple {t : Addr} {u v x : V} {i j k : Nat} {σ : L2.St} {H1 : Hp} {Q : L2.St → Hp → Prop} (ht : H1 t = some (.tup [u, v, x])) (kk : Q (((σ.set i (some u)).set j (some v)).set k (some x)) H1) : gTup K 3 (gCons (gName i) (gCons (gName j) (gCons (gName k) gNil))) (.ref t) σ H1 Q :=
  ⟨t, [u, v, x], rfl, st_of ht, rfl, u, [v, x], rfl, v, [x], rfl, x, [], rfl, rfl, kk⟩
def spThIn : Sp := fun vs H Q _ => ∃ (c : Code) (qs : List (Int × Int)), vs = [.str (S (rowL c qs))] ∧ Names qs ∧ VB qs ∧ c.1 ≤ 8 ∧ RetLR rpT qs H Q
theorem spl_thin {H : Hp} {c : Code} {qs : List (Int × Int)} (hn : Names qs) (hv : VB qs) (hc : c.1 ≤ 8) : SpLR rpT spThIn [.str (S (rowL c qs))] H qs := fun A e Q q E => ⟨c, qs, rfl, hn, hv, hc, q⟩
theorem ok_things_in (T : Top K mg) : FnOk P w K mg base CX0 2 T.a_things_in T.fd_things_in ["row"] spThIn := by
  refine T.F_things_in.ok sc_things_in (fun vs H Q E h => ?_) (fun cdv A outer s H vs Q E hr h => ?_)
  · obtain ⟨c, qs, rfl, _⟩ := h
    rfl
  · obtain ⟨c, qs, rfl, hn, hv, hc, k⟩ := h
    refine ⟨_, (pss_cons (ps_set (i := 1) sc_things_in.nd rfl (Or.inl rfl) (pe_slice (r := rSlL K) sl_list (pe_split (pv 0) pe_str) (po_some pe_int) po_none))
      (pss_cons (ps_setLc (i := 2) (own := [("word", 3)]) (g := gName 3) (tt := tYes) rfl sc_things_in.nd rfl rfl (sw_true rfl rfl rfl (by decide +kernel)) (pi_list (pv 1)) (blkOk_by (N := n_things_in) (sc := defScope s_things_in) (by decide +kernel)) (fun _ _ _ _ _ => pg_name (i := 3) sc_things_in.nd rfl (Or.inl rfl)) (fun _ _ _ _ _ => by exact pts_nil) (fun _ _ _ _ _ => by exact (pe_partition (pv 3) pe_str)))
      (pss_one (ps_ret (pe_lc (own := [("name", 4), ("_", 5), ("value", 6)]) (tt := tYes) (g := gTup K 3 (gCons (gName 4) (gCons (gName 5) (gCons (gName 6) gNil)))) rfl sc_things_in.nd (pi_list (pv 2)) (blkOk_by (N := n_things_in) (sc := defScope s_things_in) (by decide +kernel)) (fun _ _ _ _ _ => by exact (pg_tup rfl (pgs_cons (pg_name (i := 4) sc_things_in.nd rfl (Or.inl rfl)) (pgs_cons (pg_name (i := 5) sc_things_in.nd rfl (Or.inl rfl)) (pgs_cons (pg_name (i := 6) sc_things_in.nd rfl (Or.inl rfl)) pgs_nil))))) (fun _ _ _ _ _ => by exact pts_nil) (fun _ _ _ _ _ => by exact (pe_tup (pa_cons (pe_call (ok_number_in T) (hr.mono (by decide)) rfl T.g_number_in T.F_number_in.kp T.b_number_in .nil pass0 (pa_cons (pv 4) pa_nil)) (pa_cons (pe_call (ok_number_in T) (hr.mono (by decide)) rfl T.g_number_in T.F_number_in.kp T.b_number_in .nil pass0 (pa_cons (pv 6) pa_nil)) pa_nil))))))))), ?_⟩
    have hlen := hn.len
    have hrl := rowL_len hc hn hv
    refine q_asgG (eg_tail (K := K) (eg_split (a := rowL c qs) (b := [32]) (by walk_at "ev") (ev_litc (s := " ") rfl) rfl (by omega) (ys := (bl c.1 c.2 ++ [58]) :: qs.map word0) (split_row c qs)) fun B _ => eo_some (i := 1) ev_c) fun v B e ⟨q, ev, hq, hB⟩ => ?_
    subst ev
    show tSeq _ _ _ [some (.str (S (rowL c qs))), some (.ref q), none, none, none, none, none] B
    refine q_asgLR (r' := rpW) (bs := (qs.filter fun _ => true).map fun p => p) (lcJ (K := K) (r := rpWd) (r' := rpW) (fun _ _ σ' p => σ' = [some (.str (S (rowL c qs))), some (.ref q), none, some (.str (S (word0 p))), none, none, none]) (fun _ => true) (fun p => p) (by walk_at "ev") (sq_of hB) pr_wd (by omega) ?_ ?_ ?_) ?_
    · rintro x p H1 F Q' e1 _ rfl k'
      exact k' _ rfl rfl
    · rintro σ' p H1 F e1 _ rfl
      exact fun H5 e5 Q' q' => q' H5 (.refl H5)
    · rintro σ' p H1 F e1 _ hm rfl _
      have w0 := word0_len (hn.all p hm) (hv p hm)
      exact ee_part (by omega) (by walk_at "ev") (ev_litc (s := "=") rfl)
    · intro q2 B2 hq2 e2 ⟨ys, hy, hpy⟩
      rw [List.filter_eq_self.mpr (fun _ _ => rfl), List.map_id'] at hpy
      show tRet _ _ [some (.str (S (rowL c qs))), some (.ref q), some (.ref q2), none, none, none, none] B2
      refine s_retLR (r' := rpT) (bs := (qs.filter fun _ => true).map fun p => p) (lcJ (K := K) (r := rpW) (r' := rpT) (fun _ _ σ' p => σ' = [some (.str (S (rowL c qs))), some (.ref q), some (.ref q2), none, some (.str (S (numZ p.1))), some (.str (S [61])), some (.str (S (numZ p.2)))]) (fun _ => true) (fun p => p) (by walk_at "ev") (sq_of hy) hpy (by omega) ?_ ?_ ?_) ?_
      · rintro x p H1 F Q' e1 _ ⟨t, rfl, ht⟩ k'
        exact g_triple ht (k' _ rfl rfl)
      · rintro σ' p H1 F e1 _ rfl
        exact fun H5 e5 Q' q' => q' H5 (.refl H5)
      · rintro σ' p H1 F e1 _ hm rfl _
        have h1 := hn.all p hm
        exact ee_T (ev_call (by walk_at "ea") (spv_num (i := p.1) (by omega))) (ev_call (by walk_at "ea") (spv_num (hv p hm)))
      · rw [List.filter_eq_self.mpr (fun _ _ => rfl), List.map_id']
        exact RetLR.mono (e.trans e2) k
end


/-! ### all things put, one by one -/
section
def insAll (ps L : List (Int × Int)) : List (Int × Int) := L.foldl (fun a p => insT a p.1 p.2) ps
theorem insAll_snoc (ps L : List (Int × Int)) (p : Int × Int) : insAll ps (L ++ [p]) = insT (insAll ps L) p.1 p.2 := by
  unfold insAll
  rw [List.foldl_append]
  rfl
theorem mem_insT {ps : List (Int × Int)} (h : Names ps) {n v : Int} {q : Int × Int} : q ∈ insT ps n v ↔ q = (n, v) ∨ (q ∈ ps ∧ q.1 ≠ n) := by
  unfold insT
  rw [List.mem_append, List.mem_cons, List.mem_filter, List.mem_filter, decide_eq_true_eq, decide_eq_true_eq]
  constructor
  · rintro (⟨a, b⟩ | rfl | ⟨a, b⟩)
    · exact .inr ⟨a, by omega⟩
    · exact .inl rfl
    · exact .inr ⟨a, by omega⟩
  · rintro (rfl | ⟨a, b⟩)
    · exact .inr (.inl rfl)
    · rcases Int.lt_or_gt_of_ne b with z | z
      · exact .inl ⟨a, z⟩
      · exact .inr (.inr ⟨a, z⟩)
theorem insAll_names {L : List (Int × Int)} (hr : ∀ p ∈ L, 0 ≤ p.1 ∧ p.1 < 256) : ∀ {ps : List (Int × Int)}, Names ps → Names (insAll ps L) := by
  induction L with
  | nil => exact fun h => h
  | cons p L ih =>
    intro ps h
    exact ih (fun q hq => hr q (List.mem_cons_of_mem _ hq)) (h.ins p.2 (hr p List.mem_cons_self).1 (hr p List.mem_cons_self).2)
theorem mem_insAll {L : List (Int × Int)} (hr : ∀ p ∈ L, 0 ≤ p.1 ∧ p.1 < 256) (hd : L.Pairwise fun a b => a.1 ≠ b.1) : ∀ {ps : List (Int × Int)}, Names ps → (∀ p ∈ ps, ∀ q ∈ L, p.1 ≠ q.1) → ∀ q, q ∈ insAll ps L ↔ q ∈ ps ∨ q ∈ L := by
  induction L with
  | nil => exact fun _ _ q => ⟨.inl, fun h => h.elim id fun z => absurd z List.not_mem_nil⟩
  | cons p L ih =>
    intro ps h hx q
    have hp := hr p List.mem_cons_self
    have h2 := List.pairwise_cons.mp hd
    have := ih (fun q hq => hr q (List.mem_cons_of_mem _ hq)) h2.2 (h.ins p.2 hp.1 hp.2) (fun a ha c hc => by
      rcases (mem_insT h).mp ha with rfl | ⟨z, _⟩
      · exact h2.1 c hc
      · exact hx a z c (List.mem_cons_of_mem _ hc)) q
    show q ∈ insAll (insT ps p.1 p.2) L ↔ _
    rw [this, mem_insT h, List.mem_cons]
    constructor
    · rintro ((rfl | ⟨a, _⟩) | a)
      · exact .inr (.inl rfl)
      · exact .inl a
      · exact .inr (.inr a)
    · rintro (a | rfl | a)
      · exact .inl (.inr ⟨a, hx q a p List.mem_cons_self⟩)
      · exact .inl (.inl rfl)
      · exact .inr a
theorem names_ext {ps qs : List (Int × Int)} (hp : Names ps) (hq : Names qs) (h : ∀ p, p ∈ ps ↔ p ∈ qs) : ps = qs := by
  have n1 : ps.Nodup := hp.up.imp fun h e => by rw [e] at h; omega
  have n2 : qs.Nodup := hq.up.imp fun h e => by rw [e] at h; omega
  exact (((List.perm_ext_iff_of_nodup n1 n2).mpr h)).eq_of_pairwise (le := fun a b => a.1 < b.1) (fun a b _ _ h1 h2 => by omega) hp.up hq.up
theorem insAll_perm {ps L : List (Int × Int)} (hp : Names ps) (h : L.Perm ps) : insAll [] L = ps := by
  have hr : ∀ p ∈ L, 0 ≤ p.1 ∧ p.1 < 256 := fun p z => hp.all p (h.mem_iff.mp z)
  have hd : L.Pairwise fun a b => a.1 ≠ b.1 := (h.pairwise_iff fun z => Ne.symm z).mpr (hp.up.imp fun z => by omega)
  have n0 : Names ([] : List (Int × Int)) := ⟨.nil, by simp⟩
  refine names_ext (insAll_names hr n0) hp fun q => ?_
  rw [mem_insAll hr hd n0 (by simp), h.mem_iff]
  exact ⟨fun z => z.elim (fun a => absurd a List.not_mem_nil) id, .inr⟩
theorem Good.all {b : Nat} (hb : 1 ≤ b) {R : List Code} {D : Nat} {ps : List (Int × Int)} (h : Good b R D ps) : insAll [] ((canon b ps).flatMap (thg ps)) = ps :=
  insAll_perm h.nm (((h.perm hb).symm.flatMap_right _).trans (flat_perm h.cov h.nd h.nm))
end

section
open PySem.Spec PyProof.Rows
variable [TabCx]
/-- x, *y = a list of one item or more -/
def gHead (K : PySem.W.Frag) (i j : Nat) : TG := fun v σ H Q => ∃ a u us, v = .ref a ∧ SqL K H a (u :: us) ∧ us.length ≤ 1000 ∧ ∀ D, H D = none → Q ((σ.set i (some u)).set j (some (.ref D))) (upd H D (.lst us))
theorem pg_head {X : Cx} {x y : Str} {p1 p2 p3 pos : Pos} {k : Nat} {i j : Nat} (hc : X.calm = true) (hN : X.N.Nodup) (hi : X.N[i]? = some x) (hx : Loc X.env.scope x) (hj : X.N[j]? = some y) (hy : Loc X.env.scope y)
    (hfx : X.fn x = true ∨ X.env.scope.names.lookup x = some .local := by first | exact .inl rfl | exact .inr rfl | assumption) (hfy : X.fn y = true ∨ X.env.scope.names.lookup y = some .local := by first | exact .inl rfl | exact .inr rfl | assumption)
    (hae : assignEach [.Name x p1, .Starred (.Name y p2) p3] X.env = [(false, assign (.Name x p1) X.env), (true, assign (.Name y p2) X.env)] := by rfl) :
    PG X (.Tuple [.Name x p1, .Starred (.Name y p2) p3] k pos) (gHead X.K i j) := by
  refine ⟨fun pins s σ H v w Q I r hw => ?_⟩
  obtain ⟨a, u, us, rfl, hq, hl, hw⟩ := hw
  cases r
  obtain ⟨its, rv, pl, hz⟩ := I.list hq
  have hit := pl.isList
  have hitsz : its.toArray.size = us.length + 1 := by
    rw [List.size_toArray, ← rv.length]
    rfl
  have hA : X.A.handled = none := I.ok.hd hc
  rw [assign_Tuple, hae]
  refine wpAny_bind (wpAny_standAt ?_)
  unfold unpack
  refine wpAny_bind (wpAny_holding ?_)
  show wpAny _ X.A (unpackItems (.ref a) 2 (some 1)) _ _ s
  have hlt : a ≠ s.heap.objs.size := by obtain ⟨o, ho, _⟩ := hit; exact Nat.ne_of_lt (Heap.lt_size ho)
  unfold unpackItems
  refine wpAny_bind ?_
  unfold notIterableAtAll
  refine wpAny_bind (wpAny_specialOf hit.typeIs slot_list_iter.lookup ?_)
  refine wpAny_pure ?_
  simp only [Bool.false_eq_true, if_false]
  refine wpAny_bind (wpAny_holding (wpAny_pyIter_list hit ?_))
  refine wpAny_bind (wpAny_holding (PySem.W.kun_draw hlt 1 0 _ _ ⟨_, Heap.get?_push_size _ rfl, rfl, rfl⟩ (hit.push _) (by omega) fun h₁ hit₁ hs₁ => ?_))
  have hl₁ : h₁.IsList a its.toArray := (hit.push _).extBut hs₁.extBut hlt
  rw [Nat.zero_add] at hit₁
  have hit₁' := hit₁
  obtain ⟨oi, hoi, _⟩ := hit₁'
  have hl₁' := hl₁
  obtain ⟨ol, hol, _⟩ := hl₁'
  rw [List.drop_zero]
  obtain ⟨w0, ws, rfl, r0, rr⟩ : ∃ w0 ws, its = w0 :: ws ∧ RelV u w0 ∧ Vals us ws := by
    cases rv with
    | cons r0 rr => exact ⟨_, _, rfl, r0, rr⟩
  have etl : (w0 :: ws).toArray.toList = w0 :: ws := rfl
  rw [etl, List.take_succ_cons, List.take_zero]
  rw [if_neg (show ¬ (([w0] : List Value).length < 1) from Nat.lt_irrefl 1)]
  have hlw : ws.length = us.length := rr.length.symm
  refine wpAny_bind (wpAny_holding (PySem.W.kun_collect (s := { s with heap := h₁ }) (T := "list_iterator") (.inr (.inr (.inl rfl))) (Walks.list (A := X.A.in1) hA s.heap.objs.size a hlt (w0 :: ws).toArray) (fun j u st => st.1.typeIs) (k := 1) (by omega) ⟨hit₁, hl₁⟩ (Heap.lt_size hoi) (Heap.lt_size hol) (fun h₂ tk hk => ?_) (by rw [hitsz]; exact sz_of (by omega))))
  rw [etl, List.drop_one, List.tail_cons]
  show wpAny _ _ (if ws.length < 0 then _ else _) _ _ _
  rw [if_neg (Nat.not_lt_zero _)]
  show wpAny _ _ (newList (ws.take (ws.length - 0)) >>= fun d => pure ([w0] ++ [d] ++ ws.drop (ws.length - 0))) _ _ _
  rw [Nat.sub_zero, List.take_length, List.drop_length]
  have he : Heap.ExtBut s.heap.objs.size s.heap h₂ := fun b o hb e => hk b o hb (hs₁.extBut b o hb (Heap.get?_push_of_some _ e))
  have I2 : Inv X pins σ H { s with heap := h₂, toks := tk } := I.kept fun b o e => he b o (Nat.ne_of_lt (Heap.lt_size e)) e
  refine wpAny_bind (wpAny_newList ?_ (by rw [hlw]; exact sz_of (by omega)))
  refine wpAny_pure ?_
  have hn := I2.hok.fresh (Nat.le_refl h₂.objs.size)
  have I3 : Inv X pins σ (upd H h₂.objs.size (.lst us)) { s with heap := h₂.push (seqObj "list" ws.toArray 0), toks := tk } := I2.laid (t' := tk) (fun b o e => Heap.get?_push_of_some _ e) (Nat.le_refl _)
    (show ObjOk X.prog X.w _ _ _ (.lst us) from ⟨sz_of (by omega), ws, 0, rr, Heap.get?_push_size _ rfl⟩)
  show wpAny _ X.A (assignInOrder [assign (.Name x p1) X.env, assign (.Name y p2) X.env] [w0, Value.ref h₂.objs.size]) _ _ _
  refine assignInOrder_cons (wpAny_assign_Name (store_ok I3 hN hi hx r0 (fun s' I' => ?_) hfx))
  refine assignInOrder_cons (wpAny_assign_Name (store_ok (v := .ref h₂.objs.size) I' hN hj hy rfl (fun s'' I'' => ?_) hfy))
  exact assignInOrder_nil ⟨_, _, I'', hw _ hn⟩
end


section
open SX
variable {P : Program} {w : World} {K : PySem.W.Frag} {mg : Str → Option Value} {base : Heap} [TabCx]
theorem ex_fresh {H A B : Hp} {p d : Addr} (e : Ex H A) (x : ExS p d A B) (hp : H p = none) (hd : H d = none) : Ex H B :=
  ⟨fun a o h t => x.keep a o (e.keep a o h t) (fun z => by rw [z, hp] at h; cases h) (fun z => by rw [z, hd] at h; cases h) t, fun a h => e.dom a (x.dom a h), fun t => x.tabs (e.tabs t)⟩
theorem q_asgGT {te : TE} {g : TG} {tz : TS} {D : Ends} {σ : L2.St} {H : Hp} {Pr : Hp → V → Hp → Prop} (h : EvG te σ H Pr) (k : ∀ v B, Ex H B → Pr H v B → g v σ B (tz D)) : tSeq (tAsg te g) tz D σ H := h H (.refl H) _ k
theorem q_make {C : Addr} {sp : Sp} {E : XK} {t : TA} {i : Nat} {tz : TS} {D : Ends} {σ : L2.St} {H : Hp} {vs : List V} (h : EvA t σ H vs) (k : ∀ B, Ex H B → ∀ x dx, B x = none → B dx = none → dx ≠ x → sp (.ref x :: (vs ++ [])) (upd (upd B dx (.own x)) x (.ins C dx [])) (fun v H2 => v = .non ∧ tz D (σ.set i (some (.ref x))) H2) E) :
    tSeq (tAsg (tMake C sp [] E t) (gName i)) tz D σ H := h H (.refl H) _ k
theorem q_seq {a b c : TS} {D : Ends} {σ : L2.St} {H : Hp} (h : tSeq a b { D with nx := c D } σ H) : tSeq (tSeq a b) c D σ H := h
theorem spv_written {C : Addr} {H : Hp} {p d bd : Addr} {kvs : List (Key × V)} {b : Nat} {R : List Code} {D : Nat} {ps : List (Int × Int)} (S : SA C H p d bd kvs b R D ps) (G : Good b R D ps) (hb : 1 ≤ b ∧ b ≤ 64) (hv : VB ps) : SpV (spWritten C) [.ref p] H (.str (wr b ps)) := fun A e Q q E => ⟨p, d, bd, kvs, b, R, D, ps, rfl, S.mono e, G, hb, hv, q⟩
theorem s_forL {a : Addr} {xs : List V} {tl : TE} {g : TG} {tu : TS} {D : Ends} {σ : L2.St} {H : Hp} (h : Ev tl σ H (.ref a)) (hx : SqL K H a xs) (W : Nat → L2.St → Hp → Prop) (h0 : ∀ B, Ex H B → W 0 σ B) (hl : ∀ i σ' B, i ≤ xs.length → W i σ' B → SqL K B a xs)
    (hs : ∀ i x σ' B, xs[i]? = some x → W i σ' B → g x σ' B fun σ2 C => tu { D with nx := W (i + 1), ct := W (i + 1), bk := D.nx } σ2 C) (hd : ∀ σ' B, W xs.length σ' B → D.nx σ' B) : tFor (iList K tl) g tu D σ H :=
  h H (.refl H) _ fun B e => ⟨a, rfl, ⟨xs, ex_l e hx⟩, for_list (D := D) W (h0 B e) hl hs hd⟩
theorem s_forLR {α : Type} {r : Rp α} {as : List α} {tl : TE} {g : TG} {tu : TS} {D : Ends} {σ : L2.St} {H : Hp} (h : EvLR r tl σ H as) (W : Addr → List V → Nat → L2.St → Hp → Prop) (h0 : ∀ p xs B, Ex H B → B p = some (.lst xs) → PR r B xs as → W p xs 0 σ B) (hl : ∀ p xs i σ' B, i ≤ xs.length → W p xs i σ' B → SqL K B p xs)
    (hs : ∀ p xs i x σ' B, xs[i]? = some x → W p xs i σ' B → g x σ' B fun σ2 C => tu { D with nx := W p xs (i + 1), ct := W p xs (i + 1), bk := D.nx } σ2 C) (hd : ∀ p xs σ' B, xs.length = as.length → W p xs xs.length σ' B → D.nx σ' B) : tFor (iList K tl) g tu D σ H :=
  h H (.refl H) _ fun v B e ⟨p, ev, _, xs, hp, hpx⟩ => ⟨p, ev, ⟨xs, sq_of hp⟩, for_list (D := D) (W p xs) (h0 p xs B e hp hpx) (hl p xs) (hs p xs) (hd p xs · · hpx.length)⟩
def spRead (C : Addr) : Sp := fun vs H Q _ => ∃ (b : Nat) (R : List Code) (D : Nat) (ps : List (Int × Int)), vs = [.str (wr b ps)] ∧ Good b R D ps ∧ (1 ≤ b ∧ b ≤ 64) ∧ VB ps ∧
  ∀ (p d bd : Addr) (kvs : List (Key × V)) (R' : List Code) (D' : Nat) (B : Hp), H p = none → H d = none → Ex H B → SA C B p d bd kvs b R' D' ps → Good b R' D' ps → Q (.ref p) B
set_option maxHeartbeats 1000000 in
theorem ok_read (T : Top K mg) : FnOk P w K mg base CX0 9 T.a_read T.fd_read ["text"] (spRead T.a_Store) := by
  refine T.F_read.ok sc_read (fun vs H Q E h => ?_) (fun cdv A outer s H vs Q E hr h => ?_)
  · obtain ⟨b, R, D, ps, rfl, _⟩ := h
    rfl
  · obtain ⟨b, R, D, ps, rfl, G, hb, hv, k⟩ := h
    refine ⟨_, (pss_cons (ps_asg (pe_split (pv 0) pe_str) (pg_head (i := 1) (j := 2) rfl sc_read.nd rfl (Or.inl rfl) rfl (Or.inl rfl)))
      (pss_cons (ps_try_thru0 (pss_cons (ps_set (i := 3) sc_read.nd rfl (Or.inl rfl) (pe_make T.mk_Store (ok_m___init__ T) (hr.mono (by decide)) rfl T.g_Store T.b_m___init__ .nil pass0 (pa_cons (pe_call (ok_number_in T) (hr.mono (by decide)) rfl T.g_number_in T.F_number_in.kp T.b_number_in .nil pass0 (pa_cons (pe_bm PySem.F.plainAttrs_str PySem.F.slot_str_removeprefix PySem.F.type_str_removeprefix mt_removeprefix (pv 1) (pa_cons (pe_glob (v := .str "bound ") rfl T.c_BOUND_WORD.2 ⟨_, rfl⟩) pa_nil)) pa_nil)) pa_nil)))
      (pss_one (ps_for PassesOwn.never rfl (pi_list (pv 2)) (pg_name (i := 4) sc_read.nd rfl (Or.inl rfl)) (pss_one (ps_for PassesOwn.never rfl (pi_list (pe_call (ok_things_in T) (hr.mono (by decide)) rfl T.g_things_in T.F_things_in.kp T.b_things_in .nil pass0 (pa_cons (pv 4) pa_nil))) (pg_tup rfl (pgs_cons (pg_name (i := 5) sc_read.nd rfl (Or.inl rfl)) (pgs_cons (pg_name (i := 6) sc_read.nd rfl (Or.inl rfl)) pgs_nil))) (pss_one (ps_expr (pe_meth (pv 3) T.cl_Store T.M_m_put (ok_m_put T) (hr.mono (by decide)) T.b_m_put .nil pass0 (pa_cons (pv 5) (pa_cons (pv 6) pa_nil)))))))))))
      (pss_cons (ps_if (pt_cmpR op_ne (pe_call (ok_written T) (hr.mono (by decide)) rfl T.g_written T.F_written.kp T.b_written .nil pass0 (pa_cons (pv 3) pa_nil)) (pv 0) (nomark _)) (pss_one ps_never) pss_nil)
      (pss_one (ps_ret (pv 3)))))), ?_⟩
    have hin := rooms_in G hb.1 hv
    have hlen := rooms_len G hb.1
    have htl : (textL b (roomsT b ps)).length ≤ 4500000 := textL_len hb.2 (fun r hr => rowL_len (hin r hr).1 (hin r hr).2.1 (hin r hr).2.2) hlen
    have nl := numZ_len (i := (b : Int)) (k := 3) (by decide) (by omega)
    have hv0 : Ev (tVar 0) [some (.str (wr b ps)), none, none, none, none, none, none] H (.str (wr b ps)) := by walk_at "ev"
    have hv1 : Ev (tVar 0) [some (.str (wr b ps)), none, none, none, none, none, none] H (.str (S (textL b (roomsT b ps)))) := hv0
    show tSeq _ _ _ [some (.str (wr b ps)), none, none, none, none, none, none] H
    refine q_asgGT (eg_split (a := textL b (roomsT b ps)) (b := [10]) hv1 (ev_litc (s := "\n") rfl) rfl (Nat.le_trans htl (by decide)) (split_text b (roomsT b ps))) fun v H1 e1 ⟨p1, ev1, hp1, hl1⟩ => ?_
    refine ⟨p1, .str (S (boundL ++ numZ b)), _, ev1, sq_of hl1, by rw [List.length_map, List.length_map, List.length_map]; omega, fun Dr hDr => ?_⟩
    have x1 : Ex H (upd H1 Dr (.lst ((((roomsT b ps).map fun r => rowL r.1 r.2).map S).map V.str))) := e1.trans (.new hDr)
    generalize hH2 : upd H1 Dr (.lst ((((roomsT b ps).map fun r => rowL r.1 r.2).map S).map V.str)) = H2 at x1
    have hrows : H2 Dr = some (.lst ((((roomsT b ps).map fun r => rowL r.1 r.2).map S).map V.str)) := by rw [← hH2]; exact upd_same
    show tSeq _ _ _ [some (.str (wr b ps)), some (.str (S (boundL ++ numZ b))), some (.ref Dr), none, none, none, none] H2
    have h0 : Ev (tVar 1) [some (.str (wr b ps)), some (.str (S (boundL ++ numZ b))), some (.ref Dr), none, none, none, none] H2 (.str (S (boundL ++ numZ b))) := by walk_at "ev"
    refine q_seq (q_make (ea_cons (ev_call (ea_cons (ev_rmp (K := K) (a := boundL ++ numZ b) (b := boundL) h0 (ev_litc (s := "bound ") rfl) (by rw [List.length_append, show boundL.length = 6 from rfl]; omega) (rmp_hit boundL (numZ b))) ea_nil) (spv_num (i := (b : Int)) (by omega))) ea_nil) fun B2 e2 x dx hx hdx hne => ?_)
    refine ⟨x, dx, b, rfl, upd_same, hb, fun d bd kvs B3 hd x3 S3 => ⟨rfl, ?_⟩⟩
    have xB : Ex B2 (upd (upd B2 dx (.own x)) x (.ins T.a_Store dx [])) := (Ex.new hdx).trans (.new (by rw [upd_ne (Ne.symm hne)]; exact hx))
    have x2 : Ex H B2 := x1.trans e2
    have hx0 : H x = none := x2.dom x hx
    have hd0 : H d = none := x2.dom d (xB.dom d hd)
    have hx2 : H2 x = none := e2.dom x hx
    have hd2 : H2 d = none := e2.dom d (xB.dom d hd)
    have x3' : Ex H2 B3 := ex_fresh (e2.trans xB) x3 hx2 hd2
    have xH : Ex H B3 := x1.trans x3'
    have hrows3 := x3'.k hrows
    generalize hus : (((roomsT b ps).map fun r => rowL r.1 r.2).map S).map V.str = us at hrows hrows3
    have husl : us.length = (roomsT b ps).length := by rw [← hus, List.length_map, List.length_map, List.length_map]
    have husi : ∀ (i : Nat) (y : V), us[i]? = some y → ∃ r, (roomsT b ps)[i]? = some r ∧ y = .str (S (rowL r.1 r.2)) := by
      intro i y hy
      rw [← hus, List.getElem?_map, List.getElem?_map, List.getElem?_map] at hy
      rcases hr : (roomsT b ps)[i]? with _ | r
      · rw [hr] at hy
        cases hy
      · rw [hr] at hy
        exact ⟨r, rfl, (Option.some.inj hy).symm⟩
    show tFor _ _ _ _ [some (.str (wr b ps)), some (.str (S (boundL ++ numZ b))), some (.ref Dr), some (.ref x), none, none, none] B3
    generalize htxt : V.str (wr b ps) = txt
    generalize V.str (S (boundL ++ numZ b)) = hd1
    have hrl : ∀ {i : Nat} {r : Code × List (Int × Int)}, (roomsT b ps)[i]? = some r → r ∈ roomsT b ps := fun h => List.mem_of_getElem? h
    generalize hrs : roomsT b ps = rs at *
    refine s_forL (K := K) (a := Dr) (xs := us) (by walk_at "ev") (sq_of hrows3) (fun i σ' B => ∃ (bd : Addr) (kvs : List (Key × V)) (R' : List Code) (D' : Nat) (u4 u5 u6 : Option V), Ex H2 B ∧ SA T.a_Store B x d bd kvs b R' D' (insAll [] ((rs.take i).flatMap (·.2))) ∧ Good b R' D' (insAll [] ((rs.take i).flatMap (·.2))) ∧ σ' = [some txt, some hd1, some (.ref Dr), some (.ref x), u4, u5, u6]) ?_ ?_ ?_ ?_
    · intro B e
      exact ⟨bd, kvs, [(0, 0)], 0, none, none, none, x3'.trans e, by rw [List.take_zero]; exact S3.mono e, by rw [List.take_zero]; exact good_nil, rfl⟩
    · rintro i σ' B hi ⟨_, _, _, _, _, _, _, e, _⟩
      exact sq_of (e.k hrows)
    · rintro i y σ' B hi ⟨bd1, kvs1, R1, D1, u4, u5, u6, e, S1, G1, rfl⟩
      obtain ⟨r, hr, rfl⟩ := husi i y hi
      obtain ⟨i1, i2, i3⟩ := hin r (hrl hr)
      show tFor _ _ _ _ [some txt, some hd1, some (.ref Dr), some (.ref x), some (.str (S (rowL r.1 r.2))), u5, u6] B
      generalize hpre : insAll [] ((rs.take i).flatMap (·.2)) = pre at S1 G1
      have hnext : insAll [] ((rs.take (i + 1)).flatMap (·.2)) = insAll pre r.2 := by
        rw [take_snoc hr, List.flatMap_append, List.flatMap_singleton, ← hpre]
        unfold insAll
        rw [List.foldl_append]
      refine s_forLR (K := K) (r := rpT) (as := r.2) (ev_callLR (by walk_at "ea") (spl_thin i2 i3 i1)) (fun p xs j σ' B => ∃ (bd : Addr) (kvs : List (Key × V)) (R' : List Code) (D' : Nat) (u4 u5 u6 : Option V), Ex H2 B ∧ SA T.a_Store B x d bd kvs b R' D' (insAll pre (r.2.take j)) ∧ Good b R' D' (insAll pre (r.2.take j)) ∧ B p = some (.lst xs) ∧ PR rpT B xs r.2 ∧ σ' = [some txt, some hd1, some (.ref Dr), some (.ref x), u4, u5, u6]) ?_ ?_ ?_ ?_
      · intro p xs C c hp hpx
        exact ⟨bd1, kvs1, R1, D1, _, u5, u6, e.trans c, by rw [List.take_zero]; exact S1.mono c, by rw [List.take_zero]; exact G1, hp, hpx, rfl⟩
      · rintro p xs j σ' C hj ⟨_, _, _, _, _, _, _, _, _, _, hp, _⟩
        exact sq_of hp
      · rintro p xs j y σ' C hj ⟨bd2, kvs2, R2, D2, v4, v5, v6, c, S2, G2, hp, hpx, rfl⟩
        obtain ⟨q, hq, ⟨t, rfl, ht⟩⟩ := pr_get hpx hj
        refine g_pair ht ?_
        have hqm : q ∈ r.2 := List.mem_of_getElem? hq
        have hqn := i2.all q hqm
        show tDrop _ _ [some txt, some hd1, some (.ref Dr), some (.ref x), v4, some (.int q.1), some (.int q.2)] C
        refine S2.g_meth (by walk_at "ev") (by walk_at "ea") fun B4 e4 => ⟨x, d, bd2, kvs2, b, R2, D2, _, q.1, q.2, rfl, S2.mono e4, G2, hb.1, hqn, fun bd' kvs' R' D' B5 x5 S5 G5 => ?_⟩
        have hst : insAll pre (r.2.take (j + 1)) = insT (insAll pre (r.2.take j)) q.1 q.2 := by rw [take_snoc hq, insAll_snoc]
        refine ⟨bd', kvs', R', D', v4, _, _, ex_fresh (c.trans e4) x5 hx2 hd2, by rw [hst]; exact S5, by rw [hst]; exact G5, ?_, ?_, rfl⟩
        · exact ((S2.mono e4).w x5).keep p _ (e4.k hp) trivial
        · exact pr_monoW ((S2.mono e4).w x5) (pr_mono e4 hpx)
      · rintro p xs σ' C hxl ⟨bd2, kvs2, R2, D2, v4, v5, v6, c, S2, G2, hp, hpx, rfl⟩
        rw [hxl, List.take_length] at S2 G2
        exact ⟨bd2, kvs2, R2, D2, v4, v5, v6, c, by rw [hnext]; exact S2, by rw [hnext]; exact G2, rfl⟩
    · rintro σ' B ⟨bd1, kvs1, R1, D1, u4, u5, u6, e, S1, G1, rfl⟩
      have hall : insAll [] ((rs.take us.length).flatMap (·.2)) = ps := by
        rw [husl, List.take_length, ← hrs]
        unfold roomsT
        rw [List.flatMap_map]
        exact G.all hb.1
      rw [hall] at S1 G1
      dsimp only
      have g0 : Ev (tVar 0) [some txt, some hd1, some (.ref Dr), some (.ref x), u4, u5, u6] B (.str (wr b ps)) := by rw [htxt]; walk_at "ev"
      refine q_when (b := !decide (V.str (wr b ps) = V.str (wr b ps))) (et_test (ev_op (ev_call (vs := [.ref x]) (by walk_at "ea") (spv_written S1 G1 hb hv)) g0 (rv_ne rfl))) (fun hb' => ?_) fun _ B6 e6 => ?_
      · rw [decide_eq_true rfl] at hb'
        cases hb'
      · refine s_retk (v := .ref x) (by walk_at "ev") fun B7 e7 => ?_
        exact k x d bd1 kvs1 R1 D1 B7 hx0 hd0 (x1.trans ((e.trans e6).trans e7)) (S1.mono (e6.trans e7)) G1
end


/-! ### what is refused -/
section
variable {P : Program} {w : World} {K : PySem.W.Frag} {mg : Str → Option Value} {base : Heap} [TabCx]
/-- no number of those that are asked for -/
inductive NoNum (ok : Int → Prop) (H : Hp) : V → Prop
  | int (i : Int) : ¬ ok i → NoNum ok H (.int i)
  | bl (b : Bool) : NoNum ok H (.bl b)
  | str (s : Str) : NoNum ok H (.str s)
  | non : NoNum ok H .non
  | lst {a : Addr} {xs : List V} : H a = some (.lst xs) → NoNum ok H (.ref a)
  | tup {a : Addr} {xs : List V} : H a = some (.tup xs) → NoNum ok H (.ref a)
theorem NoNum.mono {ok : Int → Prop} {H H' : Hp} {v : V} (e : Ex H H') (h : NoNum ok H v) : NoNum ok H' v := by
  cases h with
  | int i h => exact .int i h
  | bl b => exact .bl b
  | str s => exact .str s
  | non => exact .non
  | lst h => exact .lst (e.k h)
  | tup h => exact .tup (e.k h)
theorem noNum_ty {ok : Int → Prop} {H : Hp} {v : V} (h : NoNum ok H v) : (∃ i : Int, v = .int i ∧ ¬ ok i) ∨ ∃ n : String, decide (n = "int") = false ∧ ∀ A, Ex H A → TyB K A v n := by
  cases h with
  | int i h => exact .inl ⟨i, rfl, h⟩
  | bl b => exact .inr ⟨"bool", by decide, fun _ _ => .bl b⟩
  | str s => exact .inr ⟨"str", by decide, fun _ _ => .str s⟩
  | non => exact .inr ⟨"NoneType", by decide, fun _ _ => .non⟩
  | lst h => exact .inr ⟨"list", by decide, fun _ e => .lst (sq_of (e.k h))⟩
  | tup h => exact .inr ⟨"tuple", by decide, fun _ e => .tup (st_of (e.k h))⟩
abbrev NmOk : Int → Prop := fun i => 0 ≤ i ∧ i < 256
abbrev BdOk : Int → Prop := fun i => 1 ≤ i ∧ i ≤ 64
/-- it is refused: the way out takes it -/
def Ref (ok : Int → Prop) (C : Addr) (H : Hp) (x : V) (E : XK) : Prop := NoNum ok H x ∧ ∀ B, Ex H B → E (.ref C) none B
theorem Ref.mono {ok : Int → Prop} {C : Addr} {H H' : Hp} {x : V} {E : XK} (e : Ex H H') (h : Ref ok C H x E) : Ref ok C H' x E := ⟨h.1.mono e, fun B b => h.2 B (e.trans b)⟩
def spR (ok : Int → Prop) (C : Addr) : Sp := fun vs H _ E => ∃ x, vs = [x] ∧ Ref ok C H x E
/-- an instance with a store's fields -/
def Obj4 (CS : Addr) (H : Hp) (p : Addr) : Prop := ∃ (dx d bd : Addr) (b D : Nat), H p = some (.ins CS dx (flds b d bd D))
theorem Obj4.mono {CS : Addr} {H H' : Hp} {p : Addr} (e : Ex H H') (h : Obj4 CS H p) : Obj4 CS H' p := by
  obtain ⟨dx, d, bd, b, D, h⟩ := h
  exact ⟨dx, d, bd, b, D, e.k h⟩
def spRM (CS C : Addr) : Sp := fun vs H _ E => ∃ p x, vs = [.ref p, x] ∧ Obj4 CS H p ∧ Ref NmOk C H x E
def spRM3 (CS C : Addr) : Sp := fun vs H _ E => ∃ p x y, vs = [.ref p, x, y] ∧ Obj4 CS H p ∧ Ref NmOk C H x E
/-- what never tells a value -/
def XX (te : TE) (σ : L2.St) (H : Hp) : Prop := ∀ A, Ex H A → ∀ Q : VK, te σ A Q
section
variable {σ : L2.St} {H : Hp} {ta tb te td ty : TE} {t : TA} {sp : Sp} {E : L2.St → XK} {vs : List V} {C p dx : Addr} {fs : List (Str × V)} {m : Str} {D : Ends} {tz : TS} {r : R2} {x : V}
theorem xx_call (h : EvA t σ H vs) (k : ∀ B Q, Ex H B → sp vs B Q (E σ)) : XX (tCallS sp E t) σ H := fun A a Q => h A a _ fun B b => k B Q (a.trans b)
theorem xx_meth (h : Ev te σ H (.ref p)) (hp : H p = some (.ins C dx fs)) (hm : fs.lookup m = none) (ha : EvA t σ H vs) (k : ∀ B Q, Ex H B → sp (.ref p :: vs) B Q (E σ)) : XX (tMethP C m sp E te t) σ H := fun A a Q =>
  h A a _ fun B b => ⟨p, dx, fs, rfl, (a.trans b).k hp, hm, ha B (a.trans b) _ fun G g => k G Q ((a.trans b).trans g)⟩
theorem xx_opL (h : XX ta σ H) : XX (tOp r ta tb) σ H := fun A a _ => h A a _
theorem xx_opR (h : Ev ta σ H x) (i : XX tb σ H) : XX (tOp r ta tb) σ H := fun A a _ => h A a _ fun B b => i B (a.trans b) _
theorem xx_dget (h : Ev td σ H x) (i : XX ty σ H) : XX (tDGet td ty) σ H := fun A a _ => h A a _ fun B b => i B (a.trans b) _
theorem xx_callA {sp : Sp} {dvs : List V} {E : XK} (h : XX te σ H) : XX (tCall sp dvs E (tCons te t)) σ H := fun A a _ => h A a _
theorem xq_asg {g : TG} (h : XX te σ H) : tSeq (tAsg te g) tz D σ H := h H (.refl H) _
theorem xq_drop (h : XX te σ H) : tSeq (tDrop te) tz D σ H := h H (.refl H) _
theorem xs_drop (h : XX te σ H) : tDrop te D σ H := h H (.refl H) _
theorem xs_ret (h : XX te σ H) : tRet te D σ H := h H (.refl H) _
theorem x_meth {CS C : Addr} {E : L2.St → XK} (h : Ev te σ H (.ref p)) (o : Obj4 CS H p) (hx : Ref NmOk C H x (E σ)) (ha : EvA t σ H [x]) (h1 : ¬ ("bound" : Str) = m := by decide +kernel) (h2 : ¬ ("_rooms" : Str) = m := by decide +kernel) (h3 : ¬ ("_board" : Str) = m := by decide +kernel) (h4 : ¬ ("_depth" : Str) = m := by decide +kernel) : XX (tMethP CS m (spRM CS C) E te t) σ H := by
  obtain ⟨dx, d, bd, b, D, o1⟩ := id o
  exact xx_meth h o1 (fl_none h1 h2 h3 h4) ha fun B _ e => ⟨p, x, rfl, o.mono e, hx.mono e⟩
theorem x_meth3 {y : V} {CS C : Addr} {E : L2.St → XK} (h : Ev te σ H (.ref p)) (o : Obj4 CS H p) (hx : Ref NmOk C H x (E σ)) (ha : EvA t σ H [x, y]) (h1 : ¬ ("bound" : Str) = m := by decide +kernel) (h2 : ¬ ("_rooms" : Str) = m := by decide +kernel) (h3 : ¬ ("_board" : Str) = m := by decide +kernel) (h4 : ¬ ("_depth" : Str) = m := by decide +kernel) : XX (tMethP CS m (spRM3 CS C) E te t) σ H := by
  obtain ⟨dx, d, bd, b, D, o1⟩ := id o
  exact xx_meth h o1 (fl_none h1 h2 h3 h4) ha fun B _ e => ⟨p, x, y, rfl, o.mono e, hx.mono e⟩
end
theorem okR_check_name (T : Top K mg) : FnOk P w K mg base (L2N.CX P w) 1 T.a_check_name T.fd_check_name ["name"] (spR NmOk T.a_BadName) := by
  refine okN T.F_check_name sc_check_name (fun vs H Q E h => ?_) (fun cdv A outer s H vs Q E hr h => ?_)
  · obtain ⟨x, rfl, _⟩ := h
    rfl
  · refine ⟨_, (pss_one (ps_if (PW.pt (pw_or (pt_cmpR op_notTyB (pe_callTy (r := rTyp K) call_type1 (by rfl) T.z_type (by decide +kernel) (pa_cons (pv 0) pa_nil)) (pe_bltn (v := .ty "int") (by rfl) T.z_int (by decide +kernel) rfl) (nomark _)) (pw_or1 (pt_not (pt_chain op_le op_lt pe_int (pv 0) (pe_glob (v := .int 256) rfl T.c_NAMES.2 ⟨_, rfl⟩)))))) (pss_one (L2N.ps_raise rfl (L2N.takes_of rfl rfl rfl rfl) (L2N.pmk_own PySem.F.excBase_ValueError T.x_BadName T.g_BadName T.kc_BadName (raises_own T.bc_BadName T.tc_BadName) (by exact rfl)))) pss_nil)), ?_⟩
    obtain ⟨x, rfl, hx, k⟩ := h
    rcases noNum_ty (K := K) hx with ⟨i, rfl, hi⟩ | ⟨n, hn, ty⟩
    · walk_at "when"
      · intro hb B e
        exact k B e
      · intro hb
        have hi : ¬ (0 ≤ i ∧ i < 256) := hi
        simp at hb
        omega
    · refine s_when (b := !decide (n = "int") || true) (et_or (et_test (ev_op (ev_cb (by walk_at "ea") (fun A a Q q => ⟨x, n, rfl, ty A a, q A (.refl A)⟩)) (by walk_at "ev") rv_NT)) fun hb => absurd hb (by simp [hn])) (fun _ B e => k B e) (fun hb => absurd hb (by simp [hn]))
theorem okR_check_bound (T : Top K mg) : FnOk P w K mg base (L2N.CX P w) 1 T.a_check_bound T.fd_check_bound ["bound"] (spR BdOk T.a_BadBound) := by
  refine okN T.F_check_bound sc_check_bound (fun vs H Q E h => ?_) (fun cdv A outer s H vs Q E hr h => ?_)
  · obtain ⟨x, rfl, _⟩ := h
    rfl
  · refine ⟨_, (pss_one (ps_if (PW.pt (pw_or (pt_cmpR op_notTyB (pe_callTy (r := rTyp K) call_type1 (by rfl) T.z_type (by decide +kernel) (pa_cons (pv 0) pa_nil)) (pe_bltn (v := .ty "int") (by rfl) T.z_int (by decide +kernel) rfl) (nomark _)) (pw_or1 (pt_not (pt_chain op_le op_le (pe_glob (v := .int 1) rfl T.c_LEAST_BOUND.2 ⟨_, rfl⟩) (pv 0) (pe_glob (v := .int 64) rfl T.c_GREATEST_BOUND.2 ⟨_, rfl⟩)))))) (pss_one (L2N.ps_raise rfl (L2N.takes_of rfl rfl rfl rfl) (L2N.pmk_own PySem.F.excBase_ValueError T.x_BadBound T.g_BadBound T.kc_BadBound (raises_own T.bc_BadBound T.tc_BadBound) (by exact rfl)))) pss_nil)), ?_⟩
    obtain ⟨x, rfl, hx, k⟩ := h
    rcases noNum_ty (K := K) hx with ⟨i, rfl, hi⟩ | ⟨n, hn, ty⟩
    · walk_at "when"
      · intro hb B e
        exact k B e
      · intro hb
        have hi : ¬ (1 ≤ i ∧ i ≤ 64) := hi
        simp at hb
        omega
    · refine s_when (b := !decide (n = "int") || true) (et_or (et_test (ev_op (ev_cb (by walk_at "ea") (fun A a Q q => ⟨x, n, rfl, ty A a, q A (.refl A)⟩)) (by walk_at "ev") rv_NT)) fun hb => absurd hb (by simp [hn])) (fun _ B e => k B e) (fun hb => absurd hb (by simp [hn]))
theorem okR_mixed (T : Top K mg) : FnOk P w K mg base (L2N.CX P w) 2 T.a_mixed T.fd_mixed ["name"] (spR NmOk T.a_BadName) := by
  refine okN T.F_mixed sc_mixed (fun vs H Q E h => ?_) (fun cdv A outer s H vs Q E hr h => ?_)
  · obtain ⟨x, rfl, _⟩ := h
    rfl
  · refine ⟨_, (pss_cons (ps_expr (pe_callS (okR_check_name T) (hr.mono (by decide)) rfl T.g_check_name T.F_check_name.kp T.b_check_name (fun σ => L2N.passAt (L2N.takes_of rfl rfl rfl rfl) σ) (pa_cons (pv 0) pa_nil)))
      (pss_one (ps_ret (pe_op op_mod (pe_op op_add (pe_op op_mul (pe_glob (v := .int 171) rfl T.c_FACTOR.2 ⟨_, rfl⟩) (pv 0)) (pe_glob (v := .int 37) rfl T.c_SHIFT.2 ⟨_, rfl⟩)) (pe_glob (v := .int 256) rfl T.c_NAMES.2 ⟨_, rfl⟩))))), ?_⟩
    obtain ⟨x, rfl, hx⟩ := h
    exact xq_drop (xx_call (vs := [x]) (by walk_at "ea") fun B _ b => ⟨x, rfl, hx.mono b⟩)
theorem okR_m__place_of (T : Top K mg) : FnOk P w K mg base (L2N.CX P w) 3 T.a_m__place_of T.fd_m__place_of ["self", "name"] (spRM T.a_Store T.a_BadName) := by
  refine okN T.F_m__place_of sc_m__place_of (fun vs H Q E h => ?_) (fun cdv A outer s H vs Q E hr h => ?_)
  · obtain ⟨p, x, rfl, _⟩ := h
    rfl
  · refine ⟨_, (pss_one (ps_ret (pe_op op_shr (pe_callS (okR_mixed T) (hr.mono (by decide)) rfl T.g_mixed T.F_mixed.kp T.b_mixed (fun σ => L2N.passAt (L2N.takes_of rfl rfl rfl rfl) σ) (pa_cons (pv 1) pa_nil)) (pe_op op_sub (pe_glob (v := .int 8) rfl T.c_SIGNS.2 ⟨_, rfl⟩) (pe_fld (pv 0) rfl))))), ?_⟩
    obtain ⟨p, x, rfl, _, hx⟩ := h
    exact xs_ret (xx_opL (xx_call (vs := [x]) (by walk_at "ea") fun B _ b => ⟨x, rfl, hx.mono b⟩))
theorem okR_m__bits_of (T : Top K mg) : FnOk P w K mg base (L2N.CX P w) 4 T.a_m__bits_of T.fd_m__bits_of ["self", "name"] (spRM T.a_Store T.a_BadName) := by
  refine okN T.F_m__bits_of sc_m__bits_of (fun vs H Q E h => ?_) (fun cdv A outer s H vs Q E hr h => ?_)
  · obtain ⟨p, x, rfl, _⟩ := h
    rfl
  · refine ⟨_, (pss_one (ps_ret (pe_ix (r := rIxL K) ix_list (pe_fld (pv 0) rfl) (pe_methP (pv 0) T.cl_Store T.M_m__place_of (okR_m__place_of T) (hr.mono (by decide)) T.b_m__place_of (fun σ => L2N.passAt (L2N.takes_of rfl rfl rfl rfl) σ) (pa_cons (pv 1) pa_nil)) (fun _ _ => rfl)))), ?_⟩
    obtain ⟨p, x, rfl, o, hx⟩ := h
    obtain ⟨dx, d, bd, b, D, o1⟩ := id o
    exact xs_ret (xx_opR (x := .ref bd) (ev_fld T.cl_Store T.d_Store.board (by walk_at "ev") o1 fl_board) (x_meth (by walk_at "ev") o hx (by walk_at "ea")))
theorem okR_m_put (T : Top K mg) : FnOk P w K mg base (L2N.CX P w) 8 T.a_m_put T.fd_m_put ["self", "name", "value"] (spRM3 T.a_Store T.a_BadName) := by
  refine okN T.F_m_put sc_m_put (fun vs H Q E h => ?_) (fun cdv A outer s H vs Q E hr h => ?_)
  · obtain ⟨p, x, y, rfl, _⟩ := h
    rfl
  · refine ⟨_, (pss_cons (ps_set (i := 3) sc_m_put.nd rfl (Or.inl rfl) (pe_methP (pv 0) T.cl_Store T.M_m__bits_of (okR_m__bits_of T) (hr.mono (by decide)) T.b_m__bits_of (fun σ => L2N.passAt (L2N.takes_of rfl rfl rfl rfl) σ) (pa_cons (pv 1) pa_nil)))
      (pss_cons (ps_set (i := 4) sc_m_put.nd rfl (Or.inl rfl) (by exact (pe_dget (hu_of hr) (pe_fld (pv 0) rfl) (pv 3) (fun _ _ => rfl))))
      (pss_cons (ps_set (i := 5) sc_m_put.nd rfl (Or.inl rfl) (pe_call (ok_value_in T) (hr.mono (by decide)) rfl T.g_value_in T.F_value_in.kp T.b_value_in .nil pass0 (pa_cons (pv 4) (pa_cons (pv 1) pa_nil))))
      (pss_cons (ps_dput (hu_of hr) (pe_fld (pv 0) rfl) (pv 3) (pe_call (ok_with_thing T) (hr.mono (by decide)) rfl T.g_with_thing T.F_with_thing.kp T.b_with_thing .nil pass0 (pa_cons (pv 4) (pa_cons (pv 1) (pa_cons (pv 2) pa_nil)))) rfl)
      (pss_cons (ps_expr (pe_meth (pv 0) T.cl_Store T.M_m__part_for (ok_m__part_for T) (hr.mono (by decide)) T.b_m__part_for .nil pass0 (pa_cons (pv 1) pa_nil)))
      (pss_one (ps_ret (pv 5)))))))), ?_⟩
    obtain ⟨p, x, y, rfl, o, hx⟩ := h
    exact xq_asg (x_meth (by walk_at "ev") o hx (by walk_at "ea"))
theorem okR_m_find (T : Top K mg) : FnOk P w K mg base (L2N.CX P w) 5 T.a_m_find T.fd_m_find ["self", "name"] (spRM T.a_Store T.a_BadName) := by
  refine okN T.F_m_find sc_m_find (fun vs H Q E h => ?_) (fun cdv A outer s H vs Q E hr h => ?_)
  · obtain ⟨p, x, rfl, _⟩ := h
    rfl
  · refine ⟨_, (pss_one (ps_ret (pe_call (ok_value_in T) (hr.mono (by decide)) rfl T.g_value_in T.F_value_in.kp T.b_value_in .nil pass0 (pa_cons (by exact (pe_dget (hu_of hr) (pe_fld (pv 0) rfl) (pe_methP (pv 0) T.cl_Store T.M_m__bits_of (okR_m__bits_of T) (hr.mono (by decide)) T.b_m__bits_of (fun σ => L2N.passAt (L2N.takes_of rfl rfl rfl rfl) σ) (pa_cons (pv 1) pa_nil)) (fun _ _ => rfl))) (pa_cons (pv 1) pa_nil))))), ?_⟩
    obtain ⟨p, x, rfl, o, hx⟩ := h
    obtain ⟨dx, d, bd, b, D, o1⟩ := id o
    exact xs_ret (xx_callA (xx_dget (x := .ref d) (ev_fld T.cl_Store T.d_Store.rooms (by walk_at "ev") o1 fl_rooms) (x_meth (by walk_at "ev") o hx (by walk_at "ea"))))
theorem okR_m_look (T : Top K mg) : FnOk P w K mg base (L2N.CX P w) 4 T.a_m_look T.fd_m_look ["self", "name"] (spRM T.a_Store T.a_BadName) := by
  refine okN T.F_m_look sc_m_look (fun vs H Q E h => ?_) (fun cdv A outer s H vs Q E hr h => ?_)
  · obtain ⟨p, x, rfl, _⟩ := h
    rfl
  · refine ⟨_, (pss_cons (ps_set (i := 2) sc_m_look.nd rfl (Or.inl rfl) (pe_methP (pv 0) T.cl_Store T.M_m__place_of (okR_m__place_of T) (hr.mono (by decide)) T.b_m__place_of (fun σ => L2N.passAt (L2N.takes_of rfl rfl rfl rfl) σ) (pa_cons (pv 1) pa_nil)))
      (pss_cons (ps_set (i := 3) sc_m_look.nd rfl (Or.inl rfl) (pe_ix (r := rIxL K) ix_list (pe_fld (pv 0) rfl) (pv 2) (fun _ _ => rfl)))
      (pss_one (ps_ret (pe_tup (pa_cons (pv 2) (pa_cons (pv 3) (pa_cons (pe_callB (r := rLen K) call_len_seq (by rfl) T.z_len (by decide +kernel) (pa_cons (by exact (pe_dget (hu_of hr) (pe_fld (pv 0) rfl) (pv 3) (fun _ _ => rfl))) pa_nil)) pa_nil)))))))), ?_⟩
    obtain ⟨p, x, rfl, o, hx⟩ := h
    exact xq_asg (x_meth (by walk_at "ev") o hx (by walk_at "ea"))
theorem okR_m_take (T : Top K mg) (TB : Tabs base T) : FnOk P w K mg base (L2N.CX P w) 6 T.a_m_take T.fd_m_take ["self", "name"] (spRM T.a_Store T.a_BadName) := by
  refine okN T.F_m_take sc_m_take (fun vs H Q E h => ?_) (fun cdv A outer s H vs Q E hr h => ?_)
  · obtain ⟨p, x, rfl, _⟩ := h
    rfl
  · refine ⟨_, (pss_cons (ps_set (i := 2) sc_m_take.nd rfl (Or.inl rfl) (pe_methP (pv 0) T.cl_Store T.M_m__bits_of (okR_m__bits_of T) (hr.mono (by decide)) T.b_m__bits_of (fun σ => L2N.passAt (L2N.takes_of rfl rfl rfl rfl) σ) (pa_cons (pv 1) pa_nil)))
      (pss_cons (ps_set (i := 3) sc_m_take.nd rfl (Or.inl rfl) (by exact (pe_dget (hu_of hr) (pe_fld (pv 0) rfl) (pv 2) (fun _ _ => rfl))))
      (pss_cons (ps_set (i := 4) sc_m_take.nd rfl (Or.inl rfl) (pe_call (ok_value_in T) (hr.mono (by decide)) rfl T.g_value_in T.F_value_in.kp T.b_value_in .nil pass0 (pa_cons (pv 3) (pa_cons (pv 1) pa_nil))))
      (pss_cons (ps_if (pt_cmpR op_isN (pv 4) pe_non (nomark _)) (pss_one (L2N.ps_raise rfl (L2N.takes_of rfl rfl rfl rfl) (L2N.pmk_own PySem.F.excBase_ValueError T.x_NoThing T.g_NoThing T.kc_NoThing (raises_own T.bc_NoThing T.tc_NoThing) (by exact rfl)))) pss_nil)
      (pss_cons (ps_dput (hu_of hr) (pe_fld (pv 0) rfl) (pv 2) (pe_call (ok_without_thing T) (hr.mono (by decide)) rfl T.g_without_thing T.F_without_thing.kp T.b_without_thing .nil pass0 (pa_cons (pv 3) (pa_cons (pv 1) pa_nil))) rfl)
      (pss_cons (ps_expr (pe_meth (pv 0) T.cl_Store T.M_m__join_from (ok_m__join_from T TB) (hr.mono (by decide)) T.b_m__join_from .nil pass0 (pa_cons (pv 2) pa_nil)))
      (pss_cons (ps_expr (pe_meth0 (pv 0) T.cl_Store T.M_m__halve_board (ok_m__halve_board T) (hr.mono (by decide)) T.b_m__halve_board .nil pass0))
      (pss_one (ps_ret (pv 4)))))))))), ?_⟩
    obtain ⟨p, x, rfl, o, hx⟩ := h
    exact xq_asg (x_meth (by walk_at "ev") o hx (by walk_at "ea"))
def spRInit : Addr → Addr → Sp := fun CS C vs H _ E => ∃ p dx x, vs = [.ref p, x] ∧ H p = some (.ins CS dx []) ∧ Ref BdOk C H x E
theorem okR_m___init__ (T : Top K mg) : FnOk P w K mg base (L2N.CX P w) 2 T.a_m___init__ T.fd_m___init__ ["self", "bound"] (spRInit T.a_Store T.a_BadBound) := by
  refine okN T.F_m___init__ sc_m___init__ (fun vs H Q E h => ?_) (fun cdv A outer s H vs Q E hr h => ?_)
  · obtain ⟨p, dx, x, rfl, _⟩ := h
    rfl
  · refine ⟨_, (pss_cons (ps_expr (pe_callS (okR_check_bound T) (hr.mono (by decide)) rfl T.g_check_bound T.F_check_bound.kp T.b_check_bound (fun σ => L2N.passAt (L2N.takes_of rfl rfl rfl rfl) σ) (pa_cons (pv 1) pa_nil)))
      (pss_cons (ps_fld (pv 0) (pv 1) rfl)
      (pss_cons (ps_fld (pv 0) (pe_disp (pps_cons pe_str (pe_lst pa_nil) pps_nil) (by rfl) (by rfl) (fun z => by cases z) (by decide)) rfl)
      (pss_cons (ps_fld (pv 0) (pe_lst (pa_cons pe_str pa_nil)) rfl)
      (pss_one (ps_fld (pv 0) pe_int rfl)))))), ?_⟩
    obtain ⟨p, dx, x, rfl, _, hx⟩ := h
    exact xq_drop (xx_call (vs := [x]) (by walk_at "ea") fun B _ b => ⟨x, rfl, hx.mono b⟩)
/-- one promise or the other, where the one raises nothing -/
theorem FnOk.or0 {k : Nat} {f : Addr} {fd : FuncData} {ps : List Str} {sp sp' : Sp} (F : FnOk P w K mg base CX0 k f fd ps sp) (G : FnOk P w K mg base (L2N.CX P w) k f fd ps sp') : FnOk P w K mg base (L2N.CX P w) k f fd ps (fun vs H Q E => sp vs H Q E ∨ sp' vs H Q E) :=
  ⟨fun vs H Q E h => h.elim (F.len vs H Q E) (G.len vs H Q E), fun A outer s H args us vs Q E hr e0 hb r h => h.elim (fun h => codeAny_mono (F.run A outer s H args us vs Q E hr e0 hb r h) fun r s' q => by
    cases r with
    | error e => exact q.elim
    | ok f => cases f <;> exact q) fun h => G.run A outer s H args us vs Q E hr e0 hb r h⟩
def spAsked (CS C : Addr) : Sp := fun vs H _ E => ∃ (p : Addr) (y : Int) (x : V), vs = [.ref p, .int y, x] ∧ Obj4 CS H p ∧ Ref NmOk C H x E
theorem okR_l_asked (T : Top K mg) (TB : Tabs base T) : FnOk P w K mg base (L2N.CX P w) 9 T.a_l_asked T.fd_l_asked ["_law_store", "_law_way", "_law_thing"] (spAsked T.a_Store T.a_BadName) := by
  refine okN T.F_l_asked sc_l_asked (fun vs H Q E h => ?_) (fun cdv A outer s H vs Q E hr h => ?_)
  · obtain ⟨p, y, x, rfl, _⟩ := h
    rfl
  · refine ⟨_, (pss_cons (ps_if (pt_cmpR op_eq (pv 1) pe_int (nomark _)) (pss_one (ps_ret (pe_methP (pv 0) T.cl_Store T.M_m_put (okR_m_put T) (hr.mono (by decide)) T.b_m_put (fun σ => L2N.passAt (L2N.takes_of rfl rfl rfl rfl) σ) (pa_cons (pv 2) (pa_cons pe_int pa_nil))))) pss_nil)
      (pss_cons (ps_if (pt_cmpR op_eq (pv 1) pe_int (nomark _)) (pss_one (ps_ret (pe_methP (pv 0) T.cl_Store T.M_m_take (okR_m_take T TB) (hr.mono (by decide)) T.b_m_take (fun σ => L2N.passAt (L2N.takes_of rfl rfl rfl rfl) σ) (pa_cons (pv 2) pa_nil)))) pss_nil)
      (pss_cons (ps_if (pt_cmpR op_eq (pv 1) pe_int (nomark _)) (pss_one (ps_ret (pe_methP (pv 0) T.cl_Store T.M_m_find (okR_m_find T) (hr.mono (by decide)) T.b_m_find (fun σ => L2N.passAt (L2N.takes_of rfl rfl rfl rfl) σ) (pa_cons (pv 2) pa_nil)))) pss_nil)
      (pss_one (ps_ret (pe_methP (pv 0) T.cl_Store T.M_m_look (okR_m_look T) (hr.mono (by decide)) T.b_m_look (fun σ => L2N.passAt (L2N.takes_of rfl rfl rfl rfl) σ) (pa_cons (pv 2) pa_nil))))))), ?_⟩
    obtain ⟨p, y, x, rfl, o, hx⟩ := h
    walk_at "when"
    · intro _ B b
      exact xs_ret (x_meth3 (y := .int 5) (by walk_at "ev") (o.mono b) (hx.mono b) (by walk_at "ea"))
    intro _ B b
    walk_at "when"
    · intro _ B2 b2
      exact xs_ret (x_meth (by walk_at "ev") (o.mono (b.trans b2)) (hx.mono (b.trans b2)) (by walk_at "ea"))
    intro _ B2 b2
    walk_at "when"
    · intro _ B3 b3
      exact xs_ret (x_meth (by walk_at "ev") (o.mono ((b.trans b2).trans b3)) (hx.mono ((b.trans b2).trans b3)) (by walk_at "ea"))
    intro _ B3 b3
    exact xs_ret (x_meth (by walk_at "ev") (o.mono ((b.trans b2).trans b3)) (hx.mono ((b.trans b2).trans b3)) (by walk_at "ea"))
end


section
variable {P : Program} {w : World} {K : PySem.W.Frag} {mg : Str → Option Value} {base : Heap} [TabCx]
def rpB : Rp Bool := ⟨fun _ _ v b => v = .bl b, fun _ h => h, fun h _ => h, fun _ _ h => h⟩
def encB : Enc rpB (fun _ => True) := ⟨PyData.bool, fun h => by rw [show _ = V.bl _ from h]; exact .bl _, fun _ => rfl, 0, fun _ => by simp [PyData.depth]⟩
def Zx (C : Addr) (p : Addr × Obj) : Prop := Zc (.ref C) none p.2
def spAlone (j : Nat) (a : Addr) : Sp := fun vs H Q _ => vs = [.ref a, .int (j : Int)] ∧ RetV (.bl true) H Q
theorem four_bools : ∀ j : Nat, j < 4 → PyData.eqv (.list [.bool (decide (j = 0)), .bool (decide (j = 1)), .bool (decide (j = 2)), .bool (decide (j = 3))]) (.list (((List.range 4).map fun i => decide (V.int ((i : Nat) : Int) = V.int (j : Int))).map PyData.bool)) = true := by
  intro j hj
  have e : ∀ i : Nat, decide (V.int ((i : Nat) : Int) = V.int (j : Int)) = decide (j = i) := fun i => by rw [decide_int]; exact decide_eq_decide.mpr (by omega)
  simp only [e]
  rcases (by omega : j = 0 ∨ j = 1 ∨ j = 2 ∨ j = 3) with rfl | rfl | rfl | rfl <;> decide +kernel
set_option maxHeartbeats 1000000 in
theorem ok_l_alone (T : Top K mg) {C : Addr} {j : Nat} (hj : j < 4) (hX : ExcC K C) (h0 : PySem.W.kitOne K (.ref C) (.ref T.a_BadName) = some (decide (j = 0))) (h1 : PySem.W.kitOne K (.ref C) (.ref T.a_BadBound) = some (decide (j = 1))) (h2 : PySem.W.kitOne K (.ref C) (.ref T.a_NoThing) = some (decide (j = 2))) (h3 : PySem.W.kitOne K (.ref C) (.ref T.a_NoStore) = some (decide (j = 3))) (hv : PySem.W.kitOne K (.ref C) (.type "ValueError") = some true) :
    FnHZ P w K mg base CX0 1 T.a_l_alone T.fd_l_alone ["_law_e", "_law_which"] (Zx C) (spAlone j) := by
  obtain ⟨oc, od, kV, doc, pm, an, cdv, ct, osl, hfd, lk, hcd⟩ := T.F_l_alone.ex
  have hfd' : T.fd_l_alone = _ := hfd
  rw [hfd']
  rw [hfd] at lk
  refine fn_ofHZ lk hcd sc_l_alone (fun a vs H Q E h => ?_) fun A outer s H vs Q E p hot hz hr h => ?_
  · obtain ⟨rfl, _⟩ := h
    rfl
  · obtain ⟨rfl, k⟩ := h
    obtain ⟨hh, vsx, hdx, hvx⟩ := hot
    have isE := call_isN (X := L2H.cxH CX0 P w K mg base n_l_alone "_law_alone" (defScope s_l_alone) T.a_l_alone cdv A outer s H E p) (p := p) (D := C) hh rfl rfl hX hz ⟨vsx, hdx⟩
    have hotc : L2H.HotC (L2H.cxH CX0 P w K mg base n_l_alone "_law_alone" (defScope s_l_alone) T.a_l_alone cdv A outer s H E p).nox := ⟨p, ⟨hh, vsx, hdx, hvx⟩, List.mem_singleton.mpr rfl⟩
    refine ⟨_, PSs.nox (pss_cons (ps_set (i := 2) sc_l_alone.nd rfl (Or.inl rfl) (pe_lst (pa_cons (pe_callB isE (by rfl) T.z_isinstance (by decide +kernel) (pa_cons (pv 0) (pa_cons (pe_glob (v := .ref T.a_BadName) rfl T.g_BadName rfl) pa_nil))) (pa_cons (pe_callB isE (by rfl) T.z_isinstance (by decide +kernel) (pa_cons (pv 0) (pa_cons (pe_glob (v := .ref T.a_BadBound) rfl T.g_BadBound rfl) pa_nil))) (pa_cons (pe_callB isE (by rfl) T.z_isinstance (by decide +kernel) (pa_cons (pv 0) (pa_cons (pe_glob (v := .ref T.a_NoThing) rfl T.g_NoThing rfl) pa_nil))) (pa_cons (pe_callB isE (by rfl) T.z_isinstance (by decide +kernel) (pa_cons (pv 0) (pa_cons (pe_glob (v := .ref T.a_NoStore) rfl T.g_NoStore rfl) pa_nil))) pa_nil))))))
      (pss_one (ps_ret (pe_and (pe_callB isE (by rfl) T.z_isinstance (by decide +kernel) (pa_cons (pv 0) (pa_cons (pe_bltn (v := .ty "ValueError") (by rfl) T.z_ValueError (by decide +kernel) rfl) pa_nil))) (pe_one (pe_cmpR (r := rEqD K) (op_eqD (by have z := hr.un; show (A.deeper (PyProof.Rows.envOfC "_law_alone" (defScope s_l_alone) s.heap.objs.size T.a_l_alone cdv)).units + 64 < cLine; omega)) (pv 2) (pe_lcH (own := [("_law_k", 3)]) (g := gName 3) (tt := tYes) hotc sc_l_alone.nd (L2H.pi_range1H (by rfl) T.z_range (pa_cons pe_int pa_nil)) (blkOk_by (N := n_l_alone) (sc := defScope s_l_alone) (by decide +kernel)) (fun _ _ _ _ _ => pg_name (i := 3) sc_l_alone.nd rfl (Or.inl rfl)) (fun _ _ _ _ _ => pts_nil) (fun _ _ _ _ _ => (pe_cmpR op_eq (pv 3) (pv 1) (nomark _)))) (nomark _))))))), ?_⟩
    have is1 : ∀ (c : V) (cv : Value) (b : Bool) (H : Hp), (∀ u, RelV c u → u = cv) → PySem.W.kitOne K (.ref C) cv = some b → RC (rIsE K C p.1) [.ref p.1, c] H (.bl b) := fun c cv b H h1 h2 A _ Q q => ⟨c, cv, b, rfl, h1, h2, q A (.refl A)⟩
    refine q_asgG (eg_lst (vs := [.bl (decide (j = 0)), .bl (decide (j = 1)), .bl (decide (j = 2)), .bl (decide (j = 3))]) (ea_cons (ev_cb (by walk_at "ea") (is1 (.ref T.a_BadName) (.ref T.a_BadName) _ _ (fun _ h => h) h0)) (ea_cons (ev_cb (by walk_at "ea") (is1 (.ref T.a_BadBound) (.ref T.a_BadBound) _ _ (fun _ h => h) h1)) (ea_cons (ev_cb (by walk_at "ea") (is1 (.ref T.a_NoThing) (.ref T.a_NoThing) _ _ (fun _ h => h) h2)) (ea_cons (ev_cb (by walk_at "ea") (is1 (.ref T.a_NoStore) (.ref T.a_NoStore) _ _ (fun _ h => h) h3)) ea_nil)))) (by show 4 ≤ 100000; decide)) ?_
    rintro v B e ⟨pk, rfl, _, hpk⟩
    show tRet _ _ [some (.ref p.1), some (.int (j : Int)), some (.ref pk), none] B
    refine s_retk (v := .bl true) (ev_is (ev_andV (a := true) (b := true) (ev_cb (by walk_at "ea") (is1 (.ty "ValueError") (.type "ValueError") _ _ (fun _ h => h) hv)) fun _ => ?_) rfl) (k.mono e)
    have hL : EvLR rpB (tLc (iRng1 (tCons (tC (.int 4)) tNil)) (gName 3) tYes (tOp rEq (tVar 3) (tVar 1)) [3]) [some (.ref p.1), some (.int (j : Int)), some (.ref pk), none] B (((List.range 4).filter fun _ => true).map fun i => decide (V.int ((i : Nat) : Int) = V.int (j : Int))) := by
      refine lcRR (r' := rpB) (n := 4) (fun _ => true) (fun i => decide (V.int ((i : Nat) : Int) = V.int (j : Int))) (show EvA _ _ _ [.int 4] by walk_at "ea") (by decide) (fun _ => rfl) ?_ ?_
      · intro i H4 e4 hi
        exact fun H5 e5 Q' q' => q' H5 (.refl H5)
      · intro i H4 F e4 _ hi _
        exact ee_var (v := .bl (decide (V.int ((i : Nat) : Int) = V.int (j : Int)))) (by walk_at "ev") rfl
    rw [List.filter_eq_self.mpr (fun _ _ => rfl)] at hL
    refine ev_opR (ev_var rfl) hL ?_
    rintro A' w' B' a' b' ⟨q, rfl, _, ys, h1, h2⟩ C c Q' k'
    have e0 := four_bools j hj
    refine ⟨.list [.bool (decide (j = 0)), .bool (decide (j = 1)), .bool (decide (j = 2)), .bool (decide (j = 3))], .list (((List.range 4).map fun i => decide (V.int ((i : Nat) : Int) = V.int (j : Int))).map PyData.bool), .lst (sq_of (((a'.trans b').trans c).k hpk)) (.cons (.bl _) (.cons (.bl _) (.cons (.bl _) (.cons (.bl _) .nil)))), .lst (sq_of (c.k h1)) (dp_all encB (pr_mono c h2)), shaped_l encB (show (0 : Nat) ≤ 60 by decide) (as := [decide (j = 0), decide (j = 1), decide (j = 2), decide (j = 3)]) (fun _ _ => trivial), shaped_l encB (show (0 : Nat) ≤ 60 by decide) (fun _ _ => trivial), ?_⟩
    rw [e0]
    exact k' C (.refl C)
end
/-! ### what takes a refusal -/
section
variable {P : Program} {w : World} {K : PySem.W.Frag} {mg : Str → Option Value} {base : Heap} [TabCx]
theorem ev_alone {σ : L2.St} {H : Hp} {a : Addr} {j : Nat} {E : L2.St → XK} {ta : TA} (h : EvA ta σ H [.ref a, .int (j : Int)]) : Ev (tCallS (spAlone j a) E ta) σ H (.bl true) := fun A a Q q => h A a _ fun B b => ⟨rfl, fun C c => q C (b.trans c)⟩
theorem rc_intB1 {H : Hp} {b : Bool} : RC (fun vs H Q => (∃ i, vs = [V.int i] ∧ Q (.int i) H) ∨ ∃ k, vs = [V.bl k] ∧ Q (.int (if k then 1 else 0)) H) [.bl b] H (.int (if b then 1 else 0)) := fun A _ Q q => .inr ⟨b, rfl, q A (.refl A)⟩
abbrev tIntAlone (j : Nat) (i : Nat) (a : Addr) : TE := tCB (fun vs H Q => (∃ i, vs = [V.int i] ∧ Q (.int i) H) ∨ ∃ k, vs = [V.bl k] ∧ Q (.int (if k then 1 else 0)) H) (tCons (tCallS (spAlone j a) (fun _ _ _ _ => False) (tCons (tVar i) (tCons (tC (.int (j : Int))) tNil))) tNil)
def spRefused (CS : Addr) : Sp := fun vs H Q _ => ∃ (p : Addr) (y : Int) (x : V), vs = [.ref p, .int y, x] ∧ Obj4 CS H p ∧ NoNum NmOk H x ∧ RetV (.bl true) H Q
set_option maxHeartbeats 1000000 in
theorem ok_l_refused (T : Top K mg) (TB : Tabs base T) : FnOk P w K mg base CX0 10 T.a_l_refused T.fd_l_refused ["_law_store", "_law_way", "_law_thing"] (spRefused T.a_Store) := by
  refine T.F_l_refused.ok sc_l_refused (fun vs H Q E h => ?_) (fun cdv A outer s H vs Q E hr h => ?_)
  · obtain ⟨p, y, x, rfl, _⟩ := h
    rfl
  · obtain ⟨p, y, x, rfl, o, hx, k⟩ := h
    refine ⟨_, (pss_cons (ps_set (i := 3) sc_l_refused.nd rfl (Or.inl rfl) pe_int)
      (pss_cons (L2N.ps_try_many rfl rfl takesN0 (tb := fun W => tDrop (tCallS (spAsked T.a_Store T.a_BadName) (WE W) (tCons (tVar 0) (tCons (tVar 1) (tCons (tVar 2) tNil))))) (l := [(.ref T.a_BadName, fun _ _ _ => tAsg (tOp (rI0 fun i j => V.int (i + j)) (tVar 3) (tC (.int 1))) (gName 3))])
          (fun W pn xe tk _ => pss_one (ps_expr (pe_callS (okR_l_asked T TB) (hr.mono (by decide)) rfl T.g_l_asked T.F_l_asked.kp T.b_l_asked (fun σ => L2N.passAt tk σ) (pa_cons (pv 0) (pa_cons (pv 1) (pa_cons (pv 2) pa_nil))))))
          (.cons ⟨rfl, by decide, Or.inl T.g_BadName⟩ (fun a oe cls d pn _ _ => pss_one (ps_set (i := 3) sc_l_refused.nd rfl (Or.inl rfl) (pe_op op_add (pv 3) pe_int))) .nil))
      (pss_cons (L2N.ps_try_as (i := 4) (tb := fun W => tDrop (tCallS (spAsked T.a_Store T.a_BadName) (WE W) (tCons (tVar 0) (tCons (tVar 1) (tCons (tVar 2) tNil))))) (ts := fun a cls d D σ H => (cls = .ref T.a_BadName ∧ d = none) ∧ tAsg (tOp (rI0 fun i j => V.int (i + j)) (tVar 3) (tIntAlone 0 4 a)) (gName 3) D σ H) (Wout := fun _ _ _ _ => False) rfl rfl sc_l_refused.nd rfl rfl ⟨rfl, by decide, Or.inl T.g_RoomError⟩ takesN0
          (fun W pn xe tk _ => pss_one (ps_expr (pe_callS (okR_l_asked T TB) (hr.mono (by decide)) rfl T.g_l_asked T.F_l_asked.kp T.b_l_asked (fun σ => L2N.passAt tk σ) (pa_cons (pv 0) (pa_cons (pv 1) (pa_cons (pv 2) pa_nil))))))
          (fun a oe cls d pn hz hf => pss_if fun hcd => pss_one (ps_set (i := 3) sc_l_refused.nd rfl (Or.inl rfl) (pe_op op_add (pv 3) (pe_callTy call_int1 (by rfl) T.z_int (by decide +kernel) (pa_cons (pe_callHZ (p := (a, oe)) (CX := CX0) (E := fun _ _ _ _ => False) (ok_l_alone T (j := 0) (by decide) T.X_BadName T.k_BadName_BadName T.k_BadName_BadBound T.k_BadName_NoThing T.k_BadName_NoStore T.k_BadName_ValueError) ⟨(L2H.roomH_of (hr.mono (by decide : 1 ≤ 9))).dp, (L2H.roomH_of (hr.mono (by decide : 1 ≤ 9))).un⟩ ⟨rfl, hf.elim fun vs e => ⟨vs, e, hz.2.2 vs e⟩⟩ (List.mem_cons_self) (show Zc (.ref T.a_BadName) none oe from ⟨hcd.1 ▸ hz.1, hcd.2 ▸ hz.2.1⟩) rfl T.g_l_alone T.F_l_alone.kp T.b_l_alone (fun _ _ _ _ _ _ _ h => h) (pa_cons (pv 4) (pa_cons pe_int pa_nil))) pa_nil))))))
      (pss_one (ps_ret (pe_cmpR op_eq (pv 3) pe_int (nomark _))))))), ?_⟩
    refine q_asg (v := .int 0) (by walk_at "ev") ?_
    intro H1 e1
    refine st_nf (t := tSeq _ _) (σ' := [some (.ref p), some (.int y), some x, some (.int 0), none]) rfl ?_
    show tDrop (tCallS (spAsked T.a_Store T.a_BadName) (WE (wMany K _ _ _)) (tCons (tVar 0) (tCons (tVar 1) (tCons (tVar 2) tNil)))) _ [some (.ref p), some (.int y), some x, some (.int 0), none] H1
    refine xs_drop (xx_call (vs := [.ref p, .int y, x]) (by walk_at "ea") fun A _ a => ⟨p, y, x, rfl, o.mono (e1.trans a), hx.mono (e1.trans a), fun B b => ?_⟩)
    refine ⟨true, T.e_BadName_BadName, fun _ a1 ha1 => ?_, fun h => nomatch h⟩
    refine s_asg (v := .int 1) (ev_op (by walk_at "ev") (by walk_at "ev") rv_I0) ?_
    intro H3 e3
    have E3 := ((e1.trans a).trans b).trans e3
    refine st_nf (t := tSeq _ _) (σ' := [some (.ref p), some (.int y), some x, some (.int 1), none]) rfl ?_
    show tDrop (tCallS (spAsked T.a_Store T.a_BadName) (WE (wAs K _ _ _ _ _)) (tCons (tVar 0) (tCons (tVar 1) (tCons (tVar 2) tNil)))) _ [some (.ref p), some (.int y), some x, some (.int 1), none] H3
    refine xs_drop (xx_call (vs := [.ref p, .int y, x]) (by walk_at "ea") fun A4 _ a4 => ⟨p, y, x, rfl, o.mono (E3.trans a4), hx.mono (E3.trans a4), fun B4 b4 => ?_⟩)
    refine ⟨true, T.e_BadName_RoomError, fun _ a2 ha2 => ⟨⟨rfl, rfl⟩, ?_⟩, fun h => nomatch h⟩
    refine st_nf (t := tAsg _ _) (σ' := [some (.ref p), some (.int y), some x, some (.int 1), some (.ref a2)]) rfl ?_
    refine s_asg (v := .int 2) (ev_op (x := .int 1) (y := .int 1) (by walk_at "ev") (ev_is (ev_cb (ea_cons (ev_alone (j := 0) (by walk_at "ea")) ea_nil) rc_intB1) rfl) rv_I0) ?_
    intro H5 e5
    dsimp only
    refine st_nf (t := tRet _) (σ' := [some (.ref p), some (.int y), some x, some (.int 2), none]) rfl ?_
    refine s_retk (v := .bl true) (ev_is (ev_op (by walk_at "ev") (by walk_at "ev") (rv_eq rfl)) (by decide +kernel)) ?_
    exact k.mono (((E3.trans a4).trans b4).trans e5)
def spLacks (C : Addr) : Sp := fun vs H Q _ => ∃ (p d bd : Addr) (kvs : List (Key × V)) (b : Nat) (R : List Code) (D : Nat) (ps : List (Int × Int)) (n : Int), vs = [.ref p, .int n] ∧ SA C H p d bd kvs b R D ps ∧ Good b R D ps ∧ (0 ≤ n ∧ n < 256) ∧ TabsOk H ∧ valT ps n = none ∧ RetV (.bl true) H Q
set_option maxHeartbeats 1000000 in
theorem ok_l_lacks (T : Top K mg) (TB : Tabs base T) : FnOk P w K mg base CX0 7 T.a_l_lacks T.fd_l_lacks ["_law_store", "_law_name"] (spLacks T.a_Store) := by
  refine T.F_l_lacks.ok sc_l_lacks (fun vs H Q E h => ?_) (fun cdv A outer s H vs Q E hr h => ?_)
  · obtain ⟨p, d, bd, kvs, b, R, D, ps, n, rfl, _⟩ := h
    rfl
  · obtain ⟨p, d, bd, kvs, b, R, D, ps, n, rfl, S, G, hn, hT, hv, k⟩ := h
    refine ⟨_, (pss_cons (ps_set (i := 2) sc_l_lacks.nd rfl (Or.inl rfl) pe_int)
      (pss_cons (L2N.ps_try_many rfl rfl takesN0 (tb := fun W => tDrop (tMethP T.a_Store "take" (spTake T.a_Store T.a_NoThing) (WE W) (tVar 0) (tCons (tVar 1) tNil))) (l := [(.ref T.a_NoThing, fun _ _ _ => tAsg (tOp (rI0 fun i j => V.int (i + j)) (tVar 2) (tC (.int 1))) (gName 2))])
          (fun W pn xe tk _ => pss_one (ps_expr (pe_methP (pv 0) T.cl_Store T.M_m_take (ok_m_take T TB) (hr.mono (by decide)) T.b_m_take (fun σ => L2N.passAt tk σ) (pa_cons (pv 1) pa_nil))))
          (.cons ⟨rfl, by decide, Or.inl T.g_NoThing⟩ (fun a oe cls d pn _ _ => pss_one (ps_set (i := 2) sc_l_lacks.nd rfl (Or.inl rfl) (pe_op op_add (pv 2) pe_int))) .nil))
      (pss_cons (L2N.ps_try_as (i := 3) (tb := fun W => tDrop (tMethP T.a_Store "take" (spTake T.a_Store T.a_NoThing) (WE W) (tVar 0) (tCons (tVar 1) tNil))) (ts := fun a cls d D σ H => (cls = .ref T.a_NoThing ∧ d = none) ∧ tAsg (tOp (rI0 fun i j => V.int (i + j)) (tVar 2) (tIntAlone 2 3 a)) (gName 2) D σ H) (Wout := fun _ _ _ _ => False) rfl rfl sc_l_lacks.nd rfl rfl ⟨rfl, by decide, Or.inl T.g_RoomError⟩ takesN0
          (fun W pn xe tk _ => pss_one (ps_expr (pe_methP (pv 0) T.cl_Store T.M_m_take (ok_m_take T TB) (hr.mono (by decide)) T.b_m_take (fun σ => L2N.passAt tk σ) (pa_cons (pv 1) pa_nil))))
          (fun a oe cls d pn hz hf => pss_if fun hcd => pss_one (ps_set (i := 2) sc_l_lacks.nd rfl (Or.inl rfl) (pe_op op_add (pv 2) (pe_callTy call_int1 (by rfl) T.z_int (by decide +kernel) (pa_cons (pe_callHZ (p := (a, oe)) (CX := CX0) (E := fun _ _ _ _ => False) (ok_l_alone T (j := 2) (by decide) T.X_NoThing T.k_NoThing_BadName T.k_NoThing_BadBound T.k_NoThing_NoThing T.k_NoThing_NoStore T.k_NoThing_ValueError) ⟨(L2H.roomH_of (hr.mono (by decide : 1 ≤ 6))).dp, (L2H.roomH_of (hr.mono (by decide : 1 ≤ 6))).un⟩ ⟨rfl, hf.elim fun vs e => ⟨vs, e, hz.2.2 vs e⟩⟩ (List.mem_cons_self) (show Zc (.ref T.a_NoThing) none oe from ⟨hcd.1 ▸ hz.1, hcd.2 ▸ hz.2.1⟩) rfl T.g_l_alone T.F_l_alone.kp T.b_l_alone (fun _ _ _ _ _ _ _ h => h) (pa_cons (pv 3) (pa_cons pe_int pa_nil))) pa_nil))))))
      (pss_one (ps_ret (pe_cmpR op_eq (pv 2) pe_int (nomark _))))))), ?_⟩
    obtain ⟨dx0, hp0⟩ := S.ob
    have tk : ∀ {σ : L2.St} {B : Hp} {E : L2.St → XK} {t : TA} {te : TE}, Ex H B → Ev te σ B (.ref p) → EvA t σ B [.int n] → (∀ C, Ex B C → E σ (.ref T.a_NoThing) none C) → XX (tMethP T.a_Store "take" (spTake T.a_Store T.a_NoThing) E te t) σ B := fun e h1 h2 hk =>
      xx_meth h1 (e.k hp0) (fl_none (by decide +kernel) (by decide +kernel) (by decide +kernel) (by decide +kernel)) h2 fun C _ c => ⟨p, d, bd, kvs, b, R, D, ps, n, rfl, (S.mono e).mono c, G, hn, (e.trans c).tabs hT, .inl ⟨hv, fun C2 c2 => hk C2 (c.trans c2)⟩⟩
    refine q_asg (v := .int 0) (by walk_at "ev") ?_
    intro H1 e1
    refine st_nf (t := tSeq _ _) (σ' := [some (.ref p), some (.int n), some (.int 0), none]) rfl ?_
    show tDrop (tMethP T.a_Store "take" (spTake T.a_Store T.a_NoThing) (WE (wMany K _ _ _)) (tVar 0) (tCons (tVar 1) tNil)) _ [some (.ref p), some (.int n), some (.int 0), none] H1
    refine xs_drop (tk e1 (by walk_at "ev") (by walk_at "ea") fun B b => ?_)
    refine ⟨true, T.e_NoThing_NoThing, fun _ a1 ha1 => ?_, fun h => nomatch h⟩
    refine s_asg (v := .int 1) (ev_op (by walk_at "ev") (by walk_at "ev") rv_I0) ?_
    intro H3 e3
    have E3 := (e1.trans b).trans e3
    refine st_nf (t := tSeq _ _) (σ' := [some (.ref p), some (.int n), some (.int 1), none]) rfl ?_
    show tDrop (tMethP T.a_Store "take" (spTake T.a_Store T.a_NoThing) (WE (wAs K _ _ _ _ _)) (tVar 0) (tCons (tVar 1) tNil)) _ [some (.ref p), some (.int n), some (.int 1), none] H3
    refine xs_drop (tk E3 (by walk_at "ev") (by walk_at "ea") fun B4 b4 => ?_)
    refine ⟨true, T.e_NoThing_RoomError, fun _ a2 ha2 => ⟨⟨rfl, rfl⟩, ?_⟩, fun h => nomatch h⟩
    refine st_nf (t := tAsg _ _) (σ' := [some (.ref p), some (.int n), some (.int 1), some (.ref a2)]) rfl ?_
    refine s_asg (v := .int 2) (ev_op (x := .int 1) (y := .int 1) (by walk_at "ev") (ev_is (ev_cb (ea_cons (ev_alone (j := 2) (by walk_at "ea")) ea_nil) rc_intB1) rfl) rv_I0) ?_
    intro H5 e5
    dsimp only
    refine st_nf (t := tRet _) (σ' := [some (.ref p), some (.int n), some (.int 2), none]) rfl ?_
    refine s_retk (v := .bl true) (ev_is (ev_op (by walk_at "ev") (by walk_at "ev") (rv_eq rfl)) (by decide +kernel)) ?_
    exact k.mono ((E3.trans b4).trans e5)
end


/-! ### a store made of what is handed in -/
section
variable {P : Program} {w : World} {K : PySem.W.Frag} {mg : Str → Option Value} {base : Heap} [TabCx]
def BdGood (x : V) : Prop := ∃ b : Nat, x = .int (b : Int) ∧ 1 ≤ b ∧ b ≤ 64
/-- a good bound, or none -/
def BdIs (g : Bool) (H : Hp) (x : V) : Prop := (g = true ∧ BdGood x) ∨ (g = false ∧ NoNum BdOk H x)
theorem BdIs.mono {g : Bool} {H H' : Hp} {x : V} (e : Ex H H') (h : BdIs g H x) : BdIs g H' x := h.elim .inl fun h => .inr ⟨h.1, h.2.mono e⟩
def spInitX (CS C : Addr) : Sp := fun vs H Q E => spInit CS vs H Q E ∨ spRInit CS C vs H Q E
theorem okX_m___init__ (T : Top K mg) : FnOk P w K mg base (L2N.CX P w) 2 T.a_m___init__ T.fd_m___init__ ["self", "bound"] (spInitX T.a_Store T.a_BadBound) := FnOk.or0 (ok_m___init__ T) (okR_m___init__ T)
theorem x_make {C D : Addr} {E : L2.St → XK} {t : TA} {σ : L2.St} {H : Hp} {x : V} {Q : VK} (h : EvA t σ H [x]) (hb : NoNum BdOk H x) (k : ∀ B, Ex H B → E σ (.ref D) none B) : tMakeP C (spInitX C D) E t σ H Q := h H (.refl H) _ fun B b y dy hy hdy hne => by
  have e : Ex B (upd (upd B dy (.own y)) y (.ins C dy [])) := (Ex.new hdy).trans (.new (by rw [upd_ne (Ne.symm hne)]; exact hy))
  exact .inr ⟨y, dy, x, rfl, upd_same, hb.mono (b.trans e), fun B2 b2 => k B2 ((b.trans e).trans b2)⟩
theorem g_make {C D : Addr} {E : L2.St → XK} {t : TA} {σ : L2.St} {H : Hp} {x : V} {Q : VK} (h : EvA t σ H [x]) (hb : BdGood x) (k : ∀ y B, Ex H B → Q (.ref y) B) : tMakeP C (spInitX C D) E t σ H Q := h H (.refl H) _ fun B b y dy hy hdy hne => by
  obtain ⟨n, rfl, hn⟩ := hb
  have e : Ex B (upd (upd B dy (.own y)) y (.ins C dy [])) := (Ex.new hdy).trans (.new (by rw [upd_ne (Ne.symm hne)]; exact hy))
  exact .inl ⟨y, dy, n, rfl, upd_same, hn, fun d bd kvs B3 hd x3 S3 => ⟨rfl, k y B3 (ex_fresh (b.trans e) x3 (b.dom y hy) (b.dom d (e.dom d hd)))⟩⟩
def spMade : Sp := fun vs H Q _ => ∃ (x : V) (g : Bool), vs = [x] ∧ BdIs g H x ∧ ∀ t B, Ex H B → B t = some (.tup [.bl g, .bl (!g)]) → Q (.ref t) B
set_option maxHeartbeats 1000000 in
theorem ok_l_made (T : Top K mg) : FnOk P w K mg base CX0 4 T.a_l_made T.fd_l_made ["_law_thing"] spMade := by
  refine T.F_l_made.ok sc_l_made (fun vs H Q E h => ?_) (fun cdv A outer s H vs Q E hr h => ?_)
  · obtain ⟨x, g, rfl, _⟩ := h
    rfl
  · obtain ⟨x, g, rfl, hx, k⟩ := h
    refine ⟨_, (pss_cons (ps_set (i := 1) sc_l_made.nd rfl (Or.inl rfl) pe_int)
      (pss_cons (L2N.ps_try_many rfl rfl takesN0 (tb := fun W => tDrop (tMakeP T.a_Store (spInitX T.a_Store T.a_BadBound) (WE W) (tCons (tVar 0) tNil))) (l := [(.ref T.a_BadBound, fun _ _ _ => tAsg (tOp (rI0 fun i j => V.int (i + j)) (tVar 1) (tC (.int 1))) (gName 1))])
          (fun W pn xe tk _ => pss_one (ps_expr (pe_makeP T.mk_Store (okX_m___init__ T) (hr.mono (by decide)) rfl T.g_Store T.b_m___init__ (fun σ => L2N.passAt tk σ) (pa_cons (pv 0) pa_nil))))
          (.cons ⟨rfl, by decide, Or.inl T.g_BadBound⟩ (fun a oe cls d pn _ _ => pss_one (ps_set (i := 1) sc_l_made.nd rfl (Or.inl rfl) (pe_op op_add (pv 1) pe_int))) .nil))
      (pss_cons (L2N.ps_try_as (i := 2) (tb := fun W => tDrop (tMakeP T.a_Store (spInitX T.a_Store T.a_BadBound) (WE W) (tCons (tVar 0) tNil))) (ts := fun a cls d D σ H => (cls = .ref T.a_BadBound ∧ d = none) ∧ tAsg (tOp (rI0 fun i j => V.int (i + j)) (tVar 1) (tIntAlone 1 2 a)) (gName 1) D σ H) (Wout := fun _ _ _ _ => False) rfl rfl sc_l_made.nd rfl rfl ⟨rfl, by decide, Or.inl T.g_RoomError⟩ takesN0
          (fun W pn xe tk _ => pss_one (ps_expr (pe_makeP T.mk_Store (okX_m___init__ T) (hr.mono (by decide)) rfl T.g_Store T.b_m___init__ (fun σ => L2N.passAt tk σ) (pa_cons (pv 0) pa_nil))))
          (fun a oe cls d pn hz hf => pss_if fun hcd => pss_one (ps_set (i := 1) sc_l_made.nd rfl (Or.inl rfl) (pe_op op_add (pv 1) (pe_callTy call_int1 (by rfl) T.z_int (by decide +kernel) (pa_cons (pe_callHZ (p := (a, oe)) (CX := CX0) (E := fun _ _ _ _ => False) (ok_l_alone T (j := 1) (by decide) T.X_BadBound T.k_BadBound_BadName T.k_BadBound_BadBound T.k_BadBound_NoThing T.k_BadBound_NoStore T.k_BadBound_ValueError) ⟨(L2H.roomH_of (hr.mono (by decide : 1 ≤ 3))).dp, (L2H.roomH_of (hr.mono (by decide : 1 ≤ 3))).un⟩ ⟨rfl, hf.elim fun vs e => ⟨vs, e, hz.2.2 vs e⟩⟩ (List.mem_cons_self) (show Zc (.ref T.a_BadBound) none oe from ⟨hcd.1 ▸ hz.1, hcd.2 ▸ hz.2.1⟩) rfl T.g_l_alone T.F_l_alone.kp T.b_l_alone (fun _ _ _ _ _ _ _ h => h) (pa_cons (pv 2) (pa_cons pe_int pa_nil))) pa_nil))))))
      (pss_one (ps_ret (pe_tup (pa_cons (pe_cmpR op_eq (pv 1) pe_int (nomark _)) (pa_cons (pe_cmpR op_eq (pv 1) pe_int (nomark _)) pa_nil)))))))), ?_⟩
    have fin : ∀ (z : Int) (B : Hp) (D : Ends), D.rt = Q → Ex H B → decide (z = 0) = g → decide (z = 2) = (!g) → tRet (tTup (tCons (tOp rEq (tVar 1) (tC (.int 0))) (tCons (tOp rEq (tVar 1) (tC (.int 2))) tNil))) D [some x, some (.int z), none] B := fun z B D hD b h1 h2 => by
      refine s_retG (eg_tup (vs := [.bl (decide (V.int z = V.int 0)), .bl (decide (V.int z = V.int 2))]) (ea_cons (by walk_at "ev") (ea_cons (by walk_at "ev") ea_nil)) (by show 2 ≤ 100000; decide)) ?_
      rintro v B2 b2 ⟨t, rfl, _, ht⟩
      rw [hD]
      refine k t B2 (b.trans b2) ?_
      rw [ht, decide_int, decide_int, h1, h2]
    refine q_asg (v := .int 0) (by walk_at "ev") ?_
    intro H1 e1
    refine st_nf (t := tSeq _ _) (σ' := [some x, some (.int 0), none]) rfl ?_
    show tDrop (tMakeP T.a_Store (spInitX T.a_Store T.a_BadBound) (WE (wMany K _ _ _)) (tCons (tVar 0) tNil)) _ [some x, some (.int 0), none] H1
    rcases hx with ⟨rfl, hx⟩ | ⟨rfl, hx⟩
    · refine g_make (x := x) (by walk_at "ea") hx fun y B b => ?_
      refine st_nf (t := tSeq _ _) (σ' := [some x, some (.int 0), none]) rfl ?_
      show tDrop (tMakeP T.a_Store (spInitX T.a_Store T.a_BadBound) (WE (wAs K _ _ _ _ _)) (tCons (tVar 0) tNil)) _ [some x, some (.int 0), none] B
      refine g_make (x := x) (by walk_at "ea") hx fun y2 B2 b2 => ?_
      exact fin 0 B2 _ rfl ((e1.trans b).trans b2) rfl rfl
    · refine x_make (x := x) (by walk_at "ea") (hx.mono e1) fun B b => ?_
      refine ⟨true, T.e_BadBound_BadBound, fun _ a1 ha1 => ?_, fun h => nomatch h⟩
      refine s_asg (v := .int 1) (ev_op (by walk_at "ev") (by walk_at "ev") rv_I0) ?_
      intro H3 e3
      have E3 := (e1.trans b).trans e3
      refine st_nf (t := tSeq _ _) (σ' := [some x, some (.int 1), none]) rfl ?_
      show tDrop (tMakeP T.a_Store (spInitX T.a_Store T.a_BadBound) (WE (wAs K _ _ _ _ _)) (tCons (tVar 0) tNil)) _ [some x, some (.int 1), none] H3
      refine x_make (x := x) (by walk_at "ea") (hx.mono E3) fun B4 b4 => ?_
      refine ⟨true, T.e_BadBound_RoomError, fun _ a2 ha2 => ⟨⟨rfl, rfl⟩, ?_⟩, fun h => nomatch h⟩
      refine st_nf (t := tAsg _ _) (σ' := [some x, some (.int 1), some (.ref a2)]) rfl ?_
      refine s_asg (v := .int 2) (ev_op (x := .int 1) (y := .int 1) (by walk_at "ev") (ev_is (ev_cb (ea_cons (ev_alone (j := 1) (by walk_at "ea")) ea_nil) rc_intB1) rfl) rv_I0) ?_
      intro H5 e5
      dsimp only
      refine st_nf (t := tRet _) (σ' := [some x, some (.int 2), none]) rfl ?_
      exact fin 2 H5 _ rfl ((E3.trans b4).trans e5) rfl rfl
end
/-! ### what is no name, what is a bound or none -/
section
variable {P : Program} {w : World} {K : PySem.W.Frag} {mg : Str → Option Value} {base : Heap} [TabCx]
def EvAN (ok : Int → Prop) (t : TA) (σ : L2.St) (H : Hp) (n : Nat) : Prop := ∀ A, Ex H A → ∀ Q : List V → Hp → Prop, (∀ vs B, Ex A B → vs.length = n → (∀ v ∈ vs, NoNum ok B v) → Q vs B) → t σ A Q
variable {ok : Int → Prop}
theorem an_nil {σ : L2.St} {H : Hp} : EvAN ok tNil σ H 0 := fun A _ _ q => q [] A (.refl A) rfl (by simp)
theorem an_consG {σ : L2.St} {H : Hp} {te : TE} {tr : TA} {n : Nat} (h : EvG te σ H fun _ v B => NoNum ok B v) (i : EvAN ok tr σ H n) : EvAN ok (tCons te tr) σ H (n + 1) := fun A a Q q =>
  h A a _ fun v B b hv => i B (a.trans b) _ fun vs C c hl hvs => q (v :: vs) C (b.trans c) (by rw [List.length_cons, hl]) fun w hw => by
    rcases List.mem_cons.mp hw with e | e
    · rw [e]
      exact hv.mono c
    · exact hvs w e
theorem an_cons {σ : L2.St} {H : Hp} {te : TE} {tr : TA} {n : Nat} {v : V} (h : Ev te σ H v) (hv : NoNum ok H v) (i : EvAN ok tr σ H n) : EvAN ok (tCons te tr) σ H (n + 1) := an_consG (h.g fun A B a b => hv.mono (a.trans b)) i
theorem eg_lstN {σ : L2.St} {H : Hp} {ta : TA} {n : Nat} (h : EvAN ok ta σ H n) (hn : n ≤ 100000) : EvG (tLst ta) σ H (fun _ v B => ∃ p vs, v = .ref p ∧ B p = some (.lst vs) ∧ vs.length = n ∧ ∀ v ∈ vs, NoNum ok B v) := fun A a Q q =>
  h A a _ fun vs B b hl hv => ⟨by rw [hl]; exact sz_of hn, fun p hp => q _ _ (b.trans (.new hp)) ⟨p, vs, rfl, upd_same, hl, fun v m => (hv v m).mono (.new hp)⟩⟩
theorem eg_ixN {σ : L2.St} {H : Hp} {ta : TA} {tb : TE} {n : Nat} {i : Int} (h : EvAN ok ta σ H n) (hn : n ≤ 100000) (hb : Ev tb σ H (.int i)) (h0 : 0 ≤ i) (h1 : i < (n : Int)) : EvG (tOp (rIxL K) (tLst ta) tb) σ H (fun _ v B => NoNum ok B v) := fun A a Q q =>
  eg_lstN h hn A a _ fun w B b ⟨p, vs, ew, hp, hl, hv⟩ => hb B (a.trans b) _ fun C c => by
    obtain ⟨k, rfl⟩ := Int.eq_ofNat_of_zero_le h0
    have hin : k < vs.length := by omega
    exact ⟨p, vs, (k : Int), vs[k], ew, rfl, sq_of (c.k hp), atI_nat (List.getElem?_eq_getElem hin), q _ C (b.trans c) ((hv _ (List.getElem_mem hin)).mono c)⟩
theorem ev_p20 {σ : L2.St} {B : Hp} : Ev (tOp (rI CPow fun i j => .int (i ^ j.toNat)) (tC (.int 10)) (tC (.int 20))) σ B (.int (10 ^ 20)) := ev_is (ev_op ev_c ev_c (rv_I (show CPow _ _ from ⟨by decide, by decide, by decide⟩))) rfl
theorem mod_b (i : Int) {m : Int} (hm : 0 < m) : 0 ≤ i % m ∧ i % m < m := ⟨Int.emod_nonneg _ (by omega), Int.emod_lt_of_pos _ hm⟩
theorem an_lst1 {σ : L2.St} {H : Hp} {i : Int} : EvG (tLst (tCons (tC (V.int i)) tNil)) σ H fun _ v B => NoNum ok B v := (eg_lst (vs := [.int i]) (ea_cons ev_c ea_nil) (by show 1 ≤ 100000; decide)).imp fun A v B _ _ ⟨p, e, _, h⟩ => e ▸ .lst h
theorem an_tup1 {σ : L2.St} {H : Hp} {i : Int} : EvG (tTup (tCons (tC (V.int i)) tNil)) σ H fun _ v B => NoNum ok B v := (eg_tup (vs := [.int i]) (ea_cons ev_c ea_nil) (by show 1 ≤ 100000; decide)).imp fun A v B _ _ ⟨p, e, _, h⟩ => e ▸ .tup h
def spNone : Sp := fun vs H Q _ => ∃ c : Int, vs = [.int c] ∧ ∀ (x : V) (B : Hp), Ex H B → NoNum NmOk B x → Q x B
theorem ok_l_none (T : Top K mg) : FnOk P w K mg base CX0 1 T.a_l_none T.fd_l_none ["_law_cell"] spNone := by
  refine T.F_l_none.ok sc_l_none (fun vs H Q E h => ?_) (fun cdv A outer s H vs Q E hr h => ?_)
  · obtain ⟨c, rfl, _⟩ := h
    rfl
  · obtain ⟨c, rfl, k⟩ := h
    refine ⟨_, (pss_cons (ps_set (i := 1) sc_l_none.nd rfl (Or.inl rfl) (pe_op op_mod (pe_op op_fdiv (pv 0) pe_int) (pe_op op_pow pe_int pe_int)))
      (pss_one (ps_ret (pe_ix (r := rIxL K) ix_list (pe_lst (pa_cons (pe_op op_sub (pe_un un_neg pe_int) (pv 1)) (pa_cons (pe_op op_add pe_int (pv 1)) (pa_cons pe_bl (pa_cons pe_bl (pa_cons pe_str (pa_cons pe_non (pa_cons (pe_lst (pa_cons pe_int pa_nil)) (pa_cons (pe_tup (pa_cons pe_int pa_nil)) pa_nil))))))))) (pe_op op_mod (pv 0) pe_int) (fun _ _ => rfl))))), ?_⟩
    refine q_asg (v := .int (c / 8 % 10 ^ 20)) (ev_op (x := .int (c / 8)) (y := .int (10 ^ 20)) (by walk_at "ev") ev_p20 (rv_I (show (0 : Int) < 10 ^ 20 by decide))) fun H1 e1 => ?_
    have hf := (mod_b (c / 8) (m := 10 ^ 20) (by decide)).1
    generalize c / 8 % 10 ^ 20 = far at hf
    show tRet _ _ [some (.int c), some (.int far)] H1
    have items : EvAN NmOk _ [some (.int c), some (.int far)] H1 8 := an_cons (te := tOp (rI0 fun i j => V.int (i - j)) (tUn (rU fun i => V.int (-i)) (tC (V.int 1))) (tVar 1)) (v := .int (-1 - far)) (by walk_at "ev") (.int _ fun h => by have h1 : 0 ≤ -1 - far := h.1; omega) (an_cons (te := tOp (rI0 fun i j => V.int (i + j)) (tC (V.int 256)) (tVar 1)) (v := .int (256 + far)) (by walk_at "ev") (.int _ fun h => by have h1 : 256 + far < 256 := h.2; omega) (an_cons ev_c (.bl true) (an_cons ev_c (.bl false) (an_cons ev_c (.str "7") (an_cons ev_c .non (an_consG (an_lst1 (i := 7)) (an_consG (an_tup1 (i := 7)) an_nil)))))))
    have h8 := mod_b c (m := 8) (by decide)
    exact s_retG (eg_ixN items (by decide) (by walk_at "ev") h8.1 h8.2) fun v B e hv => k v B (e1.trans e) hv
def spBoundBy : Sp := fun vs H Q _ => ∃ c : Int, vs = [.int c] ∧ ∀ (x : V) (g : Bool) (B : Hp), Ex H B → BdIs g B x → Q x B
theorem ok_l_bound_by (T : Top K mg) : FnOk P w K mg base CX0 1 T.a_l_bound_by T.fd_l_bound_by ["_law_cell"] spBoundBy := by
  refine T.F_l_bound_by.ok sc_l_bound_by (fun vs H Q E h => ?_) (fun cdv A outer s H vs Q E hr h => ?_)
  · obtain ⟨c, rfl, _⟩ := h
    rfl
  · obtain ⟨c, rfl, k⟩ := h
    refine ⟨_, (pss_cons (ps_if (pt_cmpR op_eq (pe_op op_mod (pv 0) pe_int) pe_int (nomark _)) (pss_cons (ps_set (i := 1) sc_l_bound_by.nd rfl (Or.inl rfl) (pe_op op_mod (pe_op op_fdiv (pv 0) pe_int) (pe_op op_pow pe_int pe_int)))
      (pss_one (ps_ret (pe_ix (r := rIxL K) ix_list (pe_lst (pa_cons (pe_op op_add pe_int (pv 1)) (pa_cons pe_bl (pa_cons pe_bl (pa_cons pe_str (pa_cons pe_non (pa_cons (pe_op op_sub (pe_un un_neg pe_int) (pv 1)) (pa_cons (pe_lst (pa_cons pe_int pa_nil)) (pa_cons (pe_tup (pa_cons pe_int pa_nil)) pa_nil))))))))) (pe_op op_mod (pe_op op_fdiv (pv 0) pe_int) pe_int) (fun _ _ => rfl))))) pss_nil)
      (pss_one (ps_ret (pe_op op_sub (pe_op op_mod (pe_op op_fdiv (pv 0) pe_int) pe_int) pe_int)))), ?_⟩
    walk_at "when"
    · intro hb H2 e2
      refine q_asg (v := .int (c / 32 % 10 ^ 20)) (ev_op (x := .int (c / 32)) (y := .int (10 ^ 20)) (by walk_at "ev") ev_p20 (rv_I (show (0 : Int) < 10 ^ 20 by decide))) fun H1 e1 => ?_
      have hf := (mod_b (c / 32) (m := 10 ^ 20) (by decide)).1
      generalize c / 32 % 10 ^ 20 = far at hf
      show tRet _ _ [some (.int c), some (.int far)] H1
      have items : EvAN BdOk _ [some (.int c), some (.int far)] H1 8 := an_cons (te := tOp (rI0 fun i j => V.int (i + j)) (tC (V.int 69)) (tVar 1)) (v := .int (69 + far)) (by walk_at "ev") (.int _ fun h => by have h1 : 69 + far ≤ 64 := h.2; omega) (an_cons ev_c (.bl true) (an_cons ev_c (.bl false) (an_cons ev_c (.str "3") (an_cons ev_c .non (an_cons (te := tOp (rI0 fun i j => V.int (i - j)) (tUn (rU fun i => V.int (-i)) (tC (V.int 4))) (tVar 1)) (v := .int (-4 - far)) (by walk_at "ev") (.int _ fun h => by have h1 : 1 ≤ -4 - far := h.1; omega) (an_consG (an_lst1 (i := 3)) (an_consG (an_tup1 (i := 3)) an_nil)))))))
      have h8 := mod_b (c / 4) (m := 8) (by decide)
      exact s_retG (eg_ixN items (by decide) (by walk_at "ev") h8.1 h8.2) fun v B e hv => k v false B ((e2.trans e1).trans e) (.inr ⟨rfl, hv⟩)
    · intro hb H2 e2
      have h7 := mod_b (c / 4) (m := 72) (by decide)
      refine s_retk (v := .int (c / 4 % 72 - 3)) (by walk_at "ev") fun B b => ?_
      by_cases hg : 1 ≤ c / 4 % 72 - 3 ∧ c / 4 % 72 - 3 ≤ 64
      · exact k _ true B (e2.trans b) (.inl ⟨rfl, (c / 4 % 72 - 3).toNat, congrArg V.int (by omega), by omega, by omega⟩)
      · exact k _ false B (e2.trans b) (.inr ⟨rfl, .int _ hg⟩)
def spWhole (K : PySem.W.Frag) : Sp := fun vs H Q _ => ∃ (x : V) (n : String) (bi bb : Bool), vs = [x] ∧ (∀ A, Ex H A → TyX K A x (.type n)) ∧ kitB n "int" = some bi ∧ kitB n "bool" = some bb ∧ RetV (.bl (bi && !bb)) H Q
theorem ok_l_whole (T : Top K mg) : FnOk P w K mg base CX0 1 T.a_l_whole T.fd_l_whole ["_law_found"] (spWhole K) := by
  refine T.F_l_whole.ok sc_l_whole (fun vs H Q E h => ?_) (fun cdv A outer s H vs Q E hr h => ?_)
  · obtain ⟨x, n, bi, bb, rfl, _⟩ := h
    rfl
  · obtain ⟨x, n, bi, bb, rfl, ty, hi, hb, k⟩ := h
    refine ⟨_, (pss_one (ps_ret (pe_and (pe_callB (r := rIsi K) call_isi (by rfl) T.z_isinstance (by decide +kernel) (pa_cons (pv 0) (pa_cons (pe_bltn (v := .ty "int") (by rfl) T.z_int (by decide +kernel) rfl) pa_nil))) (pe_one (pe_not (pe_callB (r := rIsi K) call_isi (by rfl) T.z_isinstance (by decide +kernel) (pa_cons (pv 0) (pa_cons (pe_bltn (v := .ty "bool") (by rfl) T.z_bool (by decide +kernel) rfl) pa_nil)))))))), ?_⟩
    exact s_retk (v := .bl (bi && !bb)) (ev_andV (a := bi) (b := !bb) (ev_cb (ea_cons (ev_var (v := x) rfl) (ea_cons ev_c ea_nil)) (rc_isi ty hi)) fun _ => ev_notV (ev_cb (ea_cons (ev_var (v := x) rfl) (ea_cons ev_c ea_nil)) (rc_isi ty hb))) k
theorem spv_wholeI {H : Hp} {i : Int} : SpV (spWhole K) [.int i] H (.bl true) := fun A e Q q E => ⟨_, "int", true, false, rfl, fun _ _ => .base (.int i), by decide +kernel, by decide +kernel, q⟩
theorem spv_wholeN {H : Hp} {ok : Int → Prop} {x : V} (h : NoNum ok H x) : (∃ i, x = .int i ∧ ¬ ok i) ∨ SpV (spWhole K) [x] H (.bl false) := by
  cases h with
  | int i h => exact .inl ⟨i, rfl, h⟩
  | bl b => exact .inr fun A e Q q E => ⟨_, "bool", true, true, rfl, fun _ _ => .base (.bl b), by decide +kernel, by decide +kernel, q⟩
  | str s => exact .inr fun A e Q q E => ⟨_, "str", false, false, rfl, fun _ _ => .base (.str s), by decide +kernel, by decide +kernel, q⟩
  | non => exact .inr fun A e Q q E => ⟨_, "NoneType", false, false, rfl, fun _ _ => .base .non, by decide +kernel, by decide +kernel, q⟩
  | lst h => exact .inr fun A e Q q E => ⟨_, "list", false, false, rfl, fun _ a => .base (.lst (a.k (e.k h))), by decide +kernel, by decide +kernel, q⟩
  | tup h => exact .inr fun A e Q q E => ⟨_, "tuple", false, false, rfl, fun _ a => .base (.tup (a.k (e.k h))), by decide +kernel, by decide +kernel, q⟩
end


/-! ### the law's own -/
def cellN (ns : List Int) (k : Nat) : Int := ns.getD k 0
def spCell [TabCx] (K : PySem.W.Frag) : Sp := fun vs H Q _ => ∃ (a : Addr) (ns : List Int) (k : Nat), vs = [.ref a, .int (k : Int)] ∧ SqL K H a (ns.map V.int) ∧ RetV (.int (cellN ns k)) H Q
def spLawT [TabCx] (K : PySem.W.Frag) : Sp := fun vs H Q _ => ∃ (a : Addr) (ns : List Int), vs = [.ref a] ∧ SqL K H a (ns.map V.int) ∧ ns.length ≤ 63 ∧ TabsOk H ∧ RetV (.bl true) H Q
section
variable {P : Program} {w : World} {K : PySem.W.Frag} {mg : Str → Option Value} {base : Heap} [TabCx]
theorem ok_l_cell_at (T : Top K mg) : FnOk P w K mg base CX0 1 T.a_l_cell_at T.fd_l_cell_at ["_law_script", "_law_k"] (spCell K) := by
  refine T.F_l_cell_at.ok sc_l_cell_at (fun vs H Q E h => ?_) (fun cdv A outer s H vs Q E hr h => ?_)
  · obtain ⟨a, ns, k, rfl, _⟩ := h
    rfl
  · obtain ⟨a, ns, i, rfl, hS, k⟩ := h
    refine ⟨_, (pss_cons (ps_if (pt_cmpR op_lt (pv 1) (pe_callB (r := rLen K) call_len_seq (by rfl) T.z_len (by decide +kernel) (pa_cons (pv 0) pa_nil)) (nomark _)) (pss_one (ps_ret (pe_ix (r := rIxL K) ix_list (pv 0) (pv 1) (fun _ _ => rfl)))) pss_nil)
      (pss_one (ps_ret pe_int))), ?_⟩
    walk_at "when"
    · intro hb H1 e1
      have hlt : i < ns.length := by simpa using hb
      refine s_retk (v := .int (cellN ns i)) (ev_op (by walk_at "ev") (by walk_at "ev") (rv_ixL (ex_l e1 hS) (atI_nat ?_))) (RetV.mono e1 k)
      unfold cellN
      rw [List.getElem?_map, List.getD_eq_getElem?_getD, List.getElem?_eq_getElem hlt]
      rfl
    · intro hb H1 e1
      have hlt : ns.length ≤ i := by simpa using hb
      walk_at "ret"
      have e0 : cellN ns i = 0 := by
        unfold cellN
        rw [List.getD_eq_getElem?_getD, List.getElem?_eq_none hlt]
        rfl
      rw [e0] at k
      exact RetV.mono e1 k
theorem spv_cell {a : Addr} {ns : List Int} {H : Hp} (hS : SqL K H a (ns.map V.int)) (i : Int) (hi : 0 ≤ i) : SpV (spCell K) [.ref a, .int i] H (.int (cellN ns i.toNat)) := fun A e Q q E => ⟨a, ns, i.toNat, by rw [Int.toNat_of_nonneg hi], ex_l e hS, q⟩
theorem s_asgCall {sp : Sp} {dvs vs : List V} {E : XK} {ta : TA} {i : Nat} {D : Ends} {σ : L2.St} {H : Hp} (h : EvA ta σ H vs) (k : ∀ B, Ex H B → sp (vs ++ dvs) B (fun v C => D.nx (σ.set i (some v)) C) E) : tAsg (tCall sp dvs E ta) (gName i) D σ H := h H (.refl H) _ k
theorem ev_neLV {α : Type} {r : Rp α} {ok : α → Prop} {as : List α} {σ : L2.St} {H : Hp} {ta tb : TE} {p2 : Addr} (E : Enc r ok) (hd : E.dep ≤ 60) (ha : EvLR r ta σ H as) (hb : Ev tb σ H (.ref p2)) (hl : LR r H p2 as) (ho : ∀ a ∈ as, ok a) : Ev (tOp (rNeD K) ta tb) σ H (.bl false) := fun A a Q q =>
  ha A a _ fun v B b ⟨p, ev, _, hp⟩ => hb B (a.trans b) _ fun C c => by
    subst ev
    exact rv_neL E hd (hp.mono c) (hl.mono ((a.trans b).trans c)) ho C (.refl C) Q fun G g => q G ((b.trans c).trans g)
theorem ev_eqLL {α : Type} {r : Rp α} {ok : α → Prop} {as : List α} {σ : L2.St} {H : Hp} {ta tb : TE} (E : Enc r ok) (hd : E.dep ≤ 60) (ha : EvLR r ta σ H as) (hb : EvLR r tb σ H as) (ho : ∀ a ∈ as, ok a) : Ev (tOp (rEqD K) ta tb) σ H (.bl true) := fun A a Q q =>
  ha A a _ fun v B b ⟨p, ev, _, hp⟩ => hb B (a.trans b) _ fun w C c ⟨p2, ew, _, hp2⟩ => by
    subst ev ew
    exact rv_eqL E hd (hp.mono c) hp2 ho C (.refl C) Q fun G g => q G ((b.trans c).trans g)
abbrev encRm := encP encC (encL encT)
theorem encRm_ok (b : Nat) (ps : List (Int × Int)) : ∀ a ∈ roomsT b ps, (True ∧ ∀ x ∈ a.2, True) := fun _ _ => ⟨trivial, fun _ _ => trivial⟩
theorem ev_chainV {σ : L2.St} {H : Hp} {ta tb tc : TE} {r r' : R2} {x y z : V} {a b : Bool} (ha : Ev ta σ H x) (hb : Ev tb σ H y) (hr : RV r x y H (.bl a)) (hc : a = true → Ev tc σ H z) (hr2 : a = true → RV r' y z H (.bl b)) : Ev (tChain r r' ta tb tc) σ H (.bl (a && b)) := fun A e Q q =>
  ha A e _ fun B f => hb B (e.trans f) _ fun C g => hr C ((e.trans f).trans g) _ fun D d => ⟨a, rfl, by
    cases a with
    | false => exact q D ((f.trans g).trans d)
    | true => exact hc rfl D (((e.trans f).trans g).trans d) _ fun G i => hr2 rfl G ((((e.trans f).trans g).trans d).trans i) _ fun J j => q J ((((f.trans g).trans d).trans i).trans j)⟩
theorem ev_good {σ : L2.St} {H : Hp} {g : Bool} {x : V} {j : Nat} (h : BdIs g H x) (hj : σ[j]? = some (some x)) : Ev (tAndV (tCall (spWhole K) [] E0 (tCons (tVar j) tNil)) (tChain (rI0 fun i j => V.bl (decide (i ≤ j))) (rI0 fun i j => V.bl (decide (i ≤ j))) (tC (V.int 1)) (tVar j) (tC (V.int 64)))) σ H (.bl g) := by
  have ch : ∀ i : Int, x = .int i → Ev (tChain (rI0 fun i j => V.bl (decide (i ≤ j))) (rI0 fun i j => V.bl (decide (i ≤ j))) (tC (V.int 1)) (tVar j) (tC (V.int 64))) σ H (.bl (decide (1 ≤ i) && decide (i ≤ 64))) := fun i e => ev_chainV (y := .int i) ev_c (ev_var (e ▸ hj)) rv_I0 (fun _ => ev_c) fun _ => rv_I0
  rcases h with ⟨rfl, b, rfl, h1, h2⟩ | ⟨rfl, hx⟩
  · refine ev_is (ev_andV (a := true) (ev_call (ea_cons (ev_var hj) ea_nil) spv_wholeI) fun _ => ch _ rfl) (congrArg V.bl ?_)
    rw [decide_eq_true (by omega), decide_eq_true (by omega)]
    rfl
  · rcases spv_wholeN (K := K) hx with ⟨i, rfl, hi⟩ | hs
    · refine ev_is (ev_andV (a := true) (ev_call (ea_cons (ev_var hj) ea_nil) spv_wholeI) fun _ => ch _ rfl) (congrArg V.bl ?_)
      have hi : ¬ (1 ≤ i ∧ i ≤ 64) := hi
      by_cases h1 : 1 ≤ i
      · rw [decide_eq_false (by omega : ¬ i ≤ 64), Bool.and_false, Bool.and_false]
      · rw [decide_eq_false h1]
        rfl
    · exact ev_is (ev_andV (a := false) (b := false) (ev_call (ea_cons (ev_var hj) ea_nil) hs) fun z => nomatch z) rfl
theorem ev_neBB {σ : L2.St} {H : Hp} {ta tb : TE} {g f : Bool} (ha : EvG ta σ H fun _ v B => ∃ t, v = .ref t ∧ B t = some (.tup [.bl g, .bl f])) (hb : EvG tb σ H (NewT [.bl g, .bl f])) : Ev (tOp (rNeD K) ta tb) σ H (.bl false) := fun A a Q q =>
  ha A a _ fun v B b ⟨p, ev, hp⟩ => hb B (a.trans b) _ fun w C c ⟨p2, ew, _, hp2⟩ => by
    subst ev ew
    have e0 : ∀ g f : Bool, PyData.eqv (.tuple [.bool g, .bool f]) (.tuple [.bool g, .bool f]) = true ∧ SeqAt.shaped (.tuple [.bool g, .bool f]) = true := by decide +kernel
    refine ⟨.tuple [.bool g, .bool f], .tuple [.bool g, .bool f], .tup (st_of (c.k hp)) (.cons (.bl _) (.cons (.bl _) .nil)), .tup (st_of hp2) (.cons (.bl _) (.cons (.bl _) .nil)), (e0 g f).2, (e0 g f).2, ?_⟩
    rw [(e0 g f).1]
    exact q C (b.trans c)
theorem ev_refused {CS : Addr} {σ : L2.St} {H : Hp} {to ta tb : TE} {p : Addr} {y : Int} {E : XK} (h0 : Ev to σ H (.ref p)) (o : Obj4 CS H p) (h1 : Ev ta σ H (.int y)) (h2 : EvG tb σ H (fun _ v B => NoNum NmOk B v)) : Ev (tCall (spRefused CS) [] E (tCons to (tCons ta (tCons tb tNil)))) σ H (.bl true) := fun A a Q q =>
  h0 A a _ fun B b => h1 B (a.trans b) _ fun C c => h2 C ((a.trans b).trans c) _ fun v G g hv => ⟨p, y, v, rfl, o.mono (((a.trans b).trans c).trans g), hv, fun D d => q D (((b.trans c).trans g).trans d)⟩
theorem eg_none {σ : L2.St} {H : Hp} {te : TE} {c : Int} {E : XK} (h : Ev te σ H (.int c)) : EvG (tCall spNone [] E (tCons te tNil)) σ H (fun _ v B => NoNum NmOk B v) := fun A a Q q =>
  h A a _ fun B b => ⟨c, rfl, fun x C e hx => q x C (b.trans e) hx⟩
theorem SA.obj4 {C : Addr} {H : Hp} {p d bd : Addr} {kvs : List (Key × V)} {b : Nat} {R : List Code} {D : Nat} {ps : List (Int × Int)} (h : SA C H p d bd kvs b R D ps) : Obj4 C H p := by
  obtain ⟨dx, h1⟩ := h.ob
  exact ⟨dx, d, bd, b, D, h1⟩
/-! ### the plain things, a dict -/
theorem Ex.mutD {H H' : Hp} {p : Addr} {o : HO} {kvs : List (Key × V)} (e : Ex H H') (h : H p = none) (hp : H' p = some (.dK kvs)) : Ex H (upd H' p o) := by
  refine ⟨fun a u q n => ?_, fun a q => ?_, fun t => (e.tabs t).mut hp ⟨(by intro _ z; cases z), (by intro _ z; cases z)⟩⟩
  · rw [upd_ne (ne_of_none q h)]
    exact e.keep a u q n
  · by_cases ha : a = p
    · rw [ha]
      exact h
    · rw [upd_ne ha] at q
      exact e.dom a q
/-- another dict changes -/
theorem SA.updX {C : Addr} {H : Hp} {p d bd x : Addr} {kvs ks : List (Key × V)} {b : Nat} {R : List Code} {D : Nat} {ps : List (Int × Int)} {o : HO} (h : SA C H p d bd kvs b R D ps) (hx : H x = some (.dK ks)) (nd : d ≠ x) : SA C (upd H x o) p d bd kvs b R D ps := by
  obtain ⟨⟨dx, h1⟩, h2, h3, h4⟩ := h
  have w0 : ExW H (upd H x o) := ⟨fun a u q i => by rw [upd_ne (ne_of q hx (by intro z; rw [z] at i; exact i))]; exact q, upd_dom hx, fun t => t.mut hx ⟨(by intro _ z; cases z), (by intro _ z; cases z)⟩⟩
  exact ⟨⟨dx, by rw [upd_ne (ne_of h1 hx (by intro z; cases z))]; exact h1⟩, by rw [upd_ne nd]; exact h2, kr_mono w0 h3, h4.monoW w0⟩
structure PD (kvs : List (Key × V)) (ps : List (Int × Int)) : Prop where
  ks : ∃ ks : List Int, kvs.map (·.1) = ks.map Sum.inl ∧ ks.Nodup
  vl : ∀ n : Int, valV kvs (Sum.inl n) = (valT ps n).map V.int
theorem pd_nil : PD [] [] := ⟨⟨[], rfl, .nil⟩, fun _ => rfl⟩
theorem valT_ins (ps : List (Int × Int)) (n v m : Int) : valT (insT ps n v) m = if m = n then some v else valT ps m := by
  unfold insT
  have hc : ∀ (as bs : List (Int × Int)), valT (as ++ bs) m = (valT as m).or (valT bs m) := fun as bs => by
    unfold valT
    rw [List.find?_append]
    cases List.find? (fun p => decide (p.1 = m)) as <;> rfl
  have hn : ∀ (q : Int × Int → Bool), (∀ p ∈ ps, p.1 = m → q p = false) → valT (ps.filter q) m = none := fun q h => by
    unfold valT
    rw [Option.map_eq_none_iff, List.find?_eq_none]
    intro p hp e
    obtain ⟨h1, h2⟩ := List.mem_filter.mp hp
    rw [h p h1 (of_decide_eq_true e)] at h2
    cases h2
  rw [hc]
  have h1 : valT ((n, v) :: ps.filter fun p => decide (n < p.1)) m = if m = n then some v else valT (ps.filter fun p => decide (n < p.1)) m := by
    unfold valT
    rw [List.find?_cons]
    by_cases e : m = n
    · rw [if_pos e, decide_eq_true e.symm]
      rfl
    · rw [if_neg e, decide_eq_false (fun z : n = m => e z.symm)]
  rw [h1]
  by_cases e : m = n
  · rw [if_pos e, if_pos e, hn _ fun p _ z => decide_eq_false (by omega)]
    rfl
  · rw [if_neg e, if_neg e]
    rcases Int.lt_or_gt_of_ne e with l | l
    · rw [valT_fil fun p _ z => decide_eq_true (by omega), hn (fun p => decide (n < p.1)) fun p _ z => decide_eq_false (by omega)]
      cases valT ps m <;> rfl
    · rw [hn (fun p => decide (p.1 < n)) fun p _ z => decide_eq_false (by omega), valT_fil fun p _ z => decide_eq_true (by omega)]
      rfl
theorem key_in {kvs : List (Key × V)} {ks : List Int} (h : kvs.map (·.1) = ks.map Sum.inl) (n : Int) : n ∈ ks ↔ (valV kvs (Sum.inl n)).isSome = true := by
  rw [← valV_any, List.any_eq_true]
  constructor
  · intro hm
    have : (Sum.inl n : Key) ∈ kvs.map (·.1) := by rw [h]; exact List.mem_map.mpr ⟨n, hm, rfl⟩
    obtain ⟨kv, h1, h2⟩ := List.mem_map.mp this
    exact ⟨kv, h1, decide_eq_true h2⟩
  · rintro ⟨kv, h1, h2⟩
    have : (Sum.inl n : Key) ∈ kvs.map (·.1) := List.mem_map.mpr ⟨kv, h1, of_decide_eq_true h2⟩
    rw [h] at this
    obtain ⟨m, h3, h4⟩ := List.mem_map.mp this
    exact (Sum.inl.inj h4) ▸ h3
theorem PD.put {kvs : List (Key × V)} {ps : List (Int × Int)} (h : PD kvs ps) (n v : Int) : PD (putK kvs (Sum.inl n) (.int v)) (insT ps n v) := by
  obtain ⟨⟨ks, h1, h2⟩, h3⟩ := h
  refine ⟨?_, fun m => ?_⟩
  · cases hv : valV kvs (Sum.inl n) with
    | none =>
      rw [putK_new _ hv]
      refine ⟨ks ++ [n], by rw [List.map_append, List.map_append, h1]; rfl, ?_⟩
      have hn : n ∉ ks := fun z => by
        have := (key_in h1 n).mp z
        rw [hv] at this
        cases this
      exact List.nodup_append.mpr ⟨h2, by simp, fun x hx y hy => by
        rw [List.mem_singleton.mp hy]
        exact fun z => hn (z ▸ hx)⟩
    | some u =>
      refine ⟨ks, ?_, h2⟩
      unfold putK
      rw [if_pos (by rw [valV_any, hv]; rfl), ← h1, List.map_map]
      refine List.map_congr_left fun kv _ => ?_
      show (if kv.1 = Sum.inl n then (kv.1, V.int v) else kv).1 = kv.1
      split <;> rfl
  · rw [valV_put, valT_ins]
    by_cases e : m = n
    · rw [if_pos (congrArg Sum.inl e), if_pos e]
      rfl
    · rw [if_neg (fun z => e (Sum.inl.inj z)), if_neg e]
      exact h3 m
theorem valT_some {ps : List (Int × Int)} (h : ps.Pairwise fun a b => a.1 < b.1) {p : Int × Int} (hp : p ∈ ps) : valT ps p.1 = some p.2 := by
  induction h with
  | nil => simp at hp
  | @cons q t hq _ ih =>
    unfold valT at ih ⊢
    rw [List.find?_cons]
    rcases List.mem_cons.mp hp with e | e
    · subst e
      rw [decide_eq_true rfl]
      rfl
    · rw [decide_eq_false (fun z => by have := hq p e; omega)]
      exact ih e
theorem valT_mem {ps : List (Int × Int)} (n : Int) : (valT ps n).isSome = true ↔ n ∈ ps.map (·.1) := by
  unfold valT
  rw [Option.isSome_map, List.find?_isSome, List.mem_map]
  exact ⟨fun ⟨p, h1, h2⟩ => ⟨p, h1, of_decide_eq_true h2⟩, fun ⟨p, h1, h2⟩ => ⟨p, h1, decide_eq_true h2⟩⟩
/-- the keys, sorted, are the names -/
theorem PD.names {kvs : List (Key × V)} {ps : List (Int × Int)} (h : PD kvs ps) (hN : Names ps) : ∃ ks : List Int, kvs.map (·.1) = ks.map Sum.inl ∧ ks.length = ps.length ∧ ∀ ys : List Int, ys.Perm ks → ys.Pairwise (· ≤ ·) → ys = ps.map (·.1) := by
  obtain ⟨⟨ks, h1, h2⟩, h3⟩ := h
  have hnd : (ps.map (·.1)).Pairwise (· < ·) := List.pairwise_map.mpr hN.up
  have hp : ks.Perm (ps.map (·.1)) := (List.perm_ext_iff_of_nodup h2 (hnd.imp fun z => Int.ne_of_lt z)).mpr fun n => by
    rw [key_in h1, h3, Option.isSome_map, valT_mem]
  refine ⟨ks, h1, by rw [hp.length_eq, List.length_map], fun ys hy hs => ?_⟩
  exact (hy.trans hp).eq_of_pairwise (le := (· ≤ ·)) (fun a b _ _ h1 h2 => Int.le_antisymm h1 h2) hs (hnd.imp fun z => Int.le_of_lt z)
theorem PD.len {kvs : List (Key × V)} {ps : List (Int × Int)} (h : PD kvs ps) (hN : Names ps) : kvs.length = ps.length := by
  obtain ⟨ks, h1, h2, _⟩ := h.names hN
  rw [← h2, ← List.length_map (f := (·.1)) (as := kvs), h1, List.length_map]
theorem ev_lenD {σ : L2.St} {H : Hp} {j : Nat} {dp : Addr} {kvs : List (Key × V)} {n : Nat} (hd : H dp = some (.dK kvs)) (hn : kvs.length = n) (hj : σ[j]? = some (some (.ref dp)) := by rfl) : Ev (tCB (fun xs H Q => ∃ a kvs, xs = [V.ref a] ∧ H a = some (.dK kvs) ∧ Q (.int kvs.length) H) (tCons (tVar j) tNil)) σ H (.int (n : Int)) := fun A a Q q =>
  ⟨_, hj, dp, kvs, rfl, a.k hd, by rw [hn]; exact q A (.refl A)⟩
theorem eg_dnew {σ : L2.St} {H : Hp} : EvG tDNewK σ H (fun A v B => ∃ d, v = .ref d ∧ A d = none ∧ B d = some (.dK [])) := fun A a Q q p hp => q _ _ (.new hp) ⟨p, rfl, hp, upd_same⟩
theorem vb_ins {ps : List (Int × Int)} (h : VB ps) {n v : Int} (hv : v.natAbs < 10 ^ 60) : VB (insT ps n v) := by
  intro p hp
  unfold insT at hp
  rcases List.mem_append.mp hp with e | e
  · exact h p (List.mem_filter.mp e).1
  · rcases List.mem_cons.mp e with e | e
    · rw [e]
      exact hv
    · exact h p (List.mem_filter.mp e).1
/-- the plain things told in order -/
theorem el_plain {σ : L2.St} {H : Hp} {dp : Addr} {kvs : List (Key × V)} {ps : List (Int × Int)} (h : PD kvs ps) (hN : Names ps) (hl : ps.length < 64) (hd : H dp = some (.dK kvs)) (h4 : ∀ x : V, ((wipe σ [9]).set 9 (some x))[4]? = some (some (.ref dp))) (h40 : σ[4]? = some (some (.ref dp))) (h9 : ∀ x : V, ((wipe σ [9]).set 9 (some x))[9]? = some (some x)) (hw : ∀ x, wipe ((wipe σ [9]).set 9 (some x)) [9] = wipe σ [9]) {r : List V → Hp → VK → Prop}
    (hr : r = fun xs H Q => ∃ (a : Addr) (kvs : List (Key × V)) (ks : List Int), xs = [.ref a] ∧ Rd H a (.dK kvs) ∧ kvs.map (·.1) = ks.map Sum.inl ∧ ks.length < 64 ∧ ∀ (ys : List Int) (p : Addr), ys.Perm ks → ys.Pairwise (· ≤ ·) → H p = none → Q (.ref p) (upd H p (.lst (ys.map V.int)))) :
    EvLR rpT (tLc (iList K (tCB r (tCons (tVar 4) tNil))) (gName 9) tYes (tTup (tCons (tVar 9) (tCons (tDGet (tVar 4) (tVar 9)) tNil))) [9]) σ H ps := by
  subst hr
  obtain ⟨ks, h1, h2, h3⟩ := h.names hN
  have hL : EvLR rpInt (tCB (fun xs H Q => ∃ (a : Addr) (kvs : List (Key × V)) (ks : List Int), xs = [.ref a] ∧ Rd H a (.dK kvs) ∧ kvs.map (·.1) = ks.map Sum.inl ∧ ks.length < 64 ∧ ∀ (ys : List Int) (p : Addr), ys.Perm ks → ys.Pairwise (· ≤ ·) → H p = none → Q (.ref p) (upd H p (.lst (ys.map V.int)))) (tCons (tVar 4) tNil)) σ H (ps.map (·.1)) := fun A a Q q =>
    ⟨.ref dp, h40, dp, kvs, ks, rfl, .inl (a.k hd), h1, by omega, fun ys p hp hs hn => by
      rw [h3 ys hp hs]
      exact q _ _ (.new hn) ⟨p, rfl, hn, _, upd_same, pr_ints⟩⟩
  have main : EvLR rpT (tLc (iList K (tCB (fun xs H Q => ∃ (a : Addr) (kvs : List (Key × V)) (ks : List Int), xs = [.ref a] ∧ Rd H a (.dK kvs) ∧ kvs.map (·.1) = ks.map Sum.inl ∧ ks.length < 64 ∧ ∀ (ys : List Int) (p : Addr), ys.Perm ks → ys.Pairwise (· ≤ ·) → H p = none → Q (.ref p) (upd H p (.lst (ys.map V.int)))) (tCons (tVar 4) tNil))) (gName 9) tYes (tTup (tCons (tVar 9) (tCons (tDGet (tVar 4) (tVar 9)) tNil))) [9]) σ H (((ps.map (·.1)).filter fun _ => true).map fun n => (n, (valT ps n).getD 0)) := by
    refine lcG (K := K) (P := fun _ v C => ∃ q, v = .ref q ∧ LR rpInt C q (ps.map (·.1))) (hL.imp fun A v B _ _ ⟨q, e, _, l⟩ => ⟨q, e, l⟩) ?_
    rintro A v B a e ⟨q, rfl, ⟨xs, hx, hpx⟩⟩
    refine (lcLR (K := K) (r := rpInt) (r' := rpT) (fun _ => true) (fun n => (n, (valT ps n).getD 0)) ev_c (sq_of hx) hpx (by rw [List.length_map]; omega) hw ?_ ?_).imp ?_
    · intro v c H1 F e1 _ _
      exact fun H5 e5 Q' q' => q' H5 (.refl H5)
    · rintro v n H1 F e1 _ hn rfl _
      have hs : (valT ps n).isSome = true := (valT_mem n).mpr hn
      obtain ⟨u, hu⟩ := Option.isSome_iff_exists.mp hs
      have hd1 := (a.trans (e.trans e1)).k hd
      have ht : EvA (tCons (tVar 9) (tCons (tDGet (tVar 4) (tVar 9)) tNil)) ((wipe σ [9]).set 9 (some (.int n))) H1 [.int n, .int u] := ea_cons (ev_var (h9 _)) (ea_cons (ev_dget (k := Sum.inl n) (ev_var (h4 _)) (ev_var (h9 _)) hd1 (by rw [h.vl, hu]; rfl)) ea_nil)
      rw [hu]
      exact (eg_tup ht (by show 2 ≤ 100000; decide)).imp fun A v B _ _ ⟨t, e, _, h⟩ => ⟨t, e, h⟩
    · rintro A2 v C a2 _ ⟨q2, rfl, hq, hl⟩
      exact ⟨q2, rfl, fresh_back (e.trans a2) hq, hl⟩
  have e0 : (((ps.map (·.1)).filter fun _ => true).map fun n => (n, (valT ps n).getD 0)) = ps := by
    rw [List.filter_eq_self.mpr (fun _ _ => rfl), List.map_map]
    refine (List.map_congr_left fun p hp => ?_).trans (List.map_id' ps)
    show (p.1, (valT ps p.1).getD 0) = p
    rw [valT_some hN.up hp]
    rfl
  rw [e0] at main
  exact main
end


section
open SX
variable {P : Program} {w : World} {K : PySem.W.Frag} {mg : Str → Option Value} {base : Heap} [TabCx]
set_option maxHeartbeats 1000000 in
theorem ok_law (T : Top K mg) (TB : Tabs base T) : FnOk P w K mg base CX0 12 T.a_law T.fd_law ["_law_script"] (spLawT K) := by
  refine T.F_law.ok sc_law (fun vs H Q E h => ?_) (fun cdv A outer s H vs Q E hr h => ?_)
  · obtain ⟨a, ns, rfl, _⟩ := h
    rfl
  · obtain ⟨a, ns, rfl, hS, hl, hT, k⟩ := h
    refine ⟨_, (pss_cons (ps_set (i := 1) sc_law.nd rfl (Or.inl rfl) (pe_call (ok_l_bound_by T) (hr.mono (by decide)) rfl T.g_l_bound_by T.F_l_bound_by.kp T.b_l_bound_by .nil pass0 (pa_cons (pe_call (ok_l_cell_at T) (hr.mono (by decide)) rfl T.g_l_cell_at T.F_l_cell_at.kp T.b_l_cell_at .nil pass0 (pa_cons (pv 0) (pa_cons pe_int pa_nil))) pa_nil)))
      (pss_cons (ps_set (i := 2) sc_law.nd rfl (Or.inl rfl) (pe_and (pe_call (ok_l_whole T) (hr.mono (by decide)) rfl T.g_l_whole T.F_l_whole.kp T.b_l_whole .nil pass0 (pa_cons (pv 1) pa_nil)) (pe_one (pe_chain op_le op_le pe_int (pv 1) pe_int))))
      (pss_cons (ps_if (pt_cmpR (r := rNeD K) (op_neD hr.units) (pe_call (ok_l_made T) (hr.mono (by decide)) rfl T.g_l_made T.F_l_made.kp T.b_l_made .nil pass0 (pa_cons (pv 1) pa_nil)) (pe_tup (pa_cons (pv 2) (pa_cons (pe_not (pv 2)) pa_nil))) (nomark _)) (pss_one (ps_ret pe_bl)) pss_nil)
      (pss_cons (ps_set (i := 3) sc_law.nd rfl (Or.inl rfl) (pe_make T.mk_Store (ok_m___init__ T) (hr.mono (by decide)) rfl T.g_Store T.b_m___init__ .nil pass0 (pa_cons (pe_op op_add pe_int (pe_op op_mod (pe_call (ok_l_cell_at T) (hr.mono (by decide)) rfl T.g_l_cell_at T.F_l_cell_at.kp T.b_l_cell_at .nil pass0 (pa_cons (pv 0) (pa_cons pe_int pa_nil))) pe_int)) pa_nil)))
      (pss_cons (ps_if (PW.pt (pw_or (pt_not (pt_val (pe_call (ok_l_whole T) (hr.mono (by decide)) rfl T.g_l_whole T.F_l_whole.kp T.b_l_whole .nil pass0 (pa_cons (pe_fld (pv 3) rfl) pa_nil)))) (pw_or1 (pt_cmpR op_ne (pe_fld (pv 3) rfl) (pe_op op_add pe_int (pe_op op_mod (pe_call (ok_l_cell_at T) (hr.mono (by decide)) rfl T.g_l_cell_at T.F_l_cell_at.kp T.b_l_cell_at .nil pass0 (pa_cons (pv 0) (pa_cons pe_int pa_nil))) pe_int)) (nomark _))))) (pss_one (ps_ret pe_bl)) pss_nil)
      (pss_cons (ps_set (i := 4) sc_law.nd rfl (Or.inr rfl) pe_dnewK)
      (pss_cons (ps_for PassesOwn.never rfl (pi_range1 (by rfl) T.z_range (pa_cons (pe_op op_mod (pe_call (ok_l_cell_at T) (hr.mono (by decide)) rfl T.g_l_cell_at T.F_l_cell_at.kp T.b_l_cell_at .nil pass0 (pa_cons (pv 0) (pa_cons pe_int pa_nil))) pe_int) pa_nil)) (pg_name (i := 5) sc_law.nd rfl (Or.inl rfl)) (pss_cons (ps_dput (hu_of hr) (pv 4) (pe_op op_mod (pe_call (ok_l_cell_at T) (hr.mono (by decide)) rfl T.g_l_cell_at T.F_l_cell_at.kp T.b_l_cell_at .nil pass0 (pa_cons (pv 0) (pa_cons (pe_op op_add pe_int (pv 5)) pa_nil))) pe_int) (pv 5) rfl)
      (pss_one (ps_expr (pe_meth (pv 3) T.cl_Store T.M_m_put (ok_m_put T) (hr.mono (by decide)) T.b_m_put .nil pass0 (pa_cons (pe_op op_mod (pe_call (ok_l_cell_at T) (hr.mono (by decide)) rfl T.g_l_cell_at T.F_l_cell_at.kp T.b_l_cell_at .nil pass0 (pa_cons (pv 0) (pa_cons (pe_op op_add pe_int (pv 5)) pa_nil))) pe_int) (pa_cons (pv 5) pa_nil)))))))
      (pss_cons (ps_if (pt_cmpR op_eq (pe_op op_mod (pe_op op_fdiv (pe_call (ok_l_cell_at T) (hr.mono (by decide)) rfl T.g_l_cell_at T.F_l_cell_at.kp T.b_l_cell_at .nil pass0 (pa_cons (pv 0) (pa_cons pe_int pa_nil))) pe_int) pe_int) pe_int (nomark _)) (pss_one (ps_set (i := 3) sc_law.nd rfl (Or.inl rfl) (pe_call (ok_read T) (hr.mono (by decide)) rfl T.g_read T.F_read.kp T.b_read .nil pass0 (pa_cons (pe_call (ok_written T) (hr.mono (by decide)) rfl T.g_written T.F_written.kp T.b_written .nil pass0 (pa_cons (pv 3) pa_nil)) pa_nil)))) pss_nil)
      (pss_cons (ps_set (i := 6) sc_law.nd rfl (Or.inl rfl) (pe_meth0 (pv 3) T.cl_Store T.M_m_rooms (ok_m_rooms T) (hr.mono (by decide)) T.b_m_rooms .nil pass0))
      (pss_cons (ps_set (i := 7) sc_law.nd rfl (Or.inl rfl) (pe_meth0 (pv 3) T.cl_Store T.M_m_board (ok_m_board T) (hr.mono (by decide)) T.b_m_board .nil pass0))
      (pss_cons (ps_if (pt_not (pt_val (pe_call (ok_l_refused T TB) (hr.mono (by decide)) rfl T.g_l_refused T.F_l_refused.kp T.b_l_refused .nil pass0 (pa_cons (pv 3) (pa_cons (pe_op op_mod (pe_call (ok_l_cell_at T) (hr.mono (by decide)) rfl T.g_l_cell_at T.F_l_cell_at.kp T.b_l_cell_at .nil pass0 (pa_cons (pv 0) (pa_cons pe_int pa_nil))) pe_int) (pa_cons (pe_call (ok_l_none T) (hr.mono (by decide)) rfl T.g_l_none T.F_l_none.kp T.b_l_none .nil pass0 (pa_cons (pe_call (ok_l_cell_at T) (hr.mono (by decide)) rfl T.g_l_cell_at T.F_l_cell_at.kp T.b_l_cell_at .nil pass0 (pa_cons (pv 0) (pa_cons pe_int pa_nil))) pa_nil)) pa_nil)))))) (pss_one (ps_ret pe_bl)) pss_nil)
      (pss_cons (ps_set (i := 8) sc_law.nd rfl (Or.inl rfl) (pe_op op_mod (pe_call (ok_l_cell_at T) (hr.mono (by decide)) rfl T.g_l_cell_at T.F_l_cell_at.kp T.b_l_cell_at .nil pass0 (pa_cons (pv 0) (pa_cons pe_int pa_nil))) pe_int))
      (pss_cons (ps_if (PW.pt (pw_and (pt_cmp (pc_dnotin (hu_of hr) (pv 8) (pv 4))) (pw_and1 (pt_not (pt_val (pe_call (ok_l_lacks T TB) (hr.mono (by decide)) rfl T.g_l_lacks T.F_l_lacks.kp T.b_l_lacks .nil pass0 (pa_cons (pv 3) (pa_cons (pv 8) pa_nil)))))))) (pss_one (ps_ret pe_bl)) pss_nil)
      (pss_cons (ps_if (PW.pt (pw_or (pt_cmpR (r := rNeD K) (op_neD hr.units) (pe_meth0 (pv 3) T.cl_Store T.M_m_rooms (ok_m_rooms T) (hr.mono (by decide)) T.b_m_rooms .nil pass0) (pv 6) (nomark _)) (pw_or1 (pt_cmpR (r := rNeD K) (op_neD hr.units) (pe_meth0 (pv 3) T.cl_Store T.M_m_board (ok_m_board T) (hr.mono (by decide)) T.b_m_board .nil pass0) (pv 7) (nomark _))))) (pss_one (ps_ret pe_bl)) pss_nil)
      (pss_one (ps_ret (pe_and (pe_cmpR (r := rEqD K) (op_eqD hr.units) (pe_meth0 (pv 3) T.cl_Store T.M_m_things (ok_m_things T TB) (hr.mono (by decide)) T.b_m_things .nil pass0) (pe_lc (own := [("_law_one", 9)]) (g := gName 9) (tt := tYes) rfl sc_law.nd (pi_list (pe_callB (call_sortedDI rfl) (by rfl) T.z_sorted (by decide +kernel) (pa_cons (pv 4) pa_nil))) (blkOk_by (N := n_law) (sc := defScope s_law) (by decide +kernel)) (fun _ _ _ _ _ => pg_name (i := 9) sc_law.nd rfl (Or.inl rfl)) (fun _ _ _ _ _ => by exact pts_nil) (fun _ _ _ _ _ => by exact (pe_tup (pa_cons (pv 9) (pa_cons (by exact (pe_dget (hu_of hr) (pv 4) (pv 9) (fun _ _ => rfl))) pa_nil))))) (nomark _)) (pe_one (pe_cmpR op_eq (pe_meth0 (pv 3) T.cl_Store T.M_m_size (ok_m_size T) (hr.mono (by decide)) T.b_m_size .nil pass0) (pe_callB call_lenD (by rfl) T.z_len (by decide +kernel) (pa_cons (pv 4) pa_nil)) (nomark _)))))))))))))))))))), ?_⟩
    have cell : ∀ {σ : L2.St} {B : Hp} (i : Int), 0 ≤ i → Ex H B → σ[0]? = some (some (.ref a)) → ∀ {te : TE}, Ev te σ B (.int i) → Ev (tCall (spCell K) [] E0 (tCons (tVar 0) (tCons te tNil))) σ B (.int (cellN ns i.toNat)) := fun i hi e h0 te h => ev_call (vs := [.ref a, .int i]) (ea_cons (ev_var h0) (ea_cons h ea_nil)) (spv_cell (ex_l e hS) i hi)
    refine q_asgG (P := fun _ v B => ∃ g, BdIs g B v) (ev_callG (us := [.int (cellN ns (0 : Int).toNat)]) (R := fun v B => ∃ g, BdIs g B v) (ea_cons (cell 0 (by decide) (.refl H) rfl ev_c) ea_nil) fun B e Q1 q1 E1 => ⟨cellN ns (0 : Int).toNat, rfl, fun x g C c hx => q1 x C c ⟨g, hx⟩⟩) ?_
    rintro x H1 e1 ⟨g, hx⟩
    show tSeq _ _ _ [some (.ref a), some x, none, none, none, none, none, none, none, none] H1
    refine q_asg (v := .bl g) (ev_good hx rfl) fun H2 e2 => ?_
    have hx := hx.mono e2
    have xH2 := e1.trans e2
    show tSeq _ _ _ [some (.ref a), some x, some (.bl g), none, none, none, none, none, none, none] H2
    refine q_when (b := false) (et_test (ev_neBB (g := g) (f := !g) (ev_callG (us := [x]) (R := fun v B => ∃ t, v = .ref t ∧ B t = some (.tup [.bl g, .bl (!g)])) (ea_cons (ev_var rfl) ea_nil) fun B e Q1 q1 E1 => ⟨x, g, rfl, hx.mono e, fun t C c ht => q1 _ C c ⟨t, rfl, ht⟩⟩) (eg_tup (ea_cons (ev_var rfl) (ea_cons (ev_notV (ev_var rfl)) ea_nil)) (by show 2 ≤ 100000; decide)))) (fun hb => nomatch hb) fun _ H3 e3 => ?_
    have xH3 := xH2.trans e3
    clear hx
    -- the store
    have hm1 := mod_b (cellN ns (1 : Int).toNat) (m := 64) (by decide)
    obtain ⟨b, hB⟩ : ∃ b : Nat, 1 + cellN ns (1 : Int).toNat % 64 = (b : Int) := Int.eq_ofNat_of_zero_le (by omega)
    have hb : 1 ≤ b ∧ b ≤ 64 := by omega
    have bE : ∀ {σ : L2.St} {B : Hp}, Ex H B → σ[0]? = some (some (.ref a)) → Ev (tOp (rI0 fun i j => V.int (i + j)) (tC (.int 1)) (tOp (rI (fun _ j => 0 < j) fun i j => .int (i % j)) (tCall (spCell K) [] E0 (tCons (tVar 0) (tCons (tC (.int 1)) tNil))) (tC (.int 64)))) σ B (.int (b : Int)) := fun e h0 => ev_is (ev_op (x := .int 1) (y := .int (cellN ns (1 : Int).toNat % 64)) ev_c (ev_op (x := .int (cellN ns (1 : Int).toNat)) (y := .int 64) (cell 1 (by decide) e h0 ev_c) ev_c (rv_I (show (0 : Int) < 64 by decide))) rv_I0) (congrArg V.int hB)
    show tSeq _ _ _ [some (.ref a), some x, some (.bl g), none, none, none, none, none, none, none] H3
    refine q_make (vs := [.int (b : Int)]) (ea_cons (bE xH3 rfl) ea_nil) fun B2 e4 p dx hp hdx hne => ⟨p, dx, b, rfl, upd_same, hb, fun d bd kvs B3 hd x3 S3 => ⟨rfl, ?_⟩⟩
    have xB : Ex B2 (upd (upd B2 dx (.own p)) p (.ins T.a_Store dx [])) := (Ex.new hdx).trans (.new (by rw [upd_ne (Ne.symm hne)]; exact hp))
    have hp0 : H p = none := xH3.dom p (e4.dom p hp)
    have hd0 : H d = none := xH3.dom d (e4.dom d (xB.dom d hd))
    have xH4 : Ex H B3 := ex_fresh ((xH3.trans e4).trans xB) x3 hp0 hd0
    show tSeq _ _ _ [some (.ref a), some x, some (.bl g), some (.ref p), none, none, none, none, none, none] B3
    refine q_when (b := (!true) || (!decide (V.int (b : Int) = V.int (b : Int)))) (et_or (et_not (et_B (ev_call (vs := [.int (b : Int)]) (ea_cons (S3.e_bound (ev_var rfl)) ea_nil) spv_wholeI))) fun _ => et_test (ev_op (S3.e_bound (ev_var rfl)) (bE xH4 rfl) (rv_ne rfl))) (fun hb' => ?_) fun _ H5 e5 => ?_
    · rw [decide_eq_true rfl] at hb'
      cases hb'
    have S5 := S3.mono e5
    have xH5 := xH4.trans e5
    show tSeq _ _ _ [some (.ref a), some x, some (.bl g), some (.ref p), none, none, none, none, none, none] H5
    -- the plain things
    refine q_asgG eg_dnew ?_
    rintro v H6 e6 ⟨dp, rfl, hdp5, hdp⟩
    have S6 := S5.mono e6
    have xH6 := xH5.trans e6
    have hdp0 : H dp = none := xH5.dom dp hdp5
    obtain ⟨dx5, ho5⟩ := S5.ob
    have npd : dp ≠ p := (ne_of_none ho5 hdp5).symm
    have ndd : dp ≠ d := (ne_of_none S5.dc hdp5).symm
    show tSeq _ _ _ [some (.ref a), some x, some (.bl g), some (.ref p), some (.ref dp), none, none, none, none, none] H6
    have hm2 := mod_b (cellN ns (2 : Int).toNat) (m := 10) (by decide)
    obtain ⟨n0, hn0⟩ : ∃ n : Nat, cellN ns (2 : Int).toNat % 10 = (n : Int) := Int.eq_ofNat_of_zero_le hm2.1
    refine q_forR1 (n := n0) (ea_cons (ev_is (ev_op (x := .int (cellN ns (2 : Int).toNat)) (y := .int 10) (cell 2 (by decide) xH6 rfl ev_c) ev_c (rv_I (show (0 : Int) < 10 by decide))) (congrArg V.int hn0)) ea_nil) (by omega) (fun i σ' B => ∃ (bd1 : Addr) (kvs1 : List (Key × V)) (R1 : List Code) (D1 : Nat) (ps : List (Int × Int)) (kp : List (Key × V)) (u : Option V), Ex H B ∧ SA T.a_Store B p d bd1 kvs1 b R1 D1 ps ∧ Good b R1 D1 ps ∧ VB ps ∧ B dp = some (.dK kp) ∧ PD kp ps ∧ kp.length ≤ i ∧ σ' = [some (.ref a), some x, some (.bl g), some (.ref p), some (.ref dp), u, none, none, none, none]) ?_ ?_ ?_
    · intro B e
      exact ⟨bd, kvs, [(0, 0)], 0, [], [], none, xH6.trans e, S6.mono e, good_nil, by simp, e.k hdp, pd_nil, Nat.le_refl _, rfl⟩
    · rintro i σ' B hi ⟨bd1, kvs1, R1, D1, ps, kp, u, x1, S1, G1, V1, hk, hpd, hkl, rfl⟩
      have nE : ∀ {B : Hp}, Ex H B → Ev (tOp (rI (fun _ j => 0 < j) fun i j => .int (i % j)) (tCall (spCell K) [] E0 (tCons (tVar 0) (tCons (tOp (rI0 fun i j => V.int (i + j)) (tC (.int 6)) (tVar 5)) tNil))) (tC (.int 256))) [some (.ref a), some x, some (.bl g), some (.ref p), some (.ref dp), some (.int (i : Int)), none, none, none, none] B (.int (cellN ns (6 + (i : Int)).toNat % 256)) := fun e => ev_op (x := .int (cellN ns (6 + (i : Int)).toNat)) (y := .int 256) (cell (6 + (i : Int)) (by omega) e rfl (ev_op (x := .int 6) (y := .int (i : Int)) ev_c (ev_var rfl) rv_I0)) ev_c (rv_I (show (0 : Int) < 256 by decide))
      have hnm := mod_b (cellN ns (6 + (i : Int)).toNat) (m := 256) (by decide)
      generalize cellN ns (6 + (i : Int)).toNat % 256 = nm at nE hnm
      show tSeq _ _ _ [some (.ref a), some x, some (.bl g), some (.ref p), some (.ref dp), some (.int (i : Int)), none, none, none, none] B
      refine q_dput (k := Sum.inl nm) (P := fun _ v _ => v = .int (i : Int)) (Ev.g (v := .int (i : Int)) (ev_var rfl) fun _ _ _ _ => rfl) (ev_var rfl) (nE x1) hk (by omega) ?_
      rintro v B1 B2' b1 rfl b2
      have z2 := b1.trans b2
      have hk2 := z2.k hk
      have xH2' : Ex H (upd B2' dp (.dK (putK kp (Sum.inl nm) (.int (i : Int))))) := Ex.mutD (x1.trans z2) hdp0 hk2
      have S2' : SA T.a_Store (upd B2' dp (.dK (putK kp (Sum.inl nm) (.int (i : Int))))) p d bd1 kvs1 b R1 D1 ps := (S1.mono z2).updX hk2 ndd.symm
      have hk3 : (upd B2' dp (.dK (putK kp (Sum.inl nm) (.int (i : Int))))) dp = some (.dK (putK kp (Sum.inl nm) (.int (i : Int)))) := upd_same
      generalize upd B2' dp (.dK (putK kp (Sum.inl nm) (.int (i : Int)))) = B4 at xH2' S2' hk3
      refine s_dropC (S2'.g_meth (ev_var rfl) (vs := [.int nm, .int (i : Int)]) (ea_cons (nE xH2') (ea_cons (ev_var rfl) ea_nil)) fun B5 e5 => ⟨p, d, bd1, kvs1, b, R1, D1, ps, nm, (i : Int), rfl, S2'.mono e5, G1, hb.1, hnm, fun bd' kvs' R' D' B6 x6 S6 G6 => ?_⟩)
      refine ⟨bd', kvs', R', D', _, putK kp (Sum.inl nm) (.int (i : Int)), _, ex_fresh (xH2'.trans e5) x6 hp0 hd0, S6, G6, vb_ins V1 ?_, x6.k (e5.k hk3) npd ndd, hpd.put nm (i : Int), ?_, rfl⟩
      · have : i ≤ 10 := by omega
        exact Nat.lt_of_le_of_lt (show (i : Int).natAbs ≤ 10 by omega) (by decide)
      · unfold putK
        split
        · rw [List.length_map]
          omega
        · rw [List.length_append]
          show kp.length + 1 ≤ i + 1
          omega
    rintro σ' H7 ⟨bd7, kvs7, R7, D7, ps, kp, u, xH7, S7, G7, V7, hk7, hpd, hkl, rfl⟩
    have hN := G7.nm
    have hpl : ps.length ≤ 10 := by
      rw [← hpd.len hN]
      omega
    -- read of what is written
    show tSeq _ _ _ [some (.ref a), some x, some (.bl g), some (.ref p), some (.ref dp), u, none, none, none, none] H7
    refine q_whenM (b := decide (V.int (cellN ns (1 : Int).toNat / 64 % 2) = V.int 1)) (M := fun σ' B => ∃ (p d bd : Addr) (kvs : List (Key × V)) (R : List Code) (D : Nat), Ex H B ∧ SA T.a_Store B p d bd kvs b R D ps ∧ Good b R D ps ∧ B dp = some (.dK kp) ∧ σ' = [some (.ref a), some x, some (.bl g), some (.ref p), some (.ref dp), u, none, none, none, none]) ?_ ?_ ?_ ?_
    · exact et_test (ev_op (x := .int (cellN ns (1 : Int).toNat / 64 % 2)) (y := .int 1) (ev_op (x := .int (cellN ns (1 : Int).toNat / 64)) (y := .int 2) (ev_op (x := .int (cellN ns (1 : Int).toNat)) (y := .int 64) (cell 1 (by decide) xH7 rfl ev_c) ev_c (rv_I (show CDiv _ _ from ⟨by decide, by decide⟩))) ev_c (rv_I (show (0 : Int) < 2 by decide))) ev_c (rv_eq rfl))
    · intro hb' kM B b1
      refine s_asgCall (vs := [.str (wr b ps)]) (ea_cons (ev_call (vs := [.ref p]) (ea_cons (ev_var rfl) ea_nil) (spv_written (S7.mono b1) G7 hb V7)) ea_nil) fun B2 b2 => ⟨b, R7, D7, ps, rfl, G7, hb, V7, fun p' d' bd' kvs' R' D' C hp' hd' c S' G' => ?_⟩
      exact kM _ _ ⟨p', d', bd', kvs', R', D', (xH7.trans (b1.trans b2)).trans c, S', G', c.k (b2.k (b1.k hk7)), rfl⟩
    · intro hb' B b1
      exact ⟨p, d, bd7, kvs7, R7, D7, xH7.trans b1, S7.mono b1, G7, b1.k hk7, rfl⟩
    clear S7 G7 S6 S5 S3 hp0 hd0 hp npd ndd ho5 hk7 xH7
    rintro σ' H8 ⟨p, d, bd, kvs, R, D, xH8, S8, G8, hk8, rfl⟩
    have thE : ∀ {σ : L2.St} {H0 : Hp}, Ex H H0 → SA T.a_Store H0 p d bd kvs b R D ps → σ[3]? = some (some (.ref p)) → EvLR rpT (tMeth T.a_Store "things" (spThings T.a_Store) [] E0 (tVar 3) tNil) σ H0 ps := fun x S h => S.e_methLR (ev_var h) ea_nil fun A e Q1 q1 E1 => ⟨_, _, _, _, b, _, _, _, rfl, (G8.st S).mono e, G8.nd, (x.trans e).tabs hT, q1⟩
    have roE : ∀ {σ : L2.St} {H : Hp}, SA T.a_Store H p d bd kvs b R D ps → σ[3]? = some (some (.ref p)) → EvLR rpRm (tMeth T.a_Store "rooms" (spRooms T.a_Store) [] E0 (tVar 3) tNil) σ H (roomsT b ps) := fun S h => S.e_methLR (ev_var h) ea_nil (spl_rooms S G8 hb.1)
    have boE : ∀ {σ : L2.St} {H : Hp}, SA T.a_Store H p d bd kvs b R D ps → σ[3]? = some (some (.ref p)) → EvLR rpC (tMeth T.a_Store "board" (spBoardIs T.a_Store) [] E0 (tVar 3) tNil) σ H (boardC R D) := fun S h => S.e_methLR (ev_var h) ea_nil (spl_board (G8.st S))
    show tSeq _ _ _ [some (.ref a), some x, some (.bl g), some (.ref p), some (.ref dp), u, none, none, none, none] H8
    refine q_asgLR (r' := rpRm) (bs := roomsT b ps) (roE S8 rfl) fun pr H9 hpr e9 hLr => ?_
    show tSeq _ _ _ [some (.ref a), some x, some (.bl g), some (.ref p), some (.ref dp), u, some (.ref pr), none, none, none] H9
    refine q_asgLR (r' := rpC) (bs := boardC R D) (boE (S8.mono e9) rfl) fun pb H10 hpb e10 hLb => ?_
    have S10 := (S8.mono e9).mono e10
    have xH10 := (xH8.trans e9).trans e10
    have hk10 := e10.k (e9.k hk8)
    have hLr10 := hLr.mono e10
    show tSeq _ _ _ [some (.ref a), some x, some (.bl g), some (.ref p), some (.ref dp), u, some (.ref pr), some (.ref pb), none, none] H10
    -- refused
    refine q_when (b := !true) (et_not (et_B (ev_refused (y := cellN ns (3 : Int).toNat % 4) (ev_var rfl) S10.obj4 (ev_op (x := .int (cellN ns (3 : Int).toNat)) (y := .int 4) (cell 3 (by decide) xH10 rfl ev_c) ev_c (rv_I (show (0 : Int) < 4 by decide))) (eg_none (cell 4 (by decide) xH10 rfl ev_c))))) (fun hb' => nomatch hb') fun _ H11 e11 => ?_
    have S11 := S10.mono e11
    have xH11 := xH10.trans e11
    have hnm := mod_b (cellN ns (5 : Int).toNat) (m := 256) (by decide)
    refine q_asg (v := .int (cellN ns (5 : Int).toNat % 256)) (ev_op (x := .int (cellN ns (5 : Int).toNat)) (y := .int 256) (cell 5 (by decide) xH11 rfl ev_c) ev_c (rv_I (show (0 : Int) < 256 by decide))) fun H12 e12 => ?_
    generalize cellN ns (5 : Int).toNat % 256 = nm at hnm
    have S12 := S11.mono e12
    have xH12 := xH11.trans e12
    have hk12 := e12.k (e11.k hk10)
    show tSeq _ _ _ [some (.ref a), some x, some (.bl g), some (.ref p), some (.ref dp), u, some (.ref pr), some (.ref pb), some (.int nm), none] H12
    refine q_when (b := (!(valV kp (Sum.inl nm)).isSome) && !true) (et_and (et_test (ev_dnotin (k := Sum.inl nm) (ev_var rfl) (ev_var rfl) hk12)) fun hv => et_not (et_B (ev_call (vs := [.ref p, .int nm]) (ea_cons (ev_var rfl) (ea_cons (ev_var rfl) ea_nil)) fun A e Q1 q1 E1 => ⟨p, d, bd, kvs, b, R, D, ps, nm, rfl, S12.mono e, G8, hnm, (xH12.trans e).tabs hT, ?_, q1⟩))) (fun hb' => ?_) fun _ H13 e13 => ?_
    · rw [hpd.vl, Option.isSome_map] at hv
      cases hz : valT ps nm with
      | none => rfl
      | some u =>
        rw [hz] at hv
        cases hv
    · rw [Bool.and_comm] at hb'
      cases hb'
    have S13 := S12.mono e13
    have xH13 := xH12.trans e13
    have z13 := (e11.trans e12).trans e13
    have hk13 := e13.k hk12
    refine q_when (b := false || false) (et_or (et_test (ev_neLV encRm (show (3 : Nat) ≤ 60 by decide) (roE S13 rfl) (ev_var rfl) (hLr10.mono z13) (encRm_ok b ps))) fun _ => et_test (ev_neLV encC (show (0 : Nat) ≤ 60 by decide) (boE S13 rfl) (ev_var rfl) (hLb.mono z13) (fun _ _ => trivial))) (fun hb' => nomatch hb') fun _ H14 e14 => ?_
    have S14 := S13.mono e14
    have xH14 := xH13.trans e14
    have hk14 := e14.k hk13
    show tRet _ _ [some (.ref a), some x, some (.bl g), some (.ref p), some (.ref dp), u, some (.ref pr), some (.ref pb), some (.int nm), none] H14
    refine s_retk (v := .bl true) (ev_is (ev_andV (a := true) (b := decide (V.int (ps.length : Int) = V.int (ps.length : Int))) (ev_eqLL encT (show (1 : Nat) ≤ 60 by decide) (thE xH14 S14 rfl) (el_plain (K := K) hpd hN (by omega) hk14 (fun _ => rfl) rfl (fun _ => rfl) (fun _ => rfl) rfl) (fun _ _ => trivial)) fun _ => ev_op (x := .int (ps.length : Int)) (y := .int (ps.length : Int)) (S14.e_meth (ev_var rfl) ea_nil (spv_size (G8.st S14) G8.nd)) (ev_lenD hk14 (hpd.len hN)) (rv_eq rfl)) ?_) (k.mono xH14)
    rw [decide_eq_true rfl]
    rfl
end


/-- the two tables -/
abbrev tcx (P0 P1 : Addr) (h : P0 ≠ P1) : TabCx := ⟨[(P0, lq_joined), (P1, lq_things)], by rw [List.map_cons, List.map_cons, List.map_nil, List.nodup_cons]; exact ⟨by rw [List.mem_singleton]; exact h, (by simp)⟩⟩
set_option maxHeartbeats 4000000 in
theorem all_mk {l : PySem.W.OpenLaw} {w : World} {K : PySem.W.Frag} {h : Heap} {mg : Str → Option Value} {fa : Addr} (X : K.In h) (G : h.Ns mainGlobals mg) (hfa : mg "law" = some (.ref fa))
    {C0 : Addr}
    {C1 : Addr}
    {C2 : Addr}
    {C3 : Addr}
    {C4 : Addr}
    {C5 : Addr}
    {f0 : Addr} {od0 an0 : Option Addr} {sl0 : Array (Option Value)} {oc0 kV0 dc0 pm0 cd0 ct0 : Value}
    {f1 : Addr} {od1 an1 : Option Addr} {sl1 : Array (Option Value)} {oc1 kV1 dc1 pm1 cd1 ct1 : Value}
    {f2 : Addr} {od2 an2 : Option Addr} {sl2 : Array (Option Value)} {oc2 kV2 dc2 pm2 cd2 ct2 : Value}
    {f3 : Addr} {od3 an3 : Option Addr} {sl3 : Array (Option Value)} {oc3 kV3 dc3 pm3 cd3 ct3 : Value}
    {f4 : Addr} {od4 an4 : Option Addr} {sl4 : Array (Option Value)} {oc4 kV4 dc4 pm4 cd4 ct4 : Value}
    {f5 : Addr} {od5 an5 : Option Addr} {sl5 : Array (Option Value)} {oc5 kV5 dc5 pm5 cd5 ct5 : Value}
    {f6 : Addr} {od6 an6 : Option Addr} {sl6 : Array (Option Value)} {oc6 kV6 dc6 pm6 cd6 ct6 : Value}
    {f7 : Addr} {od7 an7 : Option Addr} {sl7 : Array (Option Value)} {oc7 kV7 dc7 pm7 cd7 ct7 : Value}
    {f8 : Addr} {od8 an8 : Option Addr} {sl8 : Array (Option Value)} {oc8 kV8 dc8 pm8 cd8 ct8 : Value}
    {f9 : Addr} {od9 an9 : Option Addr} {sl9 : Array (Option Value)} {oc9 kV9 dc9 pm9 cd9 ct9 : Value}
    {f10 : Addr} {od10 an10 : Option Addr} {sl10 : Array (Option Value)} {oc10 kV10 dc10 pm10 cd10 ct10 : Value}
    {f11 : Addr} {od11 an11 : Option Addr} {sl11 : Array (Option Value)} {oc11 kV11 dc11 pm11 cd11 ct11 : Value}
    {f12 : Addr} {od12 an12 : Option Addr} {sl12 : Array (Option Value)} {oc12 kV12 dc12 pm12 cd12 ct12 : Value}
    {f13 : Addr} {od13 an13 : Option Addr} {sl13 : Array (Option Value)} {oc13 kV13 dc13 pm13 ct13 : Value}
    {cc13 PP0 : Addr}
    {f14 : Addr} {od14 an14 : Option Addr} {sl14 : Array (Option Value)} {oc14 kV14 dc14 pm14 cd14 ct14 : Value}
    {f15 : Addr} {od15 an15 : Option Addr} {sl15 : Array (Option Value)} {oc15 kV15 dc15 pm15 cd15 ct15 : Value}
    {f16 : Addr} {od16 an16 : Option Addr} {sl16 : Array (Option Value)} {oc16 kV16 dc16 pm16 cd16 ct16 : Value}
    {f17 : Addr} {od17 an17 : Option Addr} {sl17 : Array (Option Value)} {oc17 kV17 dc17 pm17 cd17 ct17 : Value}
    {f18 : Addr} {od18 an18 : Option Addr} {sl18 : Array (Option Value)} {oc18 kV18 dc18 pm18 cd18 ct18 : Value}
    {f19 : Addr} {od19 an19 : Option Addr} {sl19 : Array (Option Value)} {oc19 kV19 dc19 pm19 cd19 ct19 : Value}
    {f20 : Addr} {od20 an20 : Option Addr} {sl20 : Array (Option Value)} {oc20 kV20 dc20 pm20 cd20 ct20 : Value}
    {f21 : Addr} {od21 an21 : Option Addr} {sl21 : Array (Option Value)} {oc21 kV21 dc21 pm21 cd21 ct21 : Value}
    {f22 : Addr} {od22 an22 : Option Addr} {sl22 : Array (Option Value)} {oc22 kV22 dc22 pm22 cd22 ct22 : Value}
    {f23 : Addr} {od23 an23 : Option Addr} {sl23 : Array (Option Value)} {oc23 kV23 dc23 pm23 ct23 : Value}
    {cc23 PP1 : Addr}
    {f24 : Addr} {od24 an24 : Option Addr} {sl24 : Array (Option Value)} {oc24 kV24 dc24 pm24 cd24 ct24 : Value}
    {f25 : Addr} {od25 an25 : Option Addr} {sl25 : Array (Option Value)} {oc25 kV25 dc25 pm25 cd25 ct25 : Value}
    {f26 : Addr} {od26 an26 : Option Addr} {sl26 : Array (Option Value)} {oc26 kV26 dc26 pm26 cd26 ct26 : Value}
    {f27 : Addr} {od27 an27 : Option Addr} {sl27 : Array (Option Value)} {oc27 kV27 dc27 pm27 cd27 ct27 : Value}
    {f28 : Addr} {od28 an28 : Option Addr} {sl28 : Array (Option Value)} {oc28 kV28 dc28 pm28 cd28 ct28 : Value}
    {f29 : Addr} {od29 an29 : Option Addr} {sl29 : Array (Option Value)} {oc29 kV29 dc29 pm29 cd29 ct29 : Value}
    {f30 : Addr} {od30 an30 : Option Addr} {sl30 : Array (Option Value)} {oc30 kV30 dc30 pm30 cd30 ct30 : Value}
    {f31 : Addr} {od31 an31 : Option Addr} {sl31 : Array (Option Value)} {oc31 kV31 dc31 pm31 cd31 ct31 : Value}
    {f32 : Addr} {od32 an32 : Option Addr} {sl32 : Array (Option Value)} {oc32 kV32 dc32 pm32 cd32 ct32 : Value}
    {f33 : Addr} {od33 an33 : Option Addr} {sl33 : Array (Option Value)} {oc33 kV33 dc33 pm33 cd33 ct33 : Value}
    {f34 : Addr} {od34 an34 : Option Addr} {sl34 : Array (Option Value)} {oc34 kV34 dc34 pm34 cd34 ct34 : Value}
    {f35 : Addr} {od35 an35 : Option Addr} {sl35 : Array (Option Value)} {oc35 kV35 dc35 pm35 cd35 ct35 : Value}
    {f36 : Addr} {od36 an36 : Option Addr} {sl36 : Array (Option Value)} {oc36 kV36 dc36 pm36 cd36 ct36 : Value}
    {f37 : Addr} {od37 an37 : Option Addr} {sl37 : Array (Option Value)} {oc37 kV37 dc37 pm37 cd37 ct37 : Value}
    {f38 : Addr} {od38 an38 : Option Addr} {sl38 : Array (Option Value)} {oc38 kV38 dc38 pm38 cd38 ct38 : Value}
    {f39 : Addr} {od39 an39 : Option Addr} {sl39 : Array (Option Value)} {oc39 kV39 dc39 pm39 cd39 ct39 : Value}
    {f40 : Addr} {od40 an40 : Option Addr} {sl40 : Array (Option Value)} {oc40 kV40 dc40 pm40 cd40 ct40 : Value}
    {f41 : Addr} {od41 an41 : Option Addr} {sl41 : Array (Option Value)} {oc41 kV41 dc41 pm41 cd41 ct41 : Value}
    {f42 : Addr} {od42 an42 : Option Addr} {sl42 : Array (Option Value)} {oc42 kV42 dc42 pm42 cd42 ct42 : Value}
    {f43 : Addr} {od43 an43 : Option Addr} {sl43 : Array (Option Value)} {oc43 kV43 dc43 pm43 cd43 ct43 : Value}
    {f44 : Addr} {od44 an44 : Option Addr} {sl44 : Array (Option Value)} {oc44 kV44 dc44 pm44 cd44 ct44 : Value}
    {f45 : Addr} {od45 an45 : Option Addr} {sl45 : Array (Option Value)} {oc45 kV45 dc45 pm45 cd45 ct45 : Value}
    {f46 : Addr} {od46 an46 : Option Addr} {sl46 : Array (Option Value)} {oc46 kV46 dc46 pm46 cd46 ct46 : Value}
    {t0 : Tok}
    {t1 : Tok}
    {t2 : Tok}
    {t3 : Tok}
    {t4 : Tok}
    {t5 : Tok}
    {t6 : Tok}
    {t7 : Tok}
    {ts : List Addr}
    (qC0 : PySem.W.nsIn K mainGlobals "RoomError" = some (some (.ref C0)))
    (qC1 : PySem.W.nsIn K mainGlobals "BadName" = some (some (.ref C1)))
    (qC2 : PySem.W.nsIn K mainGlobals "BadBound" = some (some (.ref C2)))
    (qC3 : PySem.W.nsIn K mainGlobals "NoThing" = some (some (.ref C3)))
    (qC4 : PySem.W.nsIn K mainGlobals "NoStore" = some (some (.ref C4)))
    (qC5 : PySem.W.nsIn K mainGlobals "Store" = some (some (.ref C5)))
    (a0 : PySem.W.nsIn K mainGlobals "doubled" = some (some (.ref f0)))
    (l0 : K.lookup f0 = some ⟨oc0, od0, .func (PySem.W.fnOf "doubled" "doubled" (defArgs s_doubled) (defBody s_doubled) (defScope s_doubled) .none kV0 dc0 pm0 an0 cd0 ct0), sl0⟩)
    (c0 : PySem.W.codeIn K cd0 "doubled" = true) (k0 : PySem.W.keepIn K (.ref f0) = true)
    (a1 : PySem.W.nsIn K mainGlobals "can_halve" = some (some (.ref f1)))
    (l1 : K.lookup f1 = some ⟨oc1, od1, .func (PySem.W.fnOf "can_halve" "can_halve" (defArgs s_can_halve) (defBody s_can_halve) (defScope s_can_halve) .none kV1 dc1 pm1 an1 cd1 ct1), sl1⟩)
    (c1 : PySem.W.codeIn K cd1 "can_halve" = true) (k1 : PySem.W.keepIn K (.ref f1) = true)
    (a2 : PySem.W.nsIn K mainGlobals "halved" = some (some (.ref f2)))
    (l2 : K.lookup f2 = some ⟨oc2, od2, .func (PySem.W.fnOf "halved" "halved" (defArgs s_halved) (defBody s_halved) (defScope s_halved) .none kV2 dc2 pm2 an2 cd2 ct2), sl2⟩)
    (c2 : PySem.W.codeIn K cd2 "halved" = true) (k2 : PySem.W.keepIn K (.ref f2) = true)
    (a3 : PySem.W.nsIn K mainGlobals "parted_at" = some (some (.ref f3)))
    (l3 : K.lookup f3 = some ⟨oc3, od3, .func (PySem.W.fnOf "parted_at" "parted_at" (defArgs s_parted_at) (defBody s_parted_at) (defScope s_parted_at) .none kV3 dc3 pm3 an3 cd3 ct3), sl3⟩)
    (c3 : PySem.W.codeIn K cd3 "parted_at" = true) (k3 : PySem.W.keepIn K (.ref f3) = true)
    (a4 : PySem.W.nsIn K mainGlobals "joined_at" = some (some (.ref f4)))
    (l4 : K.lookup f4 = some ⟨oc4, od4, .func (PySem.W.fnOf "joined_at" "joined_at" (defArgs s_joined_at) (defBody s_joined_at) (defScope s_joined_at) .none kV4 dc4 pm4 an4 cd4 ct4), sl4⟩)
    (c4 : PySem.W.codeIn K cd4 "joined_at" = true) (k4 : PySem.W.keepIn K (.ref f4) = true)
    (a5 : PySem.W.nsIn K mainGlobals "check_name" = some (some (.ref f5)))
    (l5 : K.lookup f5 = some ⟨oc5, od5, .func (PySem.W.fnOf "check_name" "check_name" (defArgs s_check_name) (defBody s_check_name) (defScope s_check_name) .none kV5 dc5 pm5 an5 cd5 ct5), sl5⟩)
    (c5 : PySem.W.codeIn K cd5 "check_name" = true) (k5 : PySem.W.keepIn K (.ref f5) = true)
    (a6 : PySem.W.nsIn K mainGlobals "mixed" = some (some (.ref f6)))
    (l6 : K.lookup f6 = some ⟨oc6, od6, .func (PySem.W.fnOf "mixed" "mixed" (defArgs s_mixed) (defBody s_mixed) (defScope s_mixed) .none kV6 dc6 pm6 an6 cd6 ct6), sl6⟩)
    (c6 : PySem.W.codeIn K cd6 "mixed" = true) (k6 : PySem.W.keepIn K (.ref f6) = true)
    (a7 : PySem.W.nsIn K mainGlobals "signs" = some (some (.ref f7)))
    (l7 : K.lookup f7 = some ⟨oc7, od7, .func (PySem.W.fnOf "signs" "signs" (defArgs s_signs) (defBody s_signs) (defScope s_signs) .none kV7 dc7 pm7 an7 cd7 ct7), sl7⟩)
    (c7 : PySem.W.codeIn K cd7 "signs" = true) (k7 : PySem.W.keepIn K (.ref f7) = true)
    (a8 : PySem.W.nsIn K mainGlobals "with_thing" = some (some (.ref f8)))
    (l8 : K.lookup f8 = some ⟨oc8, od8, .func (PySem.W.fnOf "with_thing" "with_thing" (defArgs s_with_thing) (defBody s_with_thing) (defScope s_with_thing) .none kV8 dc8 pm8 an8 cd8 ct8), sl8⟩)
    (c8 : PySem.W.codeIn K cd8 "with_thing" = true) (k8 : PySem.W.keepIn K (.ref f8) = true)
    (a9 : PySem.W.nsIn K mainGlobals "without_thing" = some (some (.ref f9)))
    (l9 : K.lookup f9 = some ⟨oc9, od9, .func (PySem.W.fnOf "without_thing" "without_thing" (defArgs s_without_thing) (defBody s_without_thing) (defScope s_without_thing) .none kV9 dc9 pm9 an9 cd9 ct9), sl9⟩)
    (c9 : PySem.W.codeIn K cd9 "without_thing" = true) (k9 : PySem.W.keepIn K (.ref f9) = true)
    (a10 : PySem.W.nsIn K mainGlobals "value_in" = some (some (.ref f10)))
    (l10 : K.lookup f10 = some ⟨oc10, od10, .func (PySem.W.fnOf "value_in" "value_in" (defArgs s_value_in) (defBody s_value_in) (defScope s_value_in) .none kV10 dc10 pm10 an10 cd10 ct10), sl10⟩)
    (c10 : PySem.W.codeIn K cd10 "value_in" = true) (k10 : PySem.W.keepIn K (.ref f10) = true)
    (a11 : PySem.W.nsIn K mainGlobals "next_sign" = some (some (.ref f11)))
    (l11 : K.lookup f11 = some ⟨oc11, od11, .func (PySem.W.fnOf "next_sign" "next_sign" (defArgs s_next_sign) (defBody s_next_sign) (defScope s_next_sign) .none kV11 dc11 pm11 an11 cd11 ct11), sl11⟩)
    (c11 : PySem.W.codeIn K cd11 "next_sign" = true) (k11 : PySem.W.keepIn K (.ref f11) = true)
    (a12 : PySem.W.nsIn K mainGlobals "parted" = some (some (.ref f12)))
    (l12 : K.lookup f12 = some ⟨oc12, od12, .func (PySem.W.fnOf "parted" "parted" (defArgs s_parted) (defBody s_parted) (defScope s_parted) .none kV12 dc12 pm12 an12 cd12 ct12), sl12⟩)
    (c12 : PySem.W.codeIn K cd12 "parted" = true) (k12 : PySem.W.keepIn K (.ref f12) = true)
    (a13 : PySem.W.nsIn K mainGlobals "joined" = some (some (.ref f13)))
    (l13 : K.lookup f13 = some ⟨oc13, od13, .func (PySem.W.fnOf "joined" "joined" (defArgs s_joined) (defBody s_joined) (defScope s_joined) .none kV13 dc13 pm13 an13 (.ref cc13) ct13), sl13⟩)
    (c13 : PySem.W.codeIn K (.ref cc13) "joined" = true) (k13 : PySem.W.keepIn K (.ref f13) = true)
    (y0 : tabC K cc13 = some PP0) (n0 : K.lookup PP0 = none) (h0 : PySem.W.codeHdIn K cc13 PP0 = true)
    (a14 : PySem.W.nsIn K mainGlobals "check_bound" = some (some (.ref f14)))
    (l14 : K.lookup f14 = some ⟨oc14, od14, .func (PySem.W.fnOf "check_bound" "check_bound" (defArgs s_check_bound) (defBody s_check_bound) (defScope s_check_bound) .none kV14 dc14 pm14 an14 cd14 ct14), sl14⟩)
    (c14 : PySem.W.codeIn K cd14 "check_bound" = true) (k14 : PySem.W.keepIn K (.ref f14) = true)
    (a15 : PySem.W.findIn K (.ref C5) "__init__" = some (some (.ref f15))) (i15 : PySem.W.isFn K (.ref f15) = true)
    (l15 : K.lookup f15 = some ⟨oc15, od15, .func (PySem.W.fnOf "__init__" "Store.__init__" (defArgs s_m___init__) (defBody s_m___init__) (defScope s_m___init__) .none kV15 dc15 pm15 an15 cd15 ct15), sl15⟩)
    (c15 : PySem.W.codeIn K cd15 "Store.__init__" = true) (k15 : PySem.W.keepIn K (.ref f15) = true)
    (a16 : PySem.W.findIn K (.ref C5) "put" = some (some (.ref f16))) (i16 : PySem.W.isFn K (.ref f16) = true)
    (l16 : K.lookup f16 = some ⟨oc16, od16, .func (PySem.W.fnOf "put" "Store.put" (defArgs s_m_put) (defBody s_m_put) (defScope s_m_put) .none kV16 dc16 pm16 an16 cd16 ct16), sl16⟩)
    (c16 : PySem.W.codeIn K cd16 "Store.put" = true) (k16 : PySem.W.keepIn K (.ref f16) = true)
    (a17 : PySem.W.findIn K (.ref C5) "take" = some (some (.ref f17))) (i17 : PySem.W.isFn K (.ref f17) = true)
    (l17 : K.lookup f17 = some ⟨oc17, od17, .func (PySem.W.fnOf "take" "Store.take" (defArgs s_m_take) (defBody s_m_take) (defScope s_m_take) .none kV17 dc17 pm17 an17 cd17 ct17), sl17⟩)
    (c17 : PySem.W.codeIn K cd17 "Store.take" = true) (k17 : PySem.W.keepIn K (.ref f17) = true)
    (a18 : PySem.W.findIn K (.ref C5) "find" = some (some (.ref f18))) (i18 : PySem.W.isFn K (.ref f18) = true)
    (l18 : K.lookup f18 = some ⟨oc18, od18, .func (PySem.W.fnOf "find" "Store.find" (defArgs s_m_find) (defBody s_m_find) (defScope s_m_find) .none kV18 dc18 pm18 an18 cd18 ct18), sl18⟩)
    (c18 : PySem.W.codeIn K cd18 "Store.find" = true) (k18 : PySem.W.keepIn K (.ref f18) = true)
    (a19 : PySem.W.findIn K (.ref C5) "look" = some (some (.ref f19))) (i19 : PySem.W.isFn K (.ref f19) = true)
    (l19 : K.lookup f19 = some ⟨oc19, od19, .func (PySem.W.fnOf "look" "Store.look" (defArgs s_m_look) (defBody s_m_look) (defScope s_m_look) .none kV19 dc19 pm19 an19 cd19 ct19), sl19⟩)
    (c19 : PySem.W.codeIn K cd19 "Store.look" = true) (k19 : PySem.W.keepIn K (.ref f19) = true)
    (a20 : PySem.W.findIn K (.ref C5) "size" = some (some (.ref f20))) (i20 : PySem.W.isFn K (.ref f20) = true)
    (l20 : K.lookup f20 = some ⟨oc20, od20, .func (PySem.W.fnOf "size" "Store.size" (defArgs s_m_size) (defBody s_m_size) (defScope s_m_size) .none kV20 dc20 pm20 an20 cd20 ct20), sl20⟩)
    (c20 : PySem.W.codeIn K cd20 "Store.size" = true) (k20 : PySem.W.keepIn K (.ref f20) = true)
    (a21 : PySem.W.findIn K (.ref C5) "board" = some (some (.ref f21))) (i21 : PySem.W.isFn K (.ref f21) = true)
    (l21 : K.lookup f21 = some ⟨oc21, od21, .func (PySem.W.fnOf "board" "Store.board" (defArgs s_m_board) (defBody s_m_board) (defScope s_m_board) .none kV21 dc21 pm21 an21 cd21 ct21), sl21⟩)
    (c21 : PySem.W.codeIn K cd21 "Store.board" = true) (k21 : PySem.W.keepIn K (.ref f21) = true)
    (a22 : PySem.W.findIn K (.ref C5) "rooms" = some (some (.ref f22))) (i22 : PySem.W.isFn K (.ref f22) = true)
    (l22 : K.lookup f22 = some ⟨oc22, od22, .func (PySem.W.fnOf "rooms" "Store.rooms" (defArgs s_m_rooms) (defBody s_m_rooms) (defScope s_m_rooms) .none kV22 dc22 pm22 an22 cd22 ct22), sl22⟩)
    (c22 : PySem.W.codeIn K cd22 "Store.rooms" = true) (k22 : PySem.W.keepIn K (.ref f22) = true)
    (a23 : PySem.W.findIn K (.ref C5) "things" = some (some (.ref f23))) (i23 : PySem.W.isFn K (.ref f23) = true)
    (l23 : K.lookup f23 = some ⟨oc23, od23, .func (PySem.W.fnOf "things" "Store.things" (defArgs s_m_things) (defBody s_m_things) (defScope s_m_things) .none kV23 dc23 pm23 an23 (.ref cc23) ct23), sl23⟩)
    (c23 : PySem.W.codeIn K (.ref cc23) "Store.things" = true) (k23 : PySem.W.keepIn K (.ref f23) = true)
    (y1 : tabC K cc23 = some PP1) (n1 : K.lookup PP1 = none) (h1 : PySem.W.codeHdIn K cc23 PP1 = true)
    (a24 : PySem.W.findIn K (.ref C5) "_place_of" = some (some (.ref f24))) (i24 : PySem.W.isFn K (.ref f24) = true)
    (l24 : K.lookup f24 = some ⟨oc24, od24, .func (PySem.W.fnOf "_place_of" "Store._place_of" (defArgs s_m__place_of) (defBody s_m__place_of) (defScope s_m__place_of) .none kV24 dc24 pm24 an24 cd24 ct24), sl24⟩)
    (c24 : PySem.W.codeIn K cd24 "Store._place_of" = true) (k24 : PySem.W.keepIn K (.ref f24) = true)
    (a25 : PySem.W.findIn K (.ref C5) "_bits_of" = some (some (.ref f25))) (i25 : PySem.W.isFn K (.ref f25) = true)
    (l25 : K.lookup f25 = some ⟨oc25, od25, .func (PySem.W.fnOf "_bits_of" "Store._bits_of" (defArgs s_m__bits_of) (defBody s_m__bits_of) (defScope s_m__bits_of) .none kV25 dc25 pm25 an25 cd25 ct25), sl25⟩)
    (c25 : PySem.W.codeIn K cd25 "Store._bits_of" = true) (k25 : PySem.W.keepIn K (.ref f25) = true)
    (a26 : PySem.W.findIn K (.ref C5) "_part_for" = some (some (.ref f26))) (i26 : PySem.W.isFn K (.ref f26) = true)
    (l26 : K.lookup f26 = some ⟨oc26, od26, .func (PySem.W.fnOf "_part_for" "Store._part_for" (defArgs s_m__part_for) (defBody s_m__part_for) (defScope s_m__part_for) .none kV26 dc26 pm26 an26 cd26 ct26), sl26⟩)
    (c26 : PySem.W.codeIn K cd26 "Store._part_for" = true) (k26 : PySem.W.keepIn K (.ref f26) = true)
    (a27 : PySem.W.findIn K (.ref C5) "_part" = some (some (.ref f27))) (i27 : PySem.W.isFn K (.ref f27) = true)
    (l27 : K.lookup f27 = some ⟨oc27, od27, .func (PySem.W.fnOf "_part" "Store._part" (defArgs s_m__part) (defBody s_m__part) (defScope s_m__part) .none kV27 dc27 pm27 an27 cd27 ct27), sl27⟩)
    (c27 : PySem.W.codeIn K cd27 "Store._part" = true) (k27 : PySem.W.keepIn K (.ref f27) = true)
    (a28 : PySem.W.findIn K (.ref C5) "_join_from" = some (some (.ref f28))) (i28 : PySem.W.isFn K (.ref f28) = true)
    (l28 : K.lookup f28 = some ⟨oc28, od28, .func (PySem.W.fnOf "_join_from" "Store._join_from" (defArgs s_m__join_from) (defBody s_m__join_from) (defScope s_m__join_from) .none kV28 dc28 pm28 an28 cd28 ct28), sl28⟩)
    (c28 : PySem.W.codeIn K cd28 "Store._join_from" = true) (k28 : PySem.W.keepIn K (.ref f28) = true)
    (a29 : PySem.W.findIn K (.ref C5) "_can_join" = some (some (.ref f29))) (i29 : PySem.W.isFn K (.ref f29) = true)
    (l29 : K.lookup f29 = some ⟨oc29, od29, .func (PySem.W.fnOf "_can_join" "Store._can_join" (defArgs s_m__can_join) (defBody s_m__can_join) (defScope s_m__can_join) .none kV29 dc29 pm29 an29 cd29 ct29), sl29⟩)
    (c29 : PySem.W.codeIn K cd29 "Store._can_join" = true) (k29 : PySem.W.keepIn K (.ref f29) = true)
    (a30 : PySem.W.findIn K (.ref C5) "_join" = some (some (.ref f30))) (i30 : PySem.W.isFn K (.ref f30) = true)
    (l30 : K.lookup f30 = some ⟨oc30, od30, .func (PySem.W.fnOf "_join" "Store._join" (defArgs s_m__join) (defBody s_m__join) (defScope s_m__join) .none kV30 dc30 pm30 an30 cd30 ct30), sl30⟩)
    (c30 : PySem.W.codeIn K cd30 "Store._join" = true) (k30 : PySem.W.keepIn K (.ref f30) = true)
    (a31 : PySem.W.findIn K (.ref C5) "_halve_board" = some (some (.ref f31))) (i31 : PySem.W.isFn K (.ref f31) = true)
    (l31 : K.lookup f31 = some ⟨oc31, od31, .func (PySem.W.fnOf "_halve_board" "Store._halve_board" (defArgs s_m__halve_board) (defBody s_m__halve_board) (defScope s_m__halve_board) .none kV31 dc31 pm31 an31 cd31 ct31), sl31⟩)
    (c31 : PySem.W.codeIn K cd31 "Store._halve_board" = true) (k31 : PySem.W.keepIn K (.ref f31) = true)
    (a32 : PySem.W.nsIn K mainGlobals "written" = some (some (.ref f32)))
    (l32 : K.lookup f32 = some ⟨oc32, od32, .func (PySem.W.fnOf "written" "written" (defArgs s_written) (defBody s_written) (defScope s_written) .none kV32 dc32 pm32 an32 cd32 ct32), sl32⟩)
    (c32 : PySem.W.codeIn K cd32 "written" = true) (k32 : PySem.W.keepIn K (.ref f32) = true)
    (a33 : PySem.W.nsIn K mainGlobals "row_of" = some (some (.ref f33)))
    (l33 : K.lookup f33 = some ⟨oc33, od33, .func (PySem.W.fnOf "row_of" "row_of" (defArgs s_row_of) (defBody s_row_of) (defScope s_row_of) .none kV33 dc33 pm33 an33 cd33 ct33), sl33⟩)
    (c33 : PySem.W.codeIn K cd33 "row_of" = true) (k33 : PySem.W.keepIn K (.ref f33) = true)
    (a34 : PySem.W.nsIn K mainGlobals "read" = some (some (.ref f34)))
    (l34 : K.lookup f34 = some ⟨oc34, od34, .func (PySem.W.fnOf "read" "read" (defArgs s_read) (defBody s_read) (defScope s_read) .none kV34 dc34 pm34 an34 cd34 ct34), sl34⟩)
    (c34 : PySem.W.codeIn K cd34 "read" = true) (k34 : PySem.W.keepIn K (.ref f34) = true)
    (a35 : PySem.W.nsIn K mainGlobals "things_in" = some (some (.ref f35)))
    (l35 : K.lookup f35 = some ⟨oc35, od35, .func (PySem.W.fnOf "things_in" "things_in" (defArgs s_things_in) (defBody s_things_in) (defScope s_things_in) .none kV35 dc35 pm35 an35 cd35 ct35), sl35⟩)
    (c35 : PySem.W.codeIn K cd35 "things_in" = true) (k35 : PySem.W.keepIn K (.ref f35) = true)
    (a36 : PySem.W.nsIn K mainGlobals "number_in" = some (some (.ref f36)))
    (l36 : K.lookup f36 = some ⟨oc36, od36, .func (PySem.W.fnOf "number_in" "number_in" (defArgs s_number_in) (defBody s_number_in) (defScope s_number_in) .none kV36 dc36 pm36 an36 cd36 ct36), sl36⟩)
    (c36 : PySem.W.codeIn K cd36 "number_in" = true) (k36 : PySem.W.keepIn K (.ref f36) = true)
    (a37 : PySem.W.nsIn K mainGlobals "_law_whole" = some (some (.ref f37)))
    (l37 : K.lookup f37 = some ⟨oc37, od37, .func (PySem.W.fnOf "_law_whole" "_law_whole" (defArgs s_l_whole) (defBody s_l_whole) (defScope s_l_whole) .none kV37 dc37 pm37 an37 cd37 ct37), sl37⟩)
    (c37 : PySem.W.codeIn K cd37 "_law_whole" = true) (k37 : PySem.W.keepIn K (.ref f37) = true)
    (a38 : PySem.W.nsIn K mainGlobals "_law_cell_at" = some (some (.ref f38)))
    (l38 : K.lookup f38 = some ⟨oc38, od38, .func (PySem.W.fnOf "_law_cell_at" "_law_cell_at" (defArgs s_l_cell_at) (defBody s_l_cell_at) (defScope s_l_cell_at) .none kV38 dc38 pm38 an38 cd38 ct38), sl38⟩)
    (c38 : PySem.W.codeIn K cd38 "_law_cell_at" = true) (k38 : PySem.W.keepIn K (.ref f38) = true)
    (a39 : PySem.W.nsIn K mainGlobals "_law_none" = some (some (.ref f39)))
    (l39 : K.lookup f39 = some ⟨oc39, od39, .func (PySem.W.fnOf "_law_none" "_law_none" (defArgs s_l_none) (defBody s_l_none) (defScope s_l_none) .none kV39 dc39 pm39 an39 cd39 ct39), sl39⟩)
    (c39 : PySem.W.codeIn K cd39 "_law_none" = true) (k39 : PySem.W.keepIn K (.ref f39) = true)
    (a40 : PySem.W.nsIn K mainGlobals "_law_bound_by" = some (some (.ref f40)))
    (l40 : K.lookup f40 = some ⟨oc40, od40, .func (PySem.W.fnOf "_law_bound_by" "_law_bound_by" (defArgs s_l_bound_by) (defBody s_l_bound_by) (defScope s_l_bound_by) .none kV40 dc40 pm40 an40 cd40 ct40), sl40⟩)
    (c40 : PySem.W.codeIn K cd40 "_law_bound_by" = true) (k40 : PySem.W.keepIn K (.ref f40) = true)
    (a41 : PySem.W.nsIn K mainGlobals "_law_alone" = some (some (.ref f41)))
    (l41 : K.lookup f41 = some ⟨oc41, od41, .func (PySem.W.fnOf "_law_alone" "_law_alone" (defArgs s_l_alone) (defBody s_l_alone) (defScope s_l_alone) .none kV41 dc41 pm41 an41 cd41 ct41), sl41⟩)
    (c41 : PySem.W.codeIn K cd41 "_law_alone" = true) (k41 : PySem.W.keepIn K (.ref f41) = true)
    (a42 : PySem.W.nsIn K mainGlobals "_law_made" = some (some (.ref f42)))
    (l42 : K.lookup f42 = some ⟨oc42, od42, .func (PySem.W.fnOf "_law_made" "_law_made" (defArgs s_l_made) (defBody s_l_made) (defScope s_l_made) .none kV42 dc42 pm42 an42 cd42 ct42), sl42⟩)
    (c42 : PySem.W.codeIn K cd42 "_law_made" = true) (k42 : PySem.W.keepIn K (.ref f42) = true)
    (a43 : PySem.W.nsIn K mainGlobals "_law_asked" = some (some (.ref f43)))
    (l43 : K.lookup f43 = some ⟨oc43, od43, .func (PySem.W.fnOf "_law_asked" "_law_asked" (defArgs s_l_asked) (defBody s_l_asked) (defScope s_l_asked) .none kV43 dc43 pm43 an43 cd43 ct43), sl43⟩)
    (c43 : PySem.W.codeIn K cd43 "_law_asked" = true) (k43 : PySem.W.keepIn K (.ref f43) = true)
    (a44 : PySem.W.nsIn K mainGlobals "_law_refused" = some (some (.ref f44)))
    (l44 : K.lookup f44 = some ⟨oc44, od44, .func (PySem.W.fnOf "_law_refused" "_law_refused" (defArgs s_l_refused) (defBody s_l_refused) (defScope s_l_refused) .none kV44 dc44 pm44 an44 cd44 ct44), sl44⟩)
    (c44 : PySem.W.codeIn K cd44 "_law_refused" = true) (k44 : PySem.W.keepIn K (.ref f44) = true)
    (a45 : PySem.W.nsIn K mainGlobals "_law_lacks" = some (some (.ref f45)))
    (l45 : K.lookup f45 = some ⟨oc45, od45, .func (PySem.W.fnOf "_law_lacks" "_law_lacks" (defArgs s_l_lacks) (defBody s_l_lacks) (defScope s_l_lacks) .none kV45 dc45 pm45 an45 cd45 ct45), sl45⟩)
    (c45 : PySem.W.codeIn K cd45 "_law_lacks" = true) (k45 : PySem.W.keepIn K (.ref f45) = true)
    (a46 : PySem.W.nsIn K mainGlobals "law" = some (some (.ref f46)))
    (l46 : K.lookup f46 = some ⟨oc46, od46, .func (PySem.W.fnOf "law" "law" (defArgs s_law) (defBody s_law) (defScope s_law) .none kV46 dc46 pm46 an46 cd46 ct46), sl46⟩)
    (c46 : PySem.W.codeIn K cd46 "law" = true) (k46 : PySem.W.keepIn K (.ref f46) = true)
    (stpg : PySem.W.plainGet K C5 Str.empty = true)
    (sthd : PySem.W.hasDictIn K C5 = true)
    (stpo : PySem.W.plainOver K C5 = true)
    (stsa : PySem.W.findIn K (.ref C5) "__setattr__" = some (some (.builtin "object.__setattr__")))
    (stnb : PySem.W.findIn K (.ref C5) "bound" = some none)
    (stnr : PySem.W.findIn K (.ref C5) "_rooms" = some none)
    (stnd : PySem.W.findIn K (.ref C5) "_board" = some none)
    (stnp : PySem.W.findIn K (.ref C5) "_depth" = some none)
    (stmi : PySem.W.makesIn K C5 = true)
    (stkk : PySem.W.keepIn K (.ref C5) = true)
    (exC1 : PySem.W.excIn K C1 [.type "ValueError", .type "Exception", .type "BaseException", .type "object"] "ValueError.__new__" = true)
    (ekcC1 : PySem.W.keepIn K (.ref C1) = true)
    (ebcC1 : PySem.W.subIn K (.ref C1) (.type "BaseException") = some true)
    (etcC1 : PySem.W.typeIn K (.ref C1) = some (.type "type"))
    (exC2 : PySem.W.excIn K C2 [.type "ValueError", .type "Exception", .type "BaseException", .type "object"] "ValueError.__new__" = true)
    (ekcC2 : PySem.W.keepIn K (.ref C2) = true)
    (ebcC2 : PySem.W.subIn K (.ref C2) (.type "BaseException") = some true)
    (etcC2 : PySem.W.typeIn K (.ref C2) = some (.type "type"))
    (exC3 : PySem.W.excIn K C3 [.type "ValueError", .type "Exception", .type "BaseException", .type "object"] "ValueError.__new__" = true)
    (ekcC3 : PySem.W.keepIn K (.ref C3) = true)
    (ebcC3 : PySem.W.subIn K (.ref C3) (.type "BaseException") = some true)
    (etcC3 : PySem.W.typeIn K (.ref C3) = some (.type "type"))
    (e0 : PySem.W.nsIn K mainGlobals "SIGNS" = some (some (.int 8 t0)))
    (e1 : PySem.W.nsIn K mainGlobals "NAMES" = some (some (.int 256 t1)))
    (e2 : PySem.W.nsIn K mainGlobals "FACTOR" = some (some (.int 171 t2)))
    (e3 : PySem.W.nsIn K mainGlobals "SHIFT" = some (some (.int 37 t3)))
    (e4 : PySem.W.nsIn K mainGlobals "LEAST_BOUND" = some (some (.int 1 t4)))
    (e5 : PySem.W.nsIn K mainGlobals "GREATEST_BOUND" = some (some (.int 64 t5)))
    (e6 : PySem.W.nsIn K mainGlobals "BOUND_WORD" = some (some (.str "bound " t6)))
    (e7 : PySem.W.nsIn K mainGlobals "FIGURES" = some (some (.int 60 t7)))
    (z0 : PySem.W.nsIn K mainGlobals "ValueError" = some none)
    (z1 : PySem.W.nsIn K mainGlobals "bool" = some none)
    (z2 : PySem.W.nsIn K mainGlobals "int" = some none)
    (z3 : PySem.W.nsIn K mainGlobals "isinstance" = some none)
    (z4 : PySem.W.nsIn K mainGlobals "len" = some none)
    (z5 : PySem.W.nsIn K mainGlobals "list" = some none)
    (z6 : PySem.W.nsIn K mainGlobals "range" = some none)
    (z7 : PySem.W.nsIn K mainGlobals "sorted" = some none)
    (z8 : PySem.W.nsIn K mainGlobals "sum" = some none)
    (z9 : PySem.W.nsIn K mainGlobals "type" = some none)
    (tX_NoThing : L2.ExcC K C3)
    (tX_BadName : L2.ExcC K C1)
    (tX_BadBound : L2.ExcC K C2)
    (tk_NoThing_NoThing : PySem.W.kitOne K (.ref C3) (.ref C3) = some true)
    (tk_NoThing_BadName : PySem.W.kitOne K (.ref C3) (.ref C1) = some false)
    (tk_NoThing_BadBound : PySem.W.kitOne K (.ref C3) (.ref C2) = some false)
    (tk_NoThing_NoStore : PySem.W.kitOne K (.ref C3) (.ref C4) = some false)
    (tk_BadName_NoThing : PySem.W.kitOne K (.ref C1) (.ref C3) = some false)
    (tk_BadName_BadName : PySem.W.kitOne K (.ref C1) (.ref C1) = some true)
    (tk_BadName_BadBound : PySem.W.kitOne K (.ref C1) (.ref C2) = some false)
    (tk_BadName_NoStore : PySem.W.kitOne K (.ref C1) (.ref C4) = some false)
    (tk_BadBound_NoThing : PySem.W.kitOne K (.ref C2) (.ref C3) = some false)
    (tk_BadBound_BadName : PySem.W.kitOne K (.ref C2) (.ref C1) = some false)
    (tk_BadBound_BadBound : PySem.W.kitOne K (.ref C2) (.ref C2) = some true)
    (tk_BadBound_NoStore : PySem.W.kitOne K (.ref C2) (.ref C4) = some false)
    (tk_NoThing_ValueError : PySem.W.kitOne K (.ref C3) (.type "ValueError") = some true)
    (tk_BadName_ValueError : PySem.W.kitOne K (.ref C1) (.type "ValueError") = some true)
    (tk_BadBound_ValueError : PySem.W.kitOne K (.ref C2) (.type "ValueError") = some true)
    (te_NoThing_NoThing : PySem.W.exmOne K (.ref C3) (.ref C3) = some true)
    (te_NoThing_RoomError : PySem.W.exmOne K (.ref C3) (.ref C0) = some true)
    (te_BadName_BadName : PySem.W.exmOne K (.ref C1) (.ref C1) = some true)
    (te_BadName_RoomError : PySem.W.exmOne K (.ref C1) (.ref C0) = some true)
    (te_BadBound_BadBound : PySem.W.exmOne K (.ref C2) (.ref C2) = some true)
    (te_BadBound_RoomError : PySem.W.exmOne K (.ref C2) (.ref C0) = some true)
    (pne : PP0 ≠ PP1)
    (mts : PP0 ∈ ts ∧ PP1 ∈ ts) :
    ∃ (fd : FuncData) (c0 P0 c1 P1 : Addr) (hne : P0 ≠ P1), (P0 ∈ ts ∧ P1 ∈ ts) ∧ K.lookup P0 = none ∧ K.lookup P1 = none ∧ PySem.W.codeHdIn K c0 P0 = true ∧ PySem.W.codeHdIn K c1 P1 = true ∧ (∀ (s : Shared) (v : Value), BindsTo s fd ⟨[v], []⟩ [("_law_script", v)]) ∧ ∀ base : Heap, K.In base → base.Ns mainGlobals mg → LamX.TabB base mg c0 P0 → LamX.TabB base mg c1 P1 → FnOk l.prog w K mg base CX0 12 fa fd ["_law_script"] (@spLawT (tcx P0 P1 hne) K) := by
  have e := hfa.symm.trans (PySem.W.mg_of X G a46)
  cases e
  let T : Top K mg := { d_doubled := ⟨f0, _, fun_mk (st := s_doubled) l0 c0 k0, PySem.W.mg_of X G a0, (fun_mk (st := s_doubled) l0 c0 k0).binds (ps := ["board"]) fun _ _ _ _ _ _ us hl => (match us, hl with | [_], _ => rfl)⟩, d_can_halve := ⟨f1, _, fun_mk (st := s_can_halve) l1 c1 k1, PySem.W.mg_of X G a1, (fun_mk (st := s_can_halve) l1 c1 k1).binds (ps := ["board"]) fun _ _ _ _ _ _ us hl => (match us, hl with | [_], _ => rfl)⟩, d_halved := ⟨f2, _, fun_mk (st := s_halved) l2 c2 k2, PySem.W.mg_of X G a2, (fun_mk (st := s_halved) l2 c2 k2).binds (ps := ["board"]) fun _ _ _ _ _ _ us hl => (match us, hl with | [_], _ => rfl)⟩, d_parted_at := ⟨f3, _, fun_mk (st := s_parted_at) l3 c3 k3, PySem.W.mg_of X G a3, (fun_mk (st := s_parted_at) l3 c3 k3).binds (ps := ["board", "bits"]) fun _ _ _ _ _ _ us hl => (match us, hl with | [_, _], _ => rfl)⟩, d_joined_at := ⟨f4, _, fun_mk (st := s_joined_at) l4 c4 k4, PySem.W.mg_of X G a4, (fun_mk (st := s_joined_at) l4 c4 k4).binds (ps := ["board", "bits"]) fun _ _ _ _ _ _ us hl => (match us, hl with | [_, _], _ => rfl)⟩, d_check_name := ⟨f5, _, fun_mk (st := s_check_name) l5 c5 k5, PySem.W.mg_of X G a5, (fun_mk (st := s_check_name) l5 c5 k5).binds (ps := ["name"]) fun _ _ _ _ _ _ us hl => (match us, hl with | [_], _ => rfl)⟩, d_mixed := ⟨f6, _, fun_mk (st := s_mixed) l6 c6 k6, PySem.W.mg_of X G a6, (fun_mk (st := s_mixed) l6 c6 k6).binds (ps := ["name"]) fun _ _ _ _ _ _ us hl => (match us, hl with | [_], _ => rfl)⟩, d_signs := ⟨f7, _, fun_mk (st := s_signs) l7 c7 k7, PySem.W.mg_of X G a7, (fun_mk (st := s_signs) l7 c7 k7).binds (ps := ["name"]) fun _ _ _ _ _ _ us hl => (match us, hl with | [_], _ => rfl)⟩, d_with_thing := ⟨f8, _, fun_mk (st := s_with_thing) l8 c8 k8, PySem.W.mg_of X G a8, (fun_mk (st := s_with_thing) l8 c8 k8).binds (ps := ["things", "name", "value"]) fun _ _ _ _ _ _ us hl => (match us, hl with | [_, _, _], _ => rfl)⟩, d_without_thing := ⟨f9, _, fun_mk (st := s_without_thing) l9 c9 k9, PySem.W.mg_of X G a9, (fun_mk (st := s_without_thing) l9 c9 k9).binds (ps := ["things", "name"]) fun _ _ _ _ _ _ us hl => (match us, hl with | [_, _], _ => rfl)⟩, d_value_in := ⟨f10, _, fun_mk (st := s_value_in) l10 c10 k10, PySem.W.mg_of X G a10, (fun_mk (st := s_value_in) l10 c10 k10).binds (ps := ["things", "name"]) fun _ _ _ _ _ _ us hl => (match us, hl with | [_, _], _ => rfl)⟩, d_next_sign := ⟨f11, _, fun_mk (st := s_next_sign) l11 c11 k11, PySem.W.mg_of X G a11, (fun_mk (st := s_next_sign) l11 c11 k11).binds (ps := ["bits", "name"]) fun _ _ _ _ _ _ us hl => (match us, hl with | [_, _], _ => rfl)⟩, d_parted := ⟨f12, _, fun_mk (st := s_parted) l12 c12 k12, PySem.W.mg_of X G a12, (fun_mk (st := s_parted) l12 c12 k12).binds (ps := ["room"]) fun _ _ _ _ _ _ us hl => (match us, hl with | [_], _ => rfl)⟩, d_joined := ⟨f13, _, fun_mk (st := s_joined) l13 c13 k13, PySem.W.mg_of X G a13, (fun_mk (st := s_joined) l13 c13 k13).binds (ps := ["one", "other"]) fun _ _ _ _ _ _ us hl => (match us, hl with | [_, _], _ => rfl)⟩, t_joined := ⟨cc13, PP0, ⟨_, _, _, _, _, _, _, _, rfl, l13, c13⟩⟩, d_check_bound := ⟨f14, _, fun_mk (st := s_check_bound) l14 c14 k14, PySem.W.mg_of X G a14, (fun_mk (st := s_check_bound) l14 c14 k14).binds (ps := ["bound"]) fun _ _ _ _ _ _ us hl => (match us, hl with | [_], _ => rfl)⟩, d_m___init__ := ⟨f15, _, fun_mk (st := s_m___init__) l15 c15 k15, ⟨a15, i15, k15⟩, (fun_mk (st := s_m___init__) l15 c15 k15).binds (ps := ["self", "bound"]) fun _ _ _ _ _ _ us hl => (match us, hl with | [_, _], _ => rfl)⟩, d_m_put := ⟨f16, _, fun_mk (st := s_m_put) l16 c16 k16, ⟨a16, i16, k16⟩, (fun_mk (st := s_m_put) l16 c16 k16).binds (ps := ["self", "name", "value"]) fun _ _ _ _ _ _ us hl => (match us, hl with | [_, _, _], _ => rfl)⟩, d_m_take := ⟨f17, _, fun_mk (st := s_m_take) l17 c17 k17, ⟨a17, i17, k17⟩, (fun_mk (st := s_m_take) l17 c17 k17).binds (ps := ["self", "name"]) fun _ _ _ _ _ _ us hl => (match us, hl with | [_, _], _ => rfl)⟩, d_m_find := ⟨f18, _, fun_mk (st := s_m_find) l18 c18 k18, ⟨a18, i18, k18⟩, (fun_mk (st := s_m_find) l18 c18 k18).binds (ps := ["self", "name"]) fun _ _ _ _ _ _ us hl => (match us, hl with | [_, _], _ => rfl)⟩, d_m_look := ⟨f19, _, fun_mk (st := s_m_look) l19 c19 k19, ⟨a19, i19, k19⟩, (fun_mk (st := s_m_look) l19 c19 k19).binds (ps := ["self", "name"]) fun _ _ _ _ _ _ us hl => (match us, hl with | [_, _], _ => rfl)⟩, d_m_size := ⟨f20, _, fun_mk (st := s_m_size) l20 c20 k20, ⟨a20, i20, k20⟩, (fun_mk (st := s_m_size) l20 c20 k20).binds (ps := ["self"]) fun _ _ _ _ _ _ us hl => (match us, hl with | [_], _ => rfl)⟩, d_m_board := ⟨f21, _, fun_mk (st := s_m_board) l21 c21 k21, ⟨a21, i21, k21⟩, (fun_mk (st := s_m_board) l21 c21 k21).binds (ps := ["self"]) fun _ _ _ _ _ _ us hl => (match us, hl with | [_], _ => rfl)⟩, d_m_rooms := ⟨f22, _, fun_mk (st := s_m_rooms) l22 c22 k22, ⟨a22, i22, k22⟩, (fun_mk (st := s_m_rooms) l22 c22 k22).binds (ps := ["self"]) fun _ _ _ _ _ _ us hl => (match us, hl with | [_], _ => rfl)⟩, d_m_things := ⟨f23, _, fun_mk (st := s_m_things) l23 c23 k23, ⟨a23, i23, k23⟩, (fun_mk (st := s_m_things) l23 c23 k23).binds (ps := ["self"]) fun _ _ _ _ _ _ us hl => (match us, hl with | [_], _ => rfl)⟩, t_m_things := ⟨cc23, PP1, ⟨_, _, _, _, _, _, _, _, rfl, l23, c23⟩⟩, d_m__place_of := ⟨f24, _, fun_mk (st := s_m__place_of) l24 c24 k24, ⟨a24, i24, k24⟩, (fun_mk (st := s_m__place_of) l24 c24 k24).binds (ps := ["self", "name"]) fun _ _ _ _ _ _ us hl => (match us, hl with | [_, _], _ => rfl)⟩, d_m__bits_of := ⟨f25, _, fun_mk (st := s_m__bits_of) l25 c25 k25, ⟨a25, i25, k25⟩, (fun_mk (st := s_m__bits_of) l25 c25 k25).binds (ps := ["self", "name"]) fun _ _ _ _ _ _ us hl => (match us, hl with | [_, _], _ => rfl)⟩, d_m__part_for := ⟨f26, _, fun_mk (st := s_m__part_for) l26 c26 k26, ⟨a26, i26, k26⟩, (fun_mk (st := s_m__part_for) l26 c26 k26).binds (ps := ["self", "name"]) fun _ _ _ _ _ _ us hl => (match us, hl with | [_, _], _ => rfl)⟩, d_m__part := ⟨f27, _, fun_mk (st := s_m__part) l27 c27 k27, ⟨a27, i27, k27⟩, (fun_mk (st := s_m__part) l27 c27 k27).binds (ps := ["self", "bits"]) fun _ _ _ _ _ _ us hl => (match us, hl with | [_, _], _ => rfl)⟩, d_m__join_from := ⟨f28, _, fun_mk (st := s_m__join_from) l28 c28 k28, ⟨a28, i28, k28⟩, (fun_mk (st := s_m__join_from) l28 c28 k28).binds (ps := ["self", "bits"]) fun _ _ _ _ _ _ us hl => (match us, hl with | [_, _], _ => rfl)⟩, d_m__can_join := ⟨f29, _, fun_mk (st := s_m__can_join) l29 c29 k29, ⟨a29, i29, k29⟩, (fun_mk (st := s_m__can_join) l29 c29 k29).binds (ps := ["self", "bits"]) fun _ _ _ _ _ _ us hl => (match us, hl with | [_, _], _ => rfl)⟩, d_m__join := ⟨f30, _, fun_mk (st := s_m__join) l30 c30 k30, ⟨a30, i30, k30⟩, (fun_mk (st := s_m__join) l30 c30 k30).binds (ps := ["self", "bits"]) fun _ _ _ _ _ _ us hl => (match us, hl with | [_, _], _ => rfl)⟩, d_m__halve_board := ⟨f31, _, fun_mk (st := s_m__halve_board) l31 c31 k31, ⟨a31, i31, k31⟩, (fun_mk (st := s_m__halve_board) l31 c31 k31).binds (ps := ["self"]) fun _ _ _ _ _ _ us hl => (match us, hl with | [_], _ => rfl)⟩, d_written := ⟨f32, _, fun_mk (st := s_written) l32 c32 k32, PySem.W.mg_of X G a32, (fun_mk (st := s_written) l32 c32 k32).binds (ps := ["store"]) fun _ _ _ _ _ _ us hl => (match us, hl with | [_], _ => rfl)⟩, d_row_of := ⟨f33, _, fun_mk (st := s_row_of) l33 c33 k33, PySem.W.mg_of X G a33, (fun_mk (st := s_row_of) l33 c33 k33).binds (ps := ["bits", "things"]) fun _ _ _ _ _ _ us hl => (match us, hl with | [_, _], _ => rfl)⟩, d_read := ⟨f34, _, fun_mk (st := s_read) l34 c34 k34, PySem.W.mg_of X G a34, (fun_mk (st := s_read) l34 c34 k34).binds (ps := ["text"]) fun _ _ _ _ _ _ us hl => (match us, hl with | [_], _ => rfl)⟩, d_things_in := ⟨f35, _, fun_mk (st := s_things_in) l35 c35 k35, PySem.W.mg_of X G a35, (fun_mk (st := s_things_in) l35 c35 k35).binds (ps := ["row"]) fun _ _ _ _ _ _ us hl => (match us, hl with | [_], _ => rfl)⟩, d_number_in := ⟨f36, _, fun_mk (st := s_number_in) l36 c36 k36, PySem.W.mg_of X G a36, (fun_mk (st := s_number_in) l36 c36 k36).binds (ps := ["word"]) fun _ _ _ _ _ _ us hl => (match us, hl with | [_], _ => rfl)⟩, d_l_whole := ⟨f37, _, fun_mk (st := s_l_whole) l37 c37 k37, PySem.W.mg_of X G a37, (fun_mk (st := s_l_whole) l37 c37 k37).binds (ps := ["_law_found"]) fun _ _ _ _ _ _ us hl => (match us, hl with | [_], _ => rfl)⟩, d_l_cell_at := ⟨f38, _, fun_mk (st := s_l_cell_at) l38 c38 k38, PySem.W.mg_of X G a38, (fun_mk (st := s_l_cell_at) l38 c38 k38).binds (ps := ["_law_script", "_law_k"]) fun _ _ _ _ _ _ us hl => (match us, hl with | [_, _], _ => rfl)⟩, d_l_none := ⟨f39, _, fun_mk (st := s_l_none) l39 c39 k39, PySem.W.mg_of X G a39, (fun_mk (st := s_l_none) l39 c39 k39).binds (ps := ["_law_cell"]) fun _ _ _ _ _ _ us hl => (match us, hl with | [_], _ => rfl)⟩, d_l_bound_by := ⟨f40, _, fun_mk (st := s_l_bound_by) l40 c40 k40, PySem.W.mg_of X G a40, (fun_mk (st := s_l_bound_by) l40 c40 k40).binds (ps := ["_law_cell"]) fun _ _ _ _ _ _ us hl => (match us, hl with | [_], _ => rfl)⟩, d_l_alone := ⟨f41, _, fun_mk (st := s_l_alone) l41 c41 k41, PySem.W.mg_of X G a41, (fun_mk (st := s_l_alone) l41 c41 k41).binds (ps := ["_law_e", "_law_which"]) fun _ _ _ _ _ _ us hl => (match us, hl with | [_, _], _ => rfl)⟩, d_l_made := ⟨f42, _, fun_mk (st := s_l_made) l42 c42 k42, PySem.W.mg_of X G a42, (fun_mk (st := s_l_made) l42 c42 k42).binds (ps := ["_law_thing"]) fun _ _ _ _ _ _ us hl => (match us, hl with | [_], _ => rfl)⟩, d_l_asked := ⟨f43, _, fun_mk (st := s_l_asked) l43 c43 k43, PySem.W.mg_of X G a43, (fun_mk (st := s_l_asked) l43 c43 k43).binds (ps := ["_law_store", "_law_way", "_law_thing"]) fun _ _ _ _ _ _ us hl => (match us, hl with | [_, _, _], _ => rfl)⟩, d_l_refused := ⟨f44, _, fun_mk (st := s_l_refused) l44 c44 k44, PySem.W.mg_of X G a44, (fun_mk (st := s_l_refused) l44 c44 k44).binds (ps := ["_law_store", "_law_way", "_law_thing"]) fun _ _ _ _ _ _ us hl => (match us, hl with | [_, _, _], _ => rfl)⟩, d_l_lacks := ⟨f45, _, fun_mk (st := s_l_lacks) l45 c45 k45, PySem.W.mg_of X G a45, (fun_mk (st := s_l_lacks) l45 c45 k45).binds (ps := ["_law_store", "_law_name"]) fun _ _ _ _ _ _ us hl => (match us, hl with | [_, _], _ => rfl)⟩, d_law := ⟨fa, _, fun_mk (st := s_law) l46 c46 k46, PySem.W.mg_of X G a46, (fun_mk (st := s_law) l46 c46 k46).binds (ps := ["_law_script"]) fun _ _ _ _ _ _ us hl => (match us, hl with | [_], _ => rfl)⟩, d_Store := ⟨C5, PySem.W.mg_of X G qC5, ⟨stpg, sthd, stpo, stsa⟩, stnb, stnr, stnd, stnp, stmi, stkk⟩, a_RoomError := C0, g_RoomError := PySem.W.mg_of X G qC0, d_BadName := ⟨C1, PySem.W.mg_of X G qC1, exC1, ekcC1, ebcC1, etcC1⟩, d_BadBound := ⟨C2, PySem.W.mg_of X G qC2, exC2, ekcC2, ebcC2, etcC2⟩, d_NoThing := ⟨C3, PySem.W.mg_of X G qC3, exC3, ekcC3, ebcC3, etcC3⟩, a_NoStore := C4, g_NoStore := PySem.W.mg_of X G qC4, c_SIGNS := ⟨t0, PySem.W.mg_of X G e0⟩, c_NAMES := ⟨t1, PySem.W.mg_of X G e1⟩, c_FACTOR := ⟨t2, PySem.W.mg_of X G e2⟩, c_SHIFT := ⟨t3, PySem.W.mg_of X G e3⟩, c_LEAST_BOUND := ⟨t4, PySem.W.mg_of X G e4⟩, c_GREATEST_BOUND := ⟨t5, PySem.W.mg_of X G e5⟩, c_BOUND_WORD := ⟨t6, PySem.W.mg_of X G e6⟩, c_FIGURES := ⟨t7, PySem.W.mg_of X G e7⟩, z_ValueError := PySem.W.mg_none_of X G z0, z_bool := PySem.W.mg_none_of X G z1, z_int := PySem.W.mg_none_of X G z2, z_isinstance := PySem.W.mg_none_of X G z3, z_len := PySem.W.mg_none_of X G z4, z_list := PySem.W.mg_none_of X G z5, z_range := PySem.W.mg_none_of X G z6, z_sorted := PySem.W.mg_none_of X G z7, z_sum := PySem.W.mg_none_of X G z8, z_type := PySem.W.mg_none_of X G z9, X_NoThing := tX_NoThing, X_BadName := tX_BadName, X_BadBound := tX_BadBound, k_NoThing_NoThing := tk_NoThing_NoThing, k_NoThing_BadName := tk_NoThing_BadName, k_NoThing_BadBound := tk_NoThing_BadBound, k_NoThing_NoStore := tk_NoThing_NoStore, k_BadName_NoThing := tk_BadName_NoThing, k_BadName_BadName := tk_BadName_BadName, k_BadName_BadBound := tk_BadName_BadBound, k_BadName_NoStore := tk_BadName_NoStore, k_BadBound_NoThing := tk_BadBound_NoThing, k_BadBound_BadName := tk_BadBound_BadName, k_BadBound_BadBound := tk_BadBound_BadBound, k_BadBound_NoStore := tk_BadBound_NoStore, k_NoThing_ValueError := tk_NoThing_ValueError, k_BadName_ValueError := tk_BadName_ValueError, k_BadBound_ValueError := tk_BadBound_ValueError, e_NoThing_NoThing := te_NoThing_NoThing, e_NoThing_RoomError := te_NoThing_RoomError, e_BadName_BadName := te_BadName_BadName, e_BadName_RoomError := te_BadName_RoomError, e_BadBound_BadBound := te_BadBound_BadBound, e_BadBound_RoomError := te_BadBound_RoomError }
  letI := tcx PP0 PP1 pne
  exact ⟨_, cc13, PP0, cc23, PP1, pne, mts, n0, n1, h0, h1, fun s v => .of_eq rfl, fun base _ _ tb0 tb1 => ok_law (P := l.prog) (w := w) (base := base) T ⟨⟨tb0, List.mem_cons_self⟩, ⟨tb1, List.mem_cons_of_mem _ List.mem_cons_self⟩⟩⟩
theorem walk {l : PySem.W.OpenLaw} {q : Program} {loose : List Str} {XP : (Str → Option Value) → Heap → Prop} {YP : World → Heap → Prop} {d : DefRec} {K : Params → PySem.W.Frag} {ts : List Addr} (hn : l.most = some 63) (hdf : d.params.defaults = [])
    (hY : ∀ (w : World) (h : Heap), YP w h → (K w.params).In h) (hE : ∀ (w : World) (h : Heap), YP w h → ∀ P ∈ ts, h.get? P = some (PySem.W.tabObj #[]))
    (F : ∀ (w : World) (mg : Str → Option Value) (fa : Addr) (h : Heap), (K w.params).In h → h.Ns mainGlobals mg → mg d.name = some (.ref fa) → ∃ (fd : FuncData) (c0 P0 c1 P1 : Addr) (hne : P0 ≠ P1), (P0 ∈ ts ∧ P1 ∈ ts) ∧ (K w.params).lookup P0 = none ∧ (K w.params).lookup P1 = none ∧ PySem.W.codeHdIn (K w.params) c0 P0 = true ∧ PySem.W.codeHdIn (K w.params) c1 P1 = true ∧ (∀ (s : Shared) (v : Value), BindsTo s fd ⟨[v], []⟩ [("_law_script", v)]) ∧ ∀ base : Heap, (K w.params).In base → base.Ns mainGlobals mg → LamX.TabB base mg c0 P0 → LamX.TabB base mg c1 P1 → FnOk l.prog w (K w.params) mg base CX0 12 fa fd ["_law_script"] (@spLawT (tcx P0 P1 hne) (K w.params))) :
    PySem.W.WalkO q loose XP YP l.row.toRowW d [] (fun f vs => PySem.call f vs) :=
  Att.attach_callB hn hdf fun w s0 s1 mg mb fa o pm cd doc a vs ns G Y gf hd hcode hmg ga hint hlen hbits hgens => by
    have KX := hY w _ Y
    obtain ⟨fd, c0, P0, c1, P1, hne, ⟨m0, m1⟩, n0, n1, h0, h1, hb, hF⟩ := F w mg fa _ KX G.T.g hmg
    letI := tcx P0 P1 hne
    refine LamX.law_callTs (cs := [(c0, P0), (c1, P1)]) (sp := spLawT (K w.params)) (CX := CX0) (k := 12) (x := "_law_script") (fd := fd) KX G.T.g G.T.b G.T.builtins G.T.nolimit hgens ?_ ?_ ?_ G.T.bmain ga hint (Nat.le_trans hlen (by decide)) ⟨rfl, by decide, by decide⟩ (fun base X N t => hF base X N (t (c0, P0) List.mem_cons_self) (t (c1, P1) (List.mem_cons_of_mem _ List.mem_cons_self))) hb ?_ (fun _ _ _ z => z)
    · intro p hp
      rcases List.mem_cons.mp hp with e | e
      · rw [e]
        exact hE w _ Y P0 m0
      · rw [List.mem_singleton.mp e]
        exact hE w _ Y P1 m1
    · intro p hp
      rcases List.mem_cons.mp hp with e | e
      · rw [e]
        exact n0
      · rw [List.mem_singleton.mp e]
        exact n1
    · intro p hp
      rcases List.mem_cons.mp hp with e | e
      · rw [e]
        exact PySem.W.codeHd_of_K KX h0
      · rw [List.mem_singleton.mp e]
        exact PySem.W.codeHd_of_K KX h1
    · intro H hH hS
      refine ⟨a, ns, rfl, hS, hlen, fun t ht => ?_, fun _ _ => rfl⟩
      rcases List.mem_cons.mp ht with e | e
      · rw [e]
        exact LamX.TabS.nil (hH (c0, P0) List.mem_cons_self)
      · rw [List.mem_singleton.mp e]
        exact LamX.TabS.nil (hH (c1, P1) (List.mem_cons_of_mem _ List.mem_cons_self))
end Vf
open PySem PySem.W PyProof.Rows
set_option maxRecDepth 100000 in
set_option maxHeartbeats 0 in
theorem PySem.Challenge.cw_splitrooms_k09_what_is_refused_holds : PySem.Challenge.rw_splitrooms_k09_what_is_refused.Holds := by
  w_on; o_law; k_head; (case hw => w_witness2)
  k_fill
  refine Vf.walk (l := PySem.Challenge.rw_splitrooms_k09_what_is_refused) rfl rfl (fun w h Y => PySem.W.km_in_of Y) (fun w h Y => PySem.W.km_tabs_of Y) ?F
  case F =>
    intro w mg fa h KX G hmg
    refine' Vf.all_mk KX G hmg ?qC0 ?qC1 ?qC2 ?qC3 ?qC4 ?qC5 ?a0 ?l0 ?c0 ?k0 ?a1 ?l1 ?c1 ?k1 ?a2 ?l2 ?c2 ?k2 ?a3 ?l3 ?c3 ?k3 ?a4 ?l4 ?c4 ?k4 ?a5 ?l5 ?c5 ?k5 ?a6 ?l6 ?c6 ?k6 ?a7 ?l7 ?c7 ?k7 ?a8 ?l8 ?c8 ?k8 ?a9 ?l9 ?c9 ?k9 ?a10 ?l10 ?c10 ?k10 ?a11 ?l11 ?c11 ?k11 ?a12 ?l12 ?c12 ?k12 ?a13 ?l13 ?c13 ?k13 ?y0 ?n0 ?h0 ?a14 ?l14 ?c14 ?k14 ?a15 ?i15 ?l15 ?c15 ?k15 ?a16 ?i16 ?l16 ?c16 ?k16 ?a17 ?i17 ?l17 ?c17 ?k17 ?a18 ?i18 ?l18 ?c18 ?k18 ?a19 ?i19 ?l19 ?c19 ?k19 ?a20 ?i20 ?l20 ?c20 ?k20 ?a21 ?i21 ?l21 ?c21 ?k21 ?a22 ?i22 ?l22 ?c22 ?k22 ?a23 ?i23 ?l23 ?c23 ?k23 ?y1 ?n1 ?h1 ?a24 ?i24 ?l24 ?c24 ?k24 ?a25 ?i25 ?l25 ?c25 ?k25 ?a26 ?i26 ?l26 ?c26 ?k26 ?a27 ?i27 ?l27 ?c27 ?k27 ?a28 ?i28 ?l28 ?c28 ?k28 ?a29 ?i29 ?l29 ?c29 ?k29 ?a30 ?i30 ?l30 ?c30 ?k30 ?a31 ?i31 ?l31 ?c31 ?k31 ?a32 ?l32 ?c32 ?k32 ?a33 ?l33 ?c33 ?k33 ?a34 ?l34 ?c34 ?k34 ?a35 ?l35 ?c35 ?k35 ?a36 ?l36 ?c36 ?k36 ?a37 ?l37 ?c37 ?k37 ?a38 ?l38 ?c38 ?k38 ?a39 ?l39 ?c39 ?k39 ?a40 ?l40 ?c40 ?k40 ?a41 ?l41 ?c41 ?k41 ?a42 ?l42 ?c42 ?k42 ?a43 ?l43 ?c43 ?k43 ?a44 ?l44 ?c44 ?k44 ?a45 ?l45 ?c45 ?k45 ?a46 ?l46 ?c46 ?k46 ?stpg ?sthd ?stpo ?stsa ?stnb ?stnr ?stnd ?stnp ?stmi ?stkk ?exC1 ?ekcC1 ?ebcC1 ?etcC1 ?exC2 ?ekcC2 ?ebcC2 ?etcC2 ?exC3 ?ekcC3 ?ebcC3 ?etcC3 ?e0 ?e1 ?e2 ?e3 ?e4 ?e5 ?e6 ?e7 ?z0 ?z1 ?z2 ?z3 ?z4 ?z5 ?z6 ?z7 ?z8 ?z9 ?tX_NoThing ?tX_BadName ?tX_BadBound ?tk_NoThing_NoThing ?tk_NoThing_BadName ?tk_NoThing_BadBound ?tk_NoThing_NoStore ?tk_BadName_NoThing ?tk_BadName_BadName ?tk_BadName_BadBound ?tk_BadName_NoStore ?tk_BadBound_NoThing ?tk_BadBound_BadName ?tk_BadBound_BadBound ?tk_BadBound_NoStore ?tk_NoThing_ValueError ?tk_BadName_ValueError ?tk_BadBound_ValueError ?te_NoThing_NoThing ?te_NoThing_RoomError ?te_BadName_BadName ?te_BadName_RoomError ?te_BadBound_BadBound ?te_BadBound_RoomError ?pne ?mts
    (case qC0 => k_is)
    (case qC1 => k_is)
    (case qC2 => k_is)
    (case qC3 => k_is)
    (case qC4 => k_is)
    (case qC5 => k_is)
    (case a0 => k_is)
    (case l0 => k_is)
    (case c0 => k_is)
    (case k0 => k_is)
    (case a1 => k_is)
    (case l1 => k_is)
    (case c1 => k_is)
    (case k1 => k_is)
    (case a2 => k_is)
    (case l2 => k_is)
    (case c2 => k_is)
    (case k2 => k_is)
    (case a3 => k_is)
    (case l3 => k_is)
    (case c3 => k_is)
    (case k3 => k_is)
    (case a4 => k_is)
    (case l4 => k_is)
    (case c4 => k_is)
    (case k4 => k_is)
    (case a5 => k_is)
    (case l5 => k_is)
    (case c5 => k_is)
    (case k5 => k_is)
    (case a6 => k_is)
    (case l6 => k_is)
    (case c6 => k_is)
    (case k6 => k_is)
    (case a7 => k_is)
    (case l7 => k_is)
    (case c7 => k_is)
    (case k7 => k_is)
    (case a8 => k_is)
    (case l8 => k_is)
    (case c8 => k_is)
    (case k8 => k_is)
    (case a9 => k_is)
    (case l9 => k_is)
    (case c9 => k_is)
    (case k9 => k_is)
    (case a10 => k_is)
    (case l10 => k_is)
    (case c10 => k_is)
    (case k10 => k_is)
    (case a11 => k_is)
    (case l11 => k_is)
    (case c11 => k_is)
    (case k11 => k_is)
    (case a12 => k_is)
    (case l12 => k_is)
    (case c12 => k_is)
    (case k12 => k_is)
    (case a13 => k_is)
    (case l13 => k_is)
    (case c13 => k_is)
    (case k13 => k_is)
    (case y0 => exact rfl)
    (case n0 => exact rfl)
    (case h0 => kernel_rfl)
    (case a14 => k_is)
    (case l14 => k_is)
    (case c14 => k_is)
    (case k14 => k_is)
    (case a15 => k_is)
    (case i15 => k_is)
    (case l15 => k_is)
    (case c15 => k_is)
    (case k15 => k_is)
    (case a16 => k_is)
    (case i16 => k_is)
    (case l16 => k_is)
    (case c16 => k_is)
    (case k16 => k_is)
    (case a17 => k_is)
    (case i17 => k_is)
    (case l17 => k_is)
    (case c17 => k_is)
    (case k17 => k_is)
    (case a18 => k_is)
    (case i18 => k_is)
    (case l18 => k_is)
    (case c18 => k_is)
    (case k18 => k_is)
    (case a19 => k_is)
    (case i19 => k_is)
    (case l19 => k_is)
    (case c19 => k_is)
    (case k19 => k_is)
    (case a20 => k_is)
    (case i20 => k_is)
    (case l20 => k_is)
    (case c20 => k_is)
    (case k20 => k_is)
    (case a21 => k_is)
    (case i21 => k_is)
    (case l21 => k_is)
    (case c21 => k_is)
    (case k21 => k_is)
    (case a22 => k_is)
    (case i22 => k_is)
    (case l22 => k_is)
    (case c22 => k_is)
    (case k22 => k_is)
    (case a23 => k_is)
    (case i23 => k_is)
    (case l23 => k_is)
    (case c23 => k_is)
    (case k23 => k_is)
    (case y1 => exact rfl)
    (case n1 => exact rfl)
    (case h1 => kernel_rfl)
    (case a24 => k_is)
    (case i24 => k_is)
    (case l24 => k_is)
    (case c24 => k_is)
    (case k24 => k_is)
    (case a25 => k_is)
    (case i25 => k_is)
    (case l25 => k_is)
    (case c25 => k_is)
    (case k25 => k_is)
    (case a26 => k_is)
    (case i26 => k_is)
    (case l26 => k_is)
    (case c26 => k_is)
    (case k26 => k_is)
    (case a27 => k_is)
    (case i27 => k_is)
    (case l27 => k_is)
    (case c27 => k_is)
    (case k27 => k_is)
    (case a28 => k_is)
    (case i28 => k_is)
    (case l28 => k_is)
    (case c28 => k_is)
    (case k28 => k_is)
    (case a29 => k_is)
    (case i29 => k_is)
    (case l29 => k_is)
    (case c29 => k_is)
    (case k29 => k_is)
    (case a30 => k_is)
    (case i30 => k_is)
    (case l30 => k_is)
    (case c30 => k_is)
    (case k30 => k_is)
    (case a31 => k_is)
    (case i31 => k_is)
    (case l31 => k_is)
    (case c31 => k_is)
    (case k31 => k_is)
    (case a32 => k_is)
    (case l32 => k_is)
    (case c32 => k_is)
    (case k32 => k_is)
    (case a33 => k_is)
    (case l33 => k_is)
    (case c33 => k_is)
    (case k33 => k_is)
    (case a34 => k_is)
    (case l34 => k_is)
    (case c34 => k_is)
    (case k34 => k_is)
    (case a35 => k_is)
    (case l35 => k_is)
    (case c35 => k_is)
    (case k35 => k_is)
    (case a36 => k_is)
    (case l36 => k_is)
    (case c36 => k_is)
    (case k36 => k_is)
    (case a37 => k_is)
    (case l37 => k_is)
    (case c37 => k_is)
    (case k37 => k_is)
    (case a38 => k_is)
    (case l38 => k_is)
    (case c38 => k_is)
    (case k38 => k_is)
    (case a39 => k_is)
    (case l39 => k_is)
    (case c39 => k_is)
    (case k39 => k_is)
    (case a40 => k_is)
    (case l40 => k_is)
    (case c40 => k_is)
    (case k40 => k_is)
    (case a41 => k_is)
    (case l41 => k_is)
    (case c41 => k_is)
    (case k41 => k_is)
    (case a42 => k_is)
    (case l42 => k_is)
    (case c42 => k_is)
    (case k42 => k_is)
    (case a43 => k_is)
    (case l43 => k_is)
    (case c43 => k_is)
    (case k43 => k_is)
    (case a44 => k_is)
    (case l44 => k_is)
    (case c44 => k_is)
    (case k44 => k_is)
    (case a45 => k_is)
    (case l45 => k_is)
    (case c45 => k_is)
    (case k45 => k_is)
    (case a46 => k_is)
    (case l46 => k_is)
    (case c46 => k_is)
    (case k46 => k_is)
    (case stpg => k_is)
    (case sthd => k_is)
    (case stpo => k_is)
    (case stsa => k_is)
    (case stnb => k_is)
    (case stnr => k_is)
    (case stnd => k_is)
    (case stnp => k_is)
    (case stmi => k_is)
    (case stkk => k_is)
    (case exC1 => k_exc)
    (case ekcC1 => k_is)
    (case ebcC1 => k_is)
    (case etcC1 => k_is)
    (case exC2 => k_exc)
    (case ekcC2 => k_is)
    (case ebcC2 => k_is)
    (case etcC2 => k_is)
    (case exC3 => k_exc)
    (case ekcC3 => k_is)
    (case ebcC3 => k_is)
    (case etcC3 => k_is)
    (case e0 => k_is)
    (case e1 => k_is)
    (case e2 => k_is)
    (case e3 => k_is)
    (case e4 => k_is)
    (case e5 => k_is)
    (case e6 => k_is)
    (case e7 => k_is)
    (case z0 => k_is)
    (case z1 => k_is)
    (case z2 => k_is)
    (case z3 => k_is)
    (case z4 => k_is)
    (case z5 => k_is)
    (case z6 => k_is)
    (case z7 => k_is)
    (case z8 => k_is)
    (case z9 => k_is)
    (case tX_NoThing => (refine ⟨?_, ?_, ?_, ?_, ?_, ?_, ?_, ?_⟩ <;> first | rfl | k_is))
    (case tX_BadName => (refine ⟨?_, ?_, ?_, ?_, ?_, ?_, ?_, ?_⟩ <;> first | rfl | k_is))
    (case tX_BadBound => (refine ⟨?_, ?_, ?_, ?_, ?_, ?_, ?_, ?_⟩ <;> first | rfl | k_is))
    (case tk_NoThing_NoThing => (first | rfl | k_is))
    (case tk_NoThing_BadName => (first | rfl | k_is))
    (case tk_NoThing_BadBound => (first | rfl | k_is))
    (case tk_NoThing_NoStore => (first | rfl | k_is))
    (case tk_BadName_NoThing => (first | rfl | k_is))
    (case tk_BadName_BadName => (first | rfl | k_is))
    (case tk_BadName_BadBound => (first | rfl | k_is))
    (case tk_BadName_NoStore => (first | rfl | k_is))
    (case tk_BadBound_NoThing => (first | rfl | k_is))
    (case tk_BadBound_BadName => (first | rfl | k_is))
    (case tk_BadBound_BadBound => (first | rfl | k_is))
    (case tk_BadBound_NoStore => (first | rfl | k_is))
    (case tk_NoThing_ValueError => (first | rfl | k_is))
    (case tk_BadName_ValueError => (first | rfl | k_is))
    (case tk_BadBound_ValueError => (first | rfl | k_is))
    (case te_NoThing_NoThing => (first | rfl | k_is))
    (case te_NoThing_RoomError => (first | rfl | k_is))
    (case te_BadName_BadName => (first | rfl | k_is))
    (case te_BadName_RoomError => (first | rfl | k_is))
    (case te_BadBound_BadBound => (first | rfl | k_is))
    (case te_BadBound_RoomError => (first | rfl | k_is))
    (case pne => decide)
    (case mts => (exact ⟨by decide, by decide⟩))

