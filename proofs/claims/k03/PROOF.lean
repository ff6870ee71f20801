import PyProof.Rows.All
import Wide.All
import OpenK.AllK
import Wide.FinOn
import HandS.ForMost
import HandS.Evl
import HandS.More
import HandS.IsInst
import HandS.FStr
import HandS.StrMore
import HandS.Walk
import HandS.Star
import HandS.SortInts
import PySem.Challenge.RW_splitrooms_k03_things_of_a_room
set_option Elab.async false
set_option linter.all false
set_option maxRecDepth 100000
namespace Vf
open PySem L2 Evl
/-! ### a number by twos as a text, and the signs of a name -/
def binT (n : Nat) : Str := ⟨((Nat.toDigits 2 n).map Char.toNat).toArray⟩
theorem strCast {x y : Str} {Q : Str → Prop} (h : Q y) (e : x = y) : Q x := e ▸ h
open Builtin Builtin.Float in
set_option maxHeartbeats 4000000 in
theorem gvB_gen {sp : Str} {f : FormatSpec} (hp : parseFormatSpec sp.cps.toList "int" 62 = .ok f) (hne : (sp.length == 0) = false)
    (hasc : ((sp.cps.toList.drop 1).any (· ≥ 128) || (sp.cps.getD 0 0 ≥ 128 && !([60, 62, 61, 94] : List Nat).contains (sp.cps.getD 1 0))) = false)
    (hty : f.type = some 98) (hpr : f.precision = none) (hz : f.noNeg0 = false) (hal : f.alt = false) (hw : f.width = none) (hgr : f.grouping = none) (hsg : f.sign = none) (hfl : f.fill = 32) (hag : f.align = 62)
    (n : Nat) (t u : Tok) : Gives («int.__format__» ⟨[.int (n : Int) t, .str sp u], []⟩) (.str (binT n)) := by
  intro prog w A R s hq
  have hsz : (binT n).length ≤ sizeLine := hq.1
  unfold «int.__format__»
  simp only [selfAndOne, noKeywords, Int.intOfSelf, asInt?, asStr?, List.isEmpty_nil, if_true, pure_bind, hne, hasc, Bool.false_eq_true, if_false, show (Value.str sp u == Value.none) = false from rfl]
  refine wpAny_bind (wpAny_typeNameOf (T := "str") (typeIs_str _ _ _) (by decide) fun _ => ?_)
  refine wpAny_bind (PyProof.Rows.wpAny_typeNameOfCut_int ?_)
  simp only [hp, hty, Option.getD_some]
  rw [if_pos (by decide)]
  show wpAny _ _ (if _ then _ else _) _ _ _
  rw [if_neg (by simp [hpr])]
  show wpAny _ _ (if _ then _ else _) _ _ _
  rw [if_neg (by simp [hz])]
  show wpAny _ _ (if _ then _ else _) _ _ _
  rw [if_neg (by decide)]
  show wpAny _ _ (if _ then _ else _) _ _ _
  rw [if_neg (by decide)]
  show wpAny _ _ (if _ then _ else _) _ _ _
  rw [if_neg (by simp [hw])]
  show wpAny _ _ (retStr _) _ _ _
  unfold retStr
  have hneg : decide ((n : Int) < 0) = false := decide_eq_false (by omega)
  obtain ⟨c, cs, hds⟩ : ∃ c cs, (Nat.toDigits 2 n).map Char.toNat = c :: cs := by
    cases hd : (Nat.toDigits 2 n).map Char.toNat with
    | nil => exact absurd (congrArg List.length hd) (by rw [List.length_map]; exact Nat.ne_of_gt (Nat.length_toDigits_pos))
    | cons c cs => exact ⟨c, cs, rfl⟩
  have hb : binT n = ⟨(c :: cs).toArray⟩ := by unfold binT; rw [hds]
  have hmap : (List.map (fun c => (if ((98 : Nat) == 88) = true then c.toUpper else c).toNat) (Nat.toDigits 2 ((n : Int)).natAbs)) = c :: cs := by
    rw [← hds]
    rfl
  rw [hneg, hmap, hal]
  obtain ⟨fl, al, sg, z0, alt, wd, gr, pr, ty⟩ := f
  simp only at hty hpr hz hal hw hgr hsg hfl hag
  subst hty hpr hz hal hw hgr hsg hfl hag
  refine wpAny_bind (wpAny_mkStr (wpAny_pure ?_) ?_)
  · refine strCast (Q := fun x => R (Except.ok (Flow.ret (Value.str x s.toks))) _) hq.2 ?_
    rw [hb]
    conv => lhs; whnf
    simp
    omega
  · refine strCast (Q := fun x => x.length ≤ sizeLine) hsz ?_
    rw [hb]
    conv => lhs; whnf
    simp
    omega
open Builtin Builtin.Float in
def fB : FormatSpec := { align := 62, type := some 98 }
theorem hpB : Builtin.Float.parseFormatSpec ("b" : Str).cps.toList "int" 62 = .ok fB := by kernel_rfl
theorem neB : (("b" : Str).length == 0) = false := by decide +kernel
theorem ascB : ((("b" : Str).cps.toList.drop 1).any (· ≥ 128) || (("b" : Str).cps.getD 0 0 ≥ 128 && !([60, 62, 61, 94] : List Nat).contains (("b" : Str).cps.getD 1 0))) = false := by decide +kernel
section
variable {X : Cx}
/-- {e:b} of a number not below nought -/
def tFmtB (te : TE) : TE := fun σ H Q => te σ H fun x H1 => ∃ n : Nat, x = .int (n : Int) ∧ (binT n).length ≤ sizeLine ∧ Q (.str (binT n)) H1
theorem pe_fmtB {e : Expr} {te : TE} {j : Nat} {p1 p2 pos : Pos} (he : PE X e te) : PE X (.FormattedValue e (-1) (some (.JoinedStr [.Constant (.str "b") j p1] p2)) pos) (tFmtB te) := by
  refine ⟨fun pins s σ H Q I h => ?_⟩
  refine wpAny_FormattedValue_spec (thn (he.run pins s σ H _ I h) fun v s1 hv => ?_)
  obtain ⟨x, H1, I1, r1, n, rfl, hz, q⟩ := hv
  obtain ⟨t, rfl⟩ := r1
  refine wpAny_JoinedStr_one (Calls.Constant_str ?_)
  refine ⟨_, _, rfl, ?_⟩
  refine wpAny_formatField_spec neB (fun s' => typeIs_int s' _ _) PyProof.Rows.slot_int_format PyProof.Rows.entry_int_format (PyProof.Rows.args_int_format) (fun u => gvB_gen hpB neB ascB rfl rfl rfl rfl rfl rfl rfl rfl rfl n t u) ?_ (by decide +kernel) hz
  exact ⟨.str (binT n), H1, I1.tok _, ⟨_, rfl⟩, q⟩
end
/-- the mixed name of a name -/
def mixN (n : Nat) : Nat := (171 * n + 37) % 256
/-- eight signs by twos -/
def sg8 (m : Nat) : Str := ⟨#[48 + m / 128 % 2, 48 + m / 64 % 2, 48 + m / 32 % 2, 48 + m / 16 % 2, 48 + m / 8 % 2, 48 + m / 4 % 2, 48 + m / 2 % 2, 48 + m % 2]⟩
theorem zf8 : ∀ m : Nat, m < 256 → Txt.zfill (binT m) 8 = sg8 m := by decide +kernel
theorem binT_len : ∀ m : Nat, m < 256 → (binT m).length ≤ sizeLine := fun m h => Nat.le_trans (by revert m; decide +kernel : (binT m).length ≤ 8) (by decide)
theorem mixN_lt (n : Nat) : mixN n < 256 := Nat.mod_lt _ (by decide)
/-! ### what evaluates to what: further lines, and the tactics that lay them -/
section
variable {K : PySem.W.Frag} {σ : L2.St} {H H' : Hp} {ta tb tc te tx : TE} {t u : TT} {x y z v : V} {r r' : R2} {D : Ends} {tu tw tz : TS}
theorem et_chain {a b : Bool} (ha : Ev ta σ H x) (hb : Ev tb σ H y) (hr : RV r x y H (.bl a)) (hc : a = true → Ev tc σ H z) (hr2 : a = true → RV r' y z H (.bl b)) : EvT (tTest (tChain r r' ta tb tc)) σ H (a && b) := fun H1 e Q q =>
  ha H1 e _ fun H2 e2 => hb H2 (e.trans e2) _ fun H3 e3 => hr H3 ((e.trans e2).trans e3) _ fun H4 e4 => ⟨a, rfl, by
    cases a with
    | true =>
      show tc σ H4 _
      exact hc rfl H4 (((e.trans e2).trans e3).trans e4) _ fun H5 e5 => hr2 rfl H5 ((((e.trans e2).trans e3).trans e4).trans e5) _ fun H6 e6 => ⟨b, rfl, q H6 ((((e2.trans e3).trans e4).trans e5).trans e6)⟩
    | false => exact ⟨false, rfl, q H4 ((e2.trans e3).trans e4)⟩⟩
theorem rc_len {p : Addr} {xs : List V} (h : SqL K H p xs) : RC (rLenS K) [.ref p] H (.int xs.length) := fun H1 e _ q => ⟨p, xs, rfl, .inl (ex_l e h), q H1 (Ex.refl H1)⟩
theorem rc_lenT {p : Addr} {xs : List V} (h : SqT K H p xs) : RC (rLenS K) [.ref p] H (.int xs.length) := fun H1 e _ q => ⟨p, xs, rfl, .inr (ex_t e h), q H1 (Ex.refl H1)⟩
theorem rc_lenS {s : Str} (h : s.length ≤ 100000) : RC (fun vs H Q => ∃ z, vs = [V.str z] ∧ z.length ≤ sizeLine ∧ Q (.int z.length) H) [.str s] H (.int s.length) := fun H1 _ _ q => ⟨s, rfl, sz_of h, q H1 (Ex.refl H1)⟩
theorem rc_intB {b : Bool} : RC (fun vs H Q => (∃ i, vs = [V.int i] ∧ Q (.int i) H) ∨ ∃ k, vs = [V.bl k] ∧ Q (.int (if k then 1 else 0)) H) [.bl b] H (.int (if b then 1 else 0)) := fun H1 _ _ q => .inr ⟨b, rfl, q H1 (Ex.refl H1)⟩
theorem rc_strI {i : Int} (h : i.natAbs.log2 < 1920) : RC (fun vs H Q => ∃ i, vs = [V.int i] ∧ i.natAbs.log2 < 1920 ∧ Q (.str (toString i)) H) [.int i] H (.str (toString i)) := fun H1 _ _ q => ⟨i, rfl, h, q H1 (Ex.refl H1)⟩
/-- isinstance of a value whose type is known, and a built-in type -/
theorem rc_isi {c : String} {n : String} {b : Bool} (ht : ∀ H1, Ex H H1 → TyX K H1 x (.type c)) (hk : kitB c n = some b) : RC (rIsi K) [x, .ty n] H (.bl b) := fun H1 e _ q => ⟨x, .ty n, .type c, .type n, b, rfl, .ty n, ht H1 e, kit_ty hk, q H1 (Ex.refl H1)⟩
theorem tx_int {i : Int} : ∀ H1, Ex H H1 → TyX K H1 (.int i) (.type "int") := fun _ _ => .base (.int i)
theorem tx_str {s : Str} : ∀ H1, Ex H H1 → TyX K H1 (.str s) (.type "str") := fun _ _ => .base (.str s)
theorem tx_non : ∀ H1, Ex H H1 → TyX K H1 .non (.type "NoneType") := fun _ _ => .base .non
theorem tx_lst {a : Addr} {xs : List V} (h : H a = some (.lst xs)) : ∀ H1, Ex H H1 → TyX K H1 (.ref a) (.type "list") := fun _ e => .base (.lst (e a _ h))
theorem tx_tup {a : Addr} {xs : List V} (h : H a = some (.tup xs)) : ∀ H1, Ex H H1 → TyX K H1 (.ref a) (.type "tuple") := fun _ e => .base (.tup (e a _ h))
theorem rv_add_str {a b : Str} (h : a.length + b.length ≤ 100000) : RV (fun x y H Q => ∃ i j, x = V.str i ∧ y = V.str j ∧ i.length + j.length ≤ sizeLine ∧ Q (.str (i ++ j)) H) (.str a) (.str b) H (.str (a ++ b)) := fun H1 _ _ q => ⟨a, b, rfl, rfl, sz_of h, q H1 (Ex.refl H1)⟩
theorem rv_NT {a b : String} : RV rNT (.ty a) (.ty b) H (.bl (!decide (a = b))) := fun H1 _ _ q => ⟨a, b, rfl, rfl, q H1 (Ex.refl H1)⟩
theorem rc_typI {i : Int} : RC (rTyp K) [.int i] H (.ty "int") := fun H1 _ _ q => ⟨.int i, "int", rfl, .int i, q H1 (Ex.refl H1)⟩
theorem rv_isN : RV (fun x y H Q => y = V.non ∧ Q (.bl (decide (x = .non))) H) x .non H (.bl (decide (x = .non))) := fun H1 _ _ q => ⟨rfl, q H1 (Ex.refl H1)⟩
theorem s_retk (h : Ev te σ H v) (k : RetV v H D.rt) : tRet te D σ H := s_ret h k
theorem RetV.mono {Q : VK} (e : Ex H H') (k : RetV v H Q) : RetV v H' Q := fun H2 e2 => k H2 (e.trans e2)
end
theorem kb_ss : kitB "str" "str" = some true := by decide +kernel
theorem kb_ii : kitB "int" "int" = some true := by decide +kernel
theorem kb_ib : kitB "int" "bool" = some false := by decide +kernel
theorem kb_ll : kitB "list" "list" = some true := by decide +kernel
theorem kb_tt : kitB "tuple" "tuple" = some true := by decide +kernel
theorem decide_int (i j : Int) : decide (V.int i = V.int j) = decide (i = j) := by
  by_cases h : i = j
  · rw [h, decide_eq_true rfl, decide_eq_true rfl]
  · rw [decide_eq_false h, decide_eq_false (fun q => h (V.int.inj q))]
local macro_rules | `(tactic| walk_at "cond") => `(tactic| first | assumption | decide | (show (0 : Int) < _; decide) | (exact ⟨by decide, by decide⟩) | (exact ⟨by decide, by decide, by decide⟩) | (exact ⟨by omega, by omega⟩) | (exact Or.inl ⟨by decide, by decide⟩) | (exact Or.inl ⟨by omega, by omega⟩) | (exact Or.inr ⟨by decide, by decide⟩) | (unfold CMul; omega) | omega)
local macro_rules | `(tactic| walk_at "seq") => `(tactic| first | (with_reducible assumption) | (exact sq_of (by with_reducible assumption)) | (exact st_of (by with_reducible assumption)) | (exact ex_l (by with_reducible assumption) (by with_reducible assumption)) | (exact ex_t (by with_reducible assumption) (by with_reducible assumption)) | assumption)
local macro_rules | `(tactic| walk_at "rv") => `(tactic| first | (with_reducible exact rv_I0) | ((with_reducible apply rv_I); walk_at "cond") | ((with_reducible apply rv_eq); rfl) | ((with_reducible apply rv_ne); rfl) | (with_reducible exact rv_NT) | (with_reducible exact rv_isN) | ((with_reducible apply rv_add_str); walk_at "cond"))
local macro_rules | `(tactic| walk_at "rc") => `(tactic| first | ((with_reducible apply rc_len); walk_at "seq") | ((with_reducible apply rc_lenT); walk_at "seq") | ((with_reducible apply rc_lenS); walk_at "cond") | (with_reducible exact rc_intB) | (with_reducible exact rc_typI) | ((with_reducible apply rc_strI); walk_at "cond") | (exact rc_isi tx_str kb_ss) | (exact rc_isi tx_int kb_ii) | (exact rc_isi tx_int kb_ib) | (exact rc_isi (tx_lst (by with_reducible assumption)) kb_ll) | (exact rc_isi (tx_tup (by with_reducible assumption)) kb_tt))
local macro_rules | `(tactic| walk_at "spv") => `(tactic| fail "no promise")
local macro_rules | `(tactic| walk_at "ea") => `(tactic| first | (with_reducible exact ea_nil) | ((with_reducible apply ea_cons); walk_at "ev"; walk_at "ea"))
local macro_rules | `(tactic| walk_at "ev") => `(tactic| first
  | (with_reducible exact ev_c)
  | ((with_reducible apply ev_var); rfl)
  | ((with_reducible apply ev_op); walk_at "ev"; walk_at "ev"; walk_at "rv")
  | ((with_reducible apply ev_cb); walk_at "ea"; walk_at "rc")
  | ((with_reducible apply ev_call); walk_at "ea"; walk_at "spv")
  | ((with_reducible apply ev_notV); walk_at "ev")
  | ((with_reducible apply ev_andV); walk_at "ev"; (intro _; walk_at "ev"))
  | ((with_reducible apply ev_orV); walk_at "ev"; (intro _; walk_at "ev")))
local macro_rules | `(tactic| walk_at "et") => `(tactic| first
  | ((with_reducible apply et_chain); walk_at "ev"; walk_at "ev"; walk_at "rv"; (intro _; walk_at "ev"); (intro _; walk_at "rv"))
  | ((with_reducible apply et_test); walk_at "ev")
  | ((with_reducible apply et_B); walk_at "ev")
  | ((with_reducible apply et_not); walk_at "et")
  | ((with_reducible apply et_or); walk_at "et"; (intro _; walk_at "et"))
  | ((with_reducible apply et_and); walk_at "et"; (intro _; walk_at "et")))
section
variable {K : PySem.W.Frag} {σ : L2.St} {H H' : Hp} {ta tb tc te tx : TE} {x y z v : V}
theorem ev_fmtB {n : Nat} (h : Ev te σ H (.int (n : Int))) (hn : n < 256) : Ev (tFmtB te) σ H (.str (binT n)) := fun H1 e Q q => h H1 e _ fun H2 e2 => ⟨n, rfl, binT_len n hn, q H2 e2⟩
theorem ev_bmS {r : V → List V → Hp → VK → Prop} {t : TA} {s : Str} {vs : List V} (h : Ev te σ H (.str s)) (ha : EvA t σ H vs) (hr : ∀ H1, Ex H H1 → ∀ Q : VK, (∀ H2, Ex H1 H2 → Q z H2) → r (.str s) vs H1 Q) : Ev (tBM K "str" r te t) σ H z := fun H1 e Q q =>
  h H1 e _ fun H2 e2 => ⟨rfl, ha H2 (e.trans e2) _ fun H3 e3 => hr H3 ((e.trans e2).trans e3) Q fun H4 e4 => q H4 ((e2.trans e3).trans e4)⟩
theorem ev_zfill {t : TA} {s : Str} {i : Int} (h : Ev te σ H (.str s)) (ha : EvA t σ H [.int i]) (hi : PadOk i = true) : Ev (tBM K "str" (fun x xs H Q => ∃ (a : Str) (i : Int), x = .str a ∧ xs = [.int i] ∧ PadOk i = true ∧ Q (.str (Txt.zfill a i)) H) te t) σ H (.str (Txt.zfill s i)) :=
  ev_bmS h ha fun H1 _ _ q => ⟨s, i, rfl, rfl, hi, q H1 (Ex.refl H1)⟩
end
local macro_rules | `(tactic| walk_at "asg") => `(tactic| ((first | with_reducible apply q_asg | with_reducible apply s_asg); walk_at "ev"))
local macro_rules | `(tactic| walk_at "drop") => `(tactic| ((first | with_reducible apply q_drop | with_reducible apply s_drop); walk_at "ev"))
local macro_rules | `(tactic| walk_at "ret") => `(tactic| ((with_reducible apply s_retk); walk_at "ev"))
local macro_rules | `(tactic| walk_at "when") => `(tactic| ((first | with_reducible apply q_when | with_reducible apply s_when | with_reducible apply q_if | with_reducible apply s_if); walk_at "et"))
theorem q_forS {te : TE} {σ : L2.St} {H : Hp} {D : Ends} {tu tz : TS} {s : Str} {j : Nat} (h : Ev te σ H (.str s)) (Pv : Nat → L2.St → Hp → Prop) (h0 : ∀ H1, Ex H H1 → Pv 0 σ H1)
    (hs : ∀ i c σ' H', s.cps[i]? = some c → Pv i σ' H' → tu { D with nx := Pv (i + 1), ct := Pv (i + 1), bk := tz D } (σ'.set j (some (.str ⟨#[c]⟩))) H') (hd : ∀ σ' H', Pv s.cps.size σ' H' → tz D σ' H') : tSeq (tFor (iStr te) (gName j) tu) tz D σ H :=
  h H (Ex.refl H) _ fun H1 e => ⟨s, rfl, for_it walk_str Pv (h0 H1 e) (fun _ _ _ _ _ => trivial) (fun i x σ' H' H'' hi p y => by
    obtain ⟨rfl, c, hc, rfl⟩ := y
    exact hs i c σ' H'' hc p) hd⟩
def spLaw (K : PySem.W.Frag) : Sp := fun vs H Q _ => ∃ (a : Addr) (ns : List Int), vs = [.ref a] ∧ SqL K H a (ns.map V.int) ∧ ns.length ≤ 63 ∧ ∀ H', Q (.bl true) H'
/-! ### lists of things told by data -/
structure Rp (α : Type) where
  R : Hp → V → α → Prop
  mono : ∀ {H H' : Hp} {v : V} {a : α}, Ex H H' → R H v a → R H' v a
  lst : ∀ {H : Hp} {D : Addr} {xs ys : List V} {v : V} {a : α}, H D = some (.lst xs) → R H v a → R (upd H D (.lst ys)) v a
def rpInt : Rp Int := ⟨fun _ v i => v = .int i, fun _ h => h, fun _ h => h⟩
def rpStr : Rp Str := ⟨fun _ v s => v = .str s, fun _ h => h, fun _ h => h⟩
/-- a thing: a tuple of a name and a value -/
def Thg (H : Hp) (v : V) (p : Int × Int) : Prop := ∃ t, v = .ref t ∧ H t = some (.tup [.int p.1, .int p.2])
def rpT : Rp (Int × Int) := ⟨Thg, fun e ⟨t, h1, h2⟩ => ⟨t, h1, e t _ h2⟩, fun hD ⟨t, h1, h2⟩ => ⟨t, h1, by rw [upd_ne (ne_of h2 hD (by intro z; cases z))]; exact h2⟩⟩
abbrev PR {α : Type} (r : Rp α) (H : Hp) (xs : List V) (as : List α) : Prop := Paired (r.R H) xs as
/-- at p a list that is told by as -/
def LR {α : Type} (r : Rp α) (H : Hp) (p : Addr) (as : List α) : Prop := ∃ ys, H p = some (.lst ys) ∧ PR r H ys as
section
variable {α β : Type} {r : Rp α} {r' : Rp β} {H H' : Hp} {xs ys : List V} {as bs : List α}
theorem pr_mono (e : Ex H H') : ∀ {xs : List V} {as : List α}, PR r H xs as → PR r H' xs as
  | _, _, .nil => .nil
  | _, _, .cons h t => .cons (r.mono e h) (pr_mono e t)
theorem pr_lst {D : Addr} {zs ws : List V} (h : H D = some (.lst zs)) : ∀ {xs : List V} {as : List α}, PR r H xs as → PR r (upd H D (.lst ws)) xs as
  | _, _, .nil => .nil
  | _, _, .cons a t => .cons (r.lst h a) (pr_lst h t)
theorem pr_get : ∀ {xs : List V} {as : List α} {i : Nat} {x : V}, PR r H xs as → xs[i]? = some x → ∃ a, as[i]? = some a ∧ r.R H x a
  | _, _, i, x, .nil, h => by simp at h
  | _, _, 0, x, .cons a t, h => by
    cases (Option.some.inj h)
    exact ⟨_, rfl, a⟩
  | _, _, i + 1, x, .cons a t, h => pr_get (i := i) t h
theorem pr_at : ∀ {xs : List V} {as : List α} {i : Nat} {a : α}, PR r H xs as → as[i]? = some a → ∃ x, xs[i]? = some x ∧ r.R H x a
  | _, _, i, x, .nil, h => by simp at h
  | _, _, 0, x, .cons a t, h => by
    cases (Option.some.inj h)
    exact ⟨_, rfl, a⟩
  | _, _, i + 1, x, .cons a t, h => pr_at (i := i) t h
theorem pr_app : ∀ {xs ys : List V} {as bs : List α}, PR r H xs as → PR r H ys bs → PR r H (xs ++ ys) (as ++ bs)
  | _, _, _, _, .nil, h => h
  | _, _, _, _, .cons a t, h => .cons a (pr_app t h)
theorem LR.mono (e : Ex H H') {p : Addr} (h : LR r H p as) : LR r H' p as := by
  obtain ⟨ys, h1, h2⟩ := h
  exact ⟨ys, e p _ h1, pr_mono e h2⟩
theorem pr_ints : ∀ {ms : List Int}, PR rpInt H (ms.map V.int) ms
  | [] => .nil
  | _ :: _ => .cons rfl pr_ints
theorem pr_ints_eq : ∀ {xs : List V} {ms : List Int}, PR rpInt H xs ms → xs = ms.map V.int
  | _, _, .nil => rfl
  | _, _, .cons h t => by
    rw [pr_ints_eq t, show _ = V.int _ from h]
    rfl
theorem take_snoc {γ : Type} {l : List γ} {i : Nat} {x : γ} (h : l[i]? = some x) : l.take (i + 1) = l.take i ++ [x] := by
  rw [List.take_add_one, h]
  rfl
end
/-- what evaluates to something told -/
def EvR (te : TE) (σ : L2.St) (H : Hp) (P : Hp → V → Prop) : Prop := ∀ H1, Ex H H1 → ∀ Q : VK, (∀ v H2, Ex H1 H2 → P H2 v → Q v H2) → te σ H1 Q
def EvLR {β : Type} (r : Rp β) (te : TE) (σ : L2.St) (H : Hp) (bs : List β) : Prop := ∀ H1, Ex H H1 → ∀ Q : VK, (∀ p H2, H1 p = none → Ex H1 H2 → LR r H2 p bs → Q (.ref p) H2) → te σ H1 Q
def RetLR {β : Type} (r : Rp β) (bs : List β) (H : Hp) (Q : VK) : Prop := ∀ p H2, H p = none → Ex H H2 → LR r H2 p bs → Q (.ref p) H2
section
variable {α β : Type} {r : Rp α} {r' : Rp β} {K : PySem.W.Frag} {σ : L2.St} {H H' : Hp} {ta tb te tl : TE} {t : TT} {x y v : V} {D : Ends} {tz : TS}
theorem RetLR.mono {bs : List β} {Q : VK} (e : Ex H H') (k : RetLR r' bs H Q) : RetLR r' bs H' Q := fun p H2 hp e2 h => k p H2 (fresh_back e hp) (e.trans e2) h
theorem ev_R {P : Hp → V → Prop} (h : Ev te σ H v) (hp : ∀ H2, Ex H H2 → P H2 v) : EvR te σ H P := fun H1 e Q q => h H1 e _ fun H2 e2 => q v H2 e2 (hp H2 (e.trans e2))
theorem ev_Rtup {vs : List V} {ta : TA} {P : Hp → V → Prop} (h : EvA ta σ H vs) (hl : vs.length ≤ 100000) (hp : ∀ p H2, H2 p = some (.tup vs) → P H2 (.ref p)) : EvR (tTup ta) σ H P := fun H1 e Q q =>
  (eu_tup h hl) H1 e _ fun p H2 _ e2 h2 => q _ H2 e2 (hp p H2 h2)
theorem EvR.mono {P : Hp → V → Prop} (e : Ex H H') (h : EvR te σ H P) : EvR te σ H' P := fun H1 a Q q => h H1 (e.trans a) Q q
theorem EvLR.mono {bs : List β} (e : Ex H H') (h : EvLR r' te σ H bs) : EvLR r' te σ H' bs := fun H1 a Q q => h H1 (e.trans a) Q q
theorem EvLR.to {as bs : List β} (h : EvLR r' te σ H as) (e : as = bs) : EvLR r' te σ H bs := e ▸ h
theorem lcLR {xs : List V} {as : List α} {a : Addr} {j : Nat} {vs : List Nat} (q : α → Bool) (g : α → β) (h : Ev tl σ H (.ref a)) (hx : SqL K H a xs) (hp : PR r H xs as) (hz : as.length ≤ 40000)
    (hw : ∀ x, wipe ((wipe σ vs).set j (some x)) vs = wipe σ vs)
    (ht : ∀ x b H1, Ex H H1 → b ∈ as → r.R H1 x b → EvT t ((wipe σ vs).set j (some x)) H1 (q b))
    (he : ∀ x b H1, Ex H H1 → b ∈ as → r.R H1 x b → q b = true → EvR te ((wipe σ vs).set j (some x)) H1 (fun H2 v => r'.R H2 v (g b))) :
    EvLR r' (tLc (iList K tl) (gName j) t te vs) σ H ((as.filter q).map g) := fun H0 e Q qq => h H0 e _ fun H1 e1 => ⟨a, rfl, ⟨xs, ex_l (e.trans e1) hx⟩, fun Dl hD => by
  have hlen := hp.length
  refine lc_list (xs := xs) (fun i H' => Ex H1 H' ∧ ∃ ys, H' Dl = some (.lst ys) ∧ ys.length ≤ i ∧ PR r' H' ys (((as.take i).filter q).map g)) ⟨Ex.new hD, [], upd_same, Nat.le_refl _, by rw [List.take_zero]; exact .nil⟩ (fun i H' _ p => ex_l ((e.trans e1).trans p.1) hx) (fun i x H' hi p => ⟨hw x, ?_⟩) fun H' p => ?_
  · obtain ⟨p1, ys, p2, p3, p4⟩ := p
    obtain ⟨b, hb, rb⟩ := pr_get hp hi
    have hmem : b ∈ as := List.mem_of_getElem? hb
    have hil : i < xs.length := (List.getElem?_eq_some_iff.mp hi).1
    have eE := (e.trans e1).trans p1
    refine ht x b H' eE hmem (r.mono eE rb) H' (Ex.refl H') _ fun H3 e3 => ?_
    cases hq : q b with
    | true =>
      show te ((wipe σ vs).set j (some x)) H3 _
      refine he x b H' eE hmem (r.mono eE rb) hq H3 e3 _ fun y H4 e4 ry => ⟨ys, e4 Dl _ (e3 Dl _ p2), sz_lt (by omega), Ex.mut ((p1.trans e3).trans e4) hD, ys ++ [y], upd_same, by rw [List.length_append]; exact Nat.succ_le_succ p3, ?_⟩
      have hD4 : H4 Dl = some (.lst ys) := e4 Dl _ (e3 Dl _ p2)
      rw [take_snoc hb, List.filter_append, List.map_append, List.filter_cons, if_pos hq]
      exact pr_lst hD4 (pr_app (pr_mono (e3.trans e4) p4) (.cons ry .nil))
    | false =>
      show Ex H1 H3 ∧ _
      refine ⟨p1.trans e3, ys, e3 Dl _ p2, by omega, ?_⟩
      rw [take_snoc hb, List.filter_append, List.filter_cons, if_neg (by rw [hq]; decide), List.filter_nil, List.append_nil]
      exact pr_mono e3 p4
  · obtain ⟨p1, ys, p2, p3, p4⟩ := p
    refine qq Dl H' (fresh_back e1 hD) (e1.trans p1) ⟨ys, p2, ?_⟩
    rw [hlen, List.take_length] at p4
    exact p4⟩
/-- over range(n) -/
theorem lcRR {ta : TA} {j : Nat} {vs : List Nat} {n : Nat} (q : Nat → Bool) (g : Nat → β) (h : EvA ta σ H [.int (n : Int)]) (hn : n ≤ 40000) (hw : ∀ x, wipe ((wipe σ vs).set j (some x)) vs = wipe σ vs)
    (ht : ∀ (i : Nat) H1, Ex H H1 → i < n → EvT t ((wipe σ vs).set j (some (.int (i : Int)))) H1 (q i))
    (he : ∀ (i : Nat) H1, Ex H H1 → i < n → q i = true → EvR te ((wipe σ vs).set j (some (.int (i : Int)))) H1 (fun H2 v => r'.R H2 v (g i))) :
    EvLR r' (tLc (iRng1 ta) (gName j) t te vs) σ H (((List.range n).filter q).map g) := fun H0 e Q qq => h H0 e _ fun H1 e1 => ⟨(n : Int), rfl, by omega, by omega, fun Dl hD => by
  refine lc_range (lo := 0) (n := n) (fun i H' => Ex H1 H' ∧ ∃ ys, H' Dl = some (.lst ys) ∧ ys.length ≤ i ∧ PR r' H' ys (((List.range i).filter q).map g)) ⟨Ex.new hD, [], upd_same, Nat.le_refl _, .nil⟩ (fun i H' hi p => ?_) fun H' p => ?_
  · obtain ⟨p1, ys, p2, p3, p4⟩ := p
    have e0 : (0 : Int) + (i : Int) = (i : Int) := Int.zero_add _
    rw [e0]
    refine ⟨hw _, ?_⟩
    have eE := (e.trans e1).trans p1
    refine ht i H' eE hi H' (Ex.refl H') _ fun H3 e3 => ?_
    cases hq : q i with
    | true =>
      show te ((wipe σ vs).set j (some (.int (i : Int)))) H3 _
      refine he i H' eE hi hq H3 e3 _ fun y H4 e4 ry => ⟨ys, e4 Dl _ (e3 Dl _ p2), sz_lt (by omega), Ex.mut ((p1.trans e3).trans e4) hD, ys ++ [y], upd_same, by rw [List.length_append]; exact Nat.succ_le_succ p3, ?_⟩
      have hD4 : H4 Dl = some (.lst ys) := e4 Dl _ (e3 Dl _ p2)
      rw [List.range_succ, List.filter_append, List.map_append, List.filter_cons, if_pos hq]
      exact pr_lst hD4 (pr_app (pr_mono (e3.trans e4) p4) (.cons ry .nil))
    | false =>
      show Ex H1 H3 ∧ _
      refine ⟨p1.trans e3, ys, e3 Dl _ p2, by omega, ?_⟩
      rw [List.range_succ, List.filter_append, List.filter_cons, if_neg (by rw [hq]; decide), List.filter_nil, List.append_nil]
      exact pr_mono e3 p4
  · obtain ⟨p1, ys, p2, p3, p4⟩ := p
    exact qq Dl H' (fresh_back e1 hD) (e1.trans p1) ⟨ys, p2, p4⟩⟩
theorem s_asgLR {i : Nat} {bs : List β} (h : EvLR r' te σ H bs) (k : ∀ p H1, H p = none → Ex H H1 → LR r' H1 p bs → D.nx (σ.set i (some (.ref p))) H1) : tAsg te (gName i) D σ H := h H (Ex.refl H) _ fun p H1 hp e h1 => k p H1 hp e h1
theorem q_asgLR {i : Nat} {bs : List β} (h : EvLR r' te σ H bs) (k : ∀ p H1, H p = none → Ex H H1 → LR r' H1 p bs → tz D (σ.set i (some (.ref p))) H1) : tSeq (tAsg te (gName i)) tz D σ H := s_asgLR (D := { D with nx := tz D }) h k
theorem s_retLR {bs : List β} (h : EvLR r' te σ H bs) (k : RetLR r' bs H D.rt) : tRet te D σ H := h H (Ex.refl H) _ k
/-- a promise that hands back a new list -/
def SpLR (r : Rp β) (sp : Sp) (vs : List V) (H : Hp) (bs : List β) : Prop := ∀ H1, Ex H H1 → ∀ Q : VK, RetLR r bs H1 Q → ∀ E : XK, sp vs H1 Q E
theorem ev_callLR {sp : Sp} {dvs vs : List V} {E : XK} {ta : TA} {bs : List β} (h : EvA ta σ H vs) (hs : SpLR r' sp (vs ++ dvs) H bs) : EvLR r' (tCall sp dvs E ta) σ H bs := fun H1 e Q q =>
  h H1 e _ fun H2 e2 => hs H2 (e.trans e2) Q (fun p H3 hp e3 h3 => q p H3 (fresh_back e2 hp) (e2.trans e3) h3) E
/-- l + m of two lists, both new -/
theorem ev_catLR {as bs : List β} (ha : EvLR r' ta σ H as) (hb : EvLR r' tb σ H bs) (hz : as.length + bs.length ≤ 100000) : EvLR r' (tOp rCat ta tb) σ H (as ++ bs) := fun H1 e Q q =>
  ha H1 e _ fun p H2 hp e2 ⟨xs, h1, h2⟩ => hb H2 (e.trans e2) _ fun p' H3 hp' e3 ⟨ys, h3, h4⟩ => by
    refine ⟨p, p', xs, ys, rfl, rfl, e3 p _ h1, h3, ?_, fun l hl => ?_⟩
    · rw [h2.length, h4.length]
      exact sz_of hz
    · exact q l _ (fresh_back (e2.trans e3) hl) ((e2.trans e3).trans (Ex.new hl)) ⟨_, upd_same, pr_mono (Ex.new hl) (pr_app (pr_mono e3 h2) h4)⟩
end
/-! ### data compared -/
def dI (ms : List Int) : PyData := .list (ms.map PyData.int)
def dT (ps : List (Int × Int)) : PyData := .list (ps.map fun p => .tuple [.int p.1, .int p.2])
theorem lay_ints : ∀ ms : List Int, PyData.canLayAll0 (ms.map PyData.int) = true
  | [] => rfl
  | m :: r => by
    show (PyData.canLay0 (.int m) && PyData.canLayAll0 (r.map PyData.int)) = true
    rw [lay_ints r]
    rfl
theorem deep_ints : ∀ ms : List Int, PyData.depthAll (ms.map PyData.int) ≤ 1
  | [] => by simp [PyData.depthAll]
  | m :: r => by
    have := deep_ints r
    show max (PyData.depth (.int m)) (PyData.depthAll (r.map PyData.int)) ≤ 1
    have h0 : PyData.depth (.int m) = 0 := by simp [PyData.depth]
    omega
theorem shaped_dI (ms : List Int) : SeqAt.shaped (dI ms) = true := by
  unfold SeqAt.shaped
  have h1 : (dI ms).canLay0 = true := lay_ints ms
  have h2 : (dI ms).depth ≤ 64 := by
    have := deep_ints ms
    show PyData.depthAll (ms.map PyData.int) + 1 ≤ 64
    omega
  rw [h1, decide_eq_true h2]
  rfl
theorem lay_pairs : ∀ ps : List (Int × Int), PyData.canLayAll0 (ps.map fun p => .tuple [.int p.1, .int p.2]) = true
  | [] => rfl
  | m :: r => by
    show (PyData.canLay0 (.tuple [.int m.1, .int m.2]) && PyData.canLayAll0 (r.map fun p => .tuple [.int p.1, .int p.2])) = true
    rw [lay_pairs r]
    rfl
theorem deep_pairs : ∀ ps : List (Int × Int), PyData.depthAll (ps.map fun p => .tuple [.int p.1, .int p.2]) ≤ 2
  | [] => by simp [PyData.depthAll]
  | m :: r => by
    have := deep_pairs r
    show max (PyData.depth (.tuple [.int m.1, .int m.2])) (PyData.depthAll (r.map fun p => .tuple [.int p.1, .int p.2])) ≤ 2
    have h0 : PyData.depth (.tuple [.int m.1, .int m.2]) ≤ 2 := by simp [PyData.depth, PyData.depthAll]
    omega
theorem shaped_dT (ps : List (Int × Int)) : SeqAt.shaped (dT ps) = true := by
  unfold SeqAt.shaped
  have h1 : (dT ps).canLay0 = true := lay_pairs ps
  have h2 : (dT ps).depth ≤ 64 := by
    have := deep_pairs ps
    show PyData.depthAll (ps.map fun p => .tuple [.int p.1, .int p.2]) + 1 ≤ 64
    omega
  rw [h1, decide_eq_true h2]
  rfl
theorem eqv_pairs : ∀ ps : List (Int × Int), PyData.eqvAll (ps.map fun p => .tuple [.int p.1, .int p.2]) (ps.map fun p => .tuple [.int p.1, .int p.2]) = true
  | [] => by simp [PyData.eqvAll]
  | m :: r => by
    have := eqv_pairs r
    simp only [List.map_cons, PyData.eqvAll, this, Bool.and_true, PyData.eqv, beq_self_eq_true]
theorem eqv_dT (ps : List (Int × Int)) : PyData.eqv (dT ps) (dT ps) = true := by
  have := eqv_pairs ps
  simp only [dT, PyData.eqv, this]
theorem eqv_nil (ms : List Int) : PyData.eqv (dI ms) (.list []) = ms.isEmpty := by
  cases ms <;> simp [dI, PyData.eqv, PyData.eqvAll]
section
variable {K : PySem.W.Frag} {σ : L2.St} {H H' : Hp} {ta tb te : TE}
theorem dp_ints {xs : List V} {ms : List Int} (h : PR rpInt H xs ms) : DpAll K H xs (ms.map PyData.int) := by
  induction h with
  | nil => exact .nil
  | cons a t ih =>
    rw [show _ = V.int _ from a]
    exact .cons (.int _) ih
theorem dp_pairs : ∀ {xs : List V} {ps : List (Int × Int)}, PR rpT H xs ps → DpAll K H xs (ps.map fun p => .tuple [.int p.1, .int p.2])
  | _, _, .nil => .nil
  | _, _, .cons ⟨t, e, h⟩ r => by
    rw [e]
    exact .cons (.tup (st_of h) (.cons (.int _) (.cons (.int _) .nil))) (dp_pairs r)
theorem ev_neNil {p : Addr} {ms : List Int} (ha : Ev ta σ H (.ref p)) (h : LR rpInt H p ms) : Ev (tOp (rNeD K) ta (tLst tNil)) σ H (.bl (!ms.isEmpty)) := by
  obtain ⟨ys, h1, h2⟩ := h
  refine ev_opL (xs := []) ha (el_lst ea_nil (by decide)) fun q H1 hq e1 => ?_
  intro H2 e2 Q k
  refine ⟨dI ms, .list [], .lst (sq_of ((e1.trans e2) _ _ h1)) (dp_ints (pr_mono (e1.trans e2) h2)), .lst (sq_of (e2 _ _ hq)) .nil, shaped_dI ms, by decide +kernel, ?_⟩
  rw [eqv_nil]
  exact k H2 (Ex.refl H2)
theorem ev_eqTT {as bs : List (Int × Int)} (ha : EvLR rpT ta σ H as) (hb : EvLR rpT tb σ H bs) (he : as = bs) : Ev (tOp (rEqD K) ta tb) σ H (.bl true) := fun H1 e Q q =>
  ha H1 e _ fun p H2 _ e2 ⟨xs, h1, h2⟩ => hb H2 (e.trans e2) _ fun p' H3 _ e3 ⟨ys, h3, h4⟩ => by
    subst he
    refine ⟨dT as, dT as, .lst (sq_of (e3 _ _ h1)) (dp_pairs (pr_mono e3 h2)), .lst (sq_of h3) (dp_pairs h4), shaped_dT _, shaped_dT _, ?_⟩
    rw [eqv_dT]
    exact q H3 (e2.trans e3)
theorem ev_listLR {α : Type} {r : Rp α} {p : Addr} {as : List α} (ha : Ev ta σ H (.ref p)) (h : LR r H p as) : EvLR r (tCB (rListS K) (tCons ta tNil)) σ H as := fun H1 e Q q =>
  ha H1 e _ fun H2 e2 => by
    obtain ⟨ys, h1, h2⟩ := h.mono (e.trans e2)
    exact ⟨p, ys, rfl, Or.inl (sq_of h1), fun l hl => q l _ (fresh_back e2 hl) (e2.trans (Ex.new hl)) ⟨ys, upd_same, pr_mono (Ex.new hl) h2⟩⟩
theorem el_oneLR {α : Type} {r : Rp α} {b : α} (h : EvR te σ H (fun H2 v => r.R H2 v b)) : EvLR r (tLst (tCons te tNil)) σ H [b] := fun H1 e Q q =>
  h H1 e _ fun v H2 e2 hv => ⟨by show 1 ≤ sizeLine; decide, fun l hl => q l _ (fresh_back e2 hl) (e2.trans (Ex.new hl)) ⟨_, upd_same, .cons (r.mono (Ex.new hl) hv) .nil⟩⟩
end
theorem q_asgCall {sp : Sp} {dvs vs : List V} {E : XK} {ta : TA} {i : Nat} {σ : L2.St} {H : Hp} {D : Ends} {tz : TS} (h : EvA ta σ H vs) (k : ∀ H1, Ex H H1 → sp (vs ++ dvs) H1 (fun v H2 => tz D (σ.set i (some v)) H2) E) : tSeq (tAsg (tCall sp dvs E ta) (gName i)) tz D σ H := h H (Ex.refl H) _ fun H1 e => k H1 e
theorem st_nf {t : TS} {D : Ends} {σ σ' : L2.St} {H : Hp} (e : σ = σ') (h : t D σ' H) : t D σ H := e ▸ h
def top (i : Nat) : Stmt := PySem.Challenge.pw_splitrooms_k03_things_of_a_room.main.body.getD i (.Pass ⟨0, 0, 0, 0⟩)
abbrev s_with_thing : Stmt := top 1
abbrev n_with_thing : List Str := ["things", "name", "value", "ahead", "behind", "thing"]
theorem sc_with_thing : FnScope n_with_thing ["things", "name", "value"] (defScope s_with_thing) := ⟨rfl, rfl, rfl, by decide +kernel, rfl, by decide +kernel, by decide +kernel⟩
abbrev s_without_thing : Stmt := top 2
abbrev n_without_thing : List Str := ["things", "name", "thing"]
theorem sc_without_thing : FnScope n_without_thing ["things", "name"] (defScope s_without_thing) := ⟨rfl, rfl, rfl, by decide +kernel, rfl, by decide +kernel, by decide +kernel⟩
abbrev s_value_in : Stmt := top 3
abbrev n_value_in : List Str := ["things", "name", "held", "value"]
theorem sc_value_in : FnScope n_value_in ["things", "name"] (defScope s_value_in) := ⟨rfl, rfl, rfl, by decide +kernel, rfl, by decide +kernel, by decide +kernel⟩
abbrev s_l_whole : Stmt := top 5
abbrev n_l_whole : List Str := ["_law_found"]
theorem sc_l_whole : FnScope n_l_whole ["_law_found"] (defScope s_l_whole) := ⟨rfl, rfl, rfl, by decide +kernel, rfl, by decide +kernel, by decide +kernel⟩
abbrev s_l_cell_at : Stmt := top 6
abbrev n_l_cell_at : List Str := ["_law_script", "_law_k"]
theorem sc_l_cell_at : FnScope n_l_cell_at ["_law_script", "_law_k"] (defScope s_l_cell_at) := ⟨rfl, rfl, rfl, by decide +kernel, rfl, by decide +kernel, by decide +kernel⟩
abbrev s_l_value : Stmt := top 7
abbrev n_l_value : List Str := ["_law_cell", "_law_k"]
theorem sc_l_value : FnScope n_l_value ["_law_cell", "_law_k"] (defScope s_l_value) := ⟨rfl, rfl, rfl, by decide +kernel, rfl, by decide +kernel, by decide +kernel⟩
abbrev s_l_names : Stmt := top 8
abbrev n_l_names : List Str := ["_law_script", "_law_many", "_law_begin", "_law_k", "_law_found", "_law_name"]
theorem sc_l_names : FnScope n_l_names ["_law_script"] (defScope s_l_names) := ⟨rfl, rfl, rfl, by decide +kernel, rfl, by decide +kernel, by decide +kernel⟩
abbrev s_l_alike : Stmt := top 9
abbrev n_l_alike : List Str := ["_law_found", "_law_due", "_law_k", "_law_one"]
theorem sc_l_alike : FnScope n_l_alike ["_law_found", "_law_due"] (defScope s_l_alike) := ⟨rfl, rfl, rfl, by decide +kernel, rfl, by decide +kernel, by decide +kernel⟩
abbrev s_law : Stmt := top 10
abbrev n_law : List Str := ["_law_script", "_law_names_here", "_law_shift", "_law_things", "_law_name", "_law_value_here", "_law_handed", "_law_more", "_law_less", "_law_told", "_law_others", "_law_due", "_law_k", "_law_one"]
theorem sc_law : FnScope n_law ["_law_script"] (defScope s_law) := ⟨rfl, rfl, rfl, by decide +kernel, rfl, by decide +kernel, by decide +kernel⟩
structure Top (K : PySem.W.Frag) (mg : Str → Option Value) where
  a_with_thing : Addr
  fd_with_thing : FuncData
  F_with_thing : Fun K "with_thing" "with_thing" s_with_thing a_with_thing fd_with_thing
  g_with_thing : mg "with_thing" = some (.ref a_with_thing)
  b_with_thing : Binds K fd_with_thing ["things", "name", "value"] []
  a_without_thing : Addr
  fd_without_thing : FuncData
  F_without_thing : Fun K "without_thing" "without_thing" s_without_thing a_without_thing fd_without_thing
  g_without_thing : mg "without_thing" = some (.ref a_without_thing)
  b_without_thing : Binds K fd_without_thing ["things", "name"] []
  a_value_in : Addr
  fd_value_in : FuncData
  F_value_in : Fun K "value_in" "value_in" s_value_in a_value_in fd_value_in
  g_value_in : mg "value_in" = some (.ref a_value_in)
  b_value_in : Binds K fd_value_in ["things", "name"] []
  a_l_whole : Addr
  fd_l_whole : FuncData
  F_l_whole : Fun K "_law_whole" "_law_whole" s_l_whole a_l_whole fd_l_whole
  g_l_whole : mg "_law_whole" = some (.ref a_l_whole)
  b_l_whole : Binds K fd_l_whole ["_law_found"] []
  a_l_cell_at : Addr
  fd_l_cell_at : FuncData
  F_l_cell_at : Fun K "_law_cell_at" "_law_cell_at" s_l_cell_at a_l_cell_at fd_l_cell_at
  g_l_cell_at : mg "_law_cell_at" = some (.ref a_l_cell_at)
  b_l_cell_at : Binds K fd_l_cell_at ["_law_script", "_law_k"] []
  a_l_value : Addr
  fd_l_value : FuncData
  F_l_value : Fun K "_law_value" "_law_value" s_l_value a_l_value fd_l_value
  g_l_value : mg "_law_value" = some (.ref a_l_value)
  b_l_value : Binds K fd_l_value ["_law_cell", "_law_k"] []
  a_l_names : Addr
  fd_l_names : FuncData
  F_l_names : Fun K "_law_names" "_law_names" s_l_names a_l_names fd_l_names
  g_l_names : mg "_law_names" = some (.ref a_l_names)
  b_l_names : Binds K fd_l_names ["_law_script"] []
  a_l_alike : Addr
  fd_l_alike : FuncData
  F_l_alike : Fun K "_law_alike" "_law_alike" s_l_alike a_l_alike fd_l_alike
  g_l_alike : mg "_law_alike" = some (.ref a_l_alike)
  b_l_alike : Binds K fd_l_alike ["_law_found", "_law_due"] []
  a_law : Addr
  fd_law : FuncData
  F_law : Fun K "law" "law" s_law a_law fd_law
  g_law : mg "law" = some (.ref a_law)
  b_law : Binds K fd_law ["_law_script"] []
  z_bool : mg "bool" = none
  z_int : mg "int" = none
  z_isinstance : mg "isinstance" = none
  z_len : mg "len" = none
  z_list : mg "list" = none
  z_range : mg "range" = none
  z_sorted : mg "sorted" = none
  z_tuple : mg "tuple" = none
local macro_rules | `(tactic| walk_at "rv") => `(tactic| ((with_reducible apply rv_ixT); walk_at "seq"; rfl))
/-! ### the program's -/
def withT (ps : List (Int × Int)) (n v : Int) : List (Int × Int) := ps.filter (fun p => decide (p.1 < n)) ++ (n, v) :: ps.filter (fun p => decide (n < p.1))
def withoutT (ps : List (Int × Int)) (n : Int) : List (Int × Int) := ps.filter fun p => !decide (p.1 = n)
def valIn : List (Int × Int) → Int → V
  | [], _ => .non
  | p :: r, n => if p.1 = n then .int p.2 else valIn r n
def spWith : Sp := fun vs H Q _ => ∃ (a : Addr) (ps : List (Int × Int)) (n v : Int), vs = [.ref a, .int n, .int v] ∧ LR rpT H a ps ∧ ps.length ≤ 1000 ∧ RetLR rpT (withT ps n v) H Q
def spWithout : Sp := fun vs H Q _ => ∃ (a : Addr) (ps : List (Int × Int)) (n : Int), vs = [.ref a, .int n] ∧ LR rpT H a ps ∧ ps.length ≤ 1000 ∧ RetLR rpT (withoutT ps n) H Q
def spValIn : Sp := fun vs H Q _ => ∃ (a : Addr) (ps : List (Int × Int)) (n : Int), vs = [.ref a, .int n] ∧ LR rpT H a ps ∧ RetV (valIn ps n) H Q
section
variable {P : Program} {w : World} {K : PySem.W.Frag} {mg : Str → Option Value} {base : Heap}
theorem ok_with_thing (T : Top K mg) : FnOk P w K mg base CX0 1 T.a_with_thing T.fd_with_thing ["things", "name", "value"] spWith := by
  refine T.F_with_thing.ok sc_with_thing (fun vs H Q E h => ?_) (fun cdv A outer s H vs Q E hr h => ?_)
  · obtain ⟨a, ps, n, v, rfl, _⟩ := h
    rfl
  · obtain ⟨a, ps, n, v, rfl, ⟨xs, hx, hp⟩, hz, k⟩ := h
    refine ⟨_, (pss_cons (ps_setLc (i := 3) (own := [("thing", 5)]) (g := gName 5) rfl sc_with_thing.nd rfl rfl (sw_true rfl rfl rfl (by decide +kernel)) (pi_list (pv 0)) (blkOk_by (N := n_with_thing) (sc := defScope s_with_thing) (by decide +kernel)) (fun _ _ _ _ _ => pg_name (i := 5) sc_with_thing.nd rfl (Or.inl rfl)) (fun _ _ _ _ _ => (pts_one (pt_cmpR op_lt (pe_ix (r := rIxT K) ix_tup (pv 5) pe_int (fun _ _ => rfl)) (pv 1) (nomark _)))) (fun _ _ _ _ _ => (pv 5)))
      (pss_cons (ps_setLc (i := 4) (own := [("thing", 5)]) (g := gName 5) rfl sc_with_thing.nd rfl rfl (sw_true rfl rfl rfl (by decide +kernel)) (pi_list (pv 0)) (blkOk_by (N := n_with_thing) (sc := defScope s_with_thing) (by decide +kernel)) (fun _ _ _ _ _ => pg_name (i := 5) sc_with_thing.nd rfl (Or.inl rfl)) (fun _ _ _ _ _ => (pts_one (pt_cmpR op_gt (pe_ix (r := rIxT K) ix_tup (pv 5) pe_int (fun _ _ => rfl)) (pv 1) (nomark _)))) (fun _ _ _ _ _ => (pv 5)))
      (pss_one (ps_ret (pe_lst (StX.pa_star (pv 3) (pa_cons (pe_tup (pa_cons (pv 1) (pa_cons (pv 2) pa_nil))) (StX.pa_star (pv 4) pa_nil)))))))), ?_⟩
    refine q_asgLR (lcLR (r := rpT) (r' := rpT) (fun p => decide (p.1 < n)) id (by walk_at "ev") (sq_of hx) hp (by omega) (fun _ => rfl) ?_ ?_) ?_
    · rintro x b H1 e1 _ ⟨t, rfl, ht⟩
      walk_at "et"
    · rintro x b H1 e1 _ hb _
      exact ev_R (by walk_at "ev") fun H2 e2 => rpT.mono e2 hb
    intro pa H1 hpa e1 ⟨ya, ha1, ha2⟩
    refine q_asgLR (lcLR (r := rpT) (r' := rpT) (fun p => decide (n < p.1)) id (by walk_at "ev") (sq_of (e1 a _ hx)) (pr_mono e1 hp) (by omega) (fun _ => rfl) ?_ ?_) ?_
    · rintro x b H1 e1 _ ⟨t, rfl, ht⟩
      walk_at "et"
    · rintro x b H1 e1 _ hb _
      exact ev_R (by walk_at "ev") fun H2 e2 => rpT.mono e2 hb
    intro pb H2 hpb e2 ⟨yb, hb1, hb2⟩
    refine s_retLR (r' := rpT) (bs := withT ps n v) (fun H3 e3 Q' q' => ?_) (RetLR.mono (e1.trans e2) k)
    refine ⟨_, rfl, pa, ya, rfl, Or.inr (sq_of (e3 _ _ (e2 _ _ ha1))), ?_⟩
    refine ⟨_, rfl, _, rfl, by show 2 ≤ sizeLine; decide, fun t ht => ?_⟩
    refine ⟨_, rfl, pb, yb, rfl, Or.inr (sq_of (Ex.new ht _ _ (e3 _ _ hb1))), ?_⟩
    have hla := ha2.length
    have hlb := hb2.length
    have l1 := List.length_filter_le (fun p : Int × Int => decide (p.1 < n)) ps
    have l2 := List.length_filter_le (fun p : Int × Int => decide (n < p.1)) ps
    rw [List.length_map] at hla hlb
    refine ⟨?_, fun p hp2 => ?_⟩
    · simp only [List.length_append, List.length_cons, List.length_nil]
      exact sz_of (by omega)
    · refine q' p _ (fresh_back (Ex.new ht) hp2) ((Ex.new ht).trans (Ex.new hp2)) ⟨_, upd_same, ?_⟩
      have e4 := (Ex.new (o := HO.tup [.int n, .int v]) ht).trans (Ex.new (o := HO.lst (ya ++ V.ref t :: (yb ++ []))) hp2)
      rw [List.map_id] at ha2 hb2
      refine pr_app (pr_mono (((e2.trans e3).trans e4)) ha2) (.cons ⟨t, rfl, Ex.new hp2 _ _ upd_same⟩ ?_)
      rw [List.append_nil]
      rw [List.append_nil] at e4
      exact pr_mono (e3.trans e4) hb2
theorem ok_without_thing (T : Top K mg) : FnOk P w K mg base CX0 1 T.a_without_thing T.fd_without_thing ["things", "name"] spWithout := by
  refine T.F_without_thing.ok sc_without_thing (fun vs H Q E h => ?_) (fun cdv A outer s H vs Q E hr h => ?_)
  · obtain ⟨a, ps, n, rfl, _⟩ := h
    rfl
  · obtain ⟨a, ps, n, rfl, ⟨xs, hx, hp⟩, hz, k⟩ := h
    refine ⟨_, (pss_one (ps_ret (pe_lc (own := [("thing", 2)]) (g := gName 2) rfl sc_without_thing.nd (pi_list (pv 0)) (blkOk_by (N := n_without_thing) (sc := defScope s_without_thing) (by decide +kernel)) (fun _ _ _ _ _ => pg_name (i := 2) sc_without_thing.nd rfl (Or.inl rfl)) (fun _ _ _ _ _ => (pts_one (pt_cmpR op_ne (pe_ix (r := rIxT K) ix_tup (pv 2) pe_int (fun _ _ => rfl)) (pv 1) (nomark _)))) (fun _ _ _ _ _ => (pv 2))))), ?_⟩
    refine s_retLR (EvLR.to (lcLR (r := rpT) (r' := rpT) (fun p => !decide (p.1 = n)) id (by walk_at "ev") (sq_of hx) hp (by omega) (fun _ => rfl) ?_ ?_) (List.map_id _)) k
    · rintro x b H1 e1 _ ⟨t, rfl, ht⟩
      refine et_is (a := !decide (V.int b.1 = V.int n)) ?_ (by rw [decide_int])
      walk_at "et"
    · rintro x b H1 e1 _ hb _
      exact ev_R (by walk_at "ev") fun H2 e2 => rpT.mono e2 hb
theorem valIn_skip (n : Int) : ∀ (ps : List (Int × Int)) (i : Nat), (∀ p ∈ ps.take i, p.1 ≠ n) → valIn ps n = valIn (ps.drop i) n
  | _, 0, _ => by rw [List.drop_zero]
  | [], _ + 1, _ => by rw [List.drop_nil]
  | p :: r, i + 1, h => by
    rw [List.drop_succ_cons, ← valIn_skip n r i fun q hq => h q (List.mem_cons_of_mem _ hq)]
    show (if p.1 = n then _ else valIn r n) = _
    rw [if_neg (h p (List.mem_cons_self))]
theorem ok_value_in (T : Top K mg) : FnOk P w K mg base CX0 1 T.a_value_in T.fd_value_in ["things", "name"] spValIn := by
  refine T.F_value_in.ok sc_value_in (fun vs H Q E h => ?_) (fun cdv A outer s H vs Q E hr h => ?_)
  · obtain ⟨a, ps, n, rfl, _⟩ := h
    rfl
  · obtain ⟨a, ps, n, rfl, ⟨xs, hx, hp⟩, k⟩ := h
    refine ⟨_, (pss_cons (ps_for PassesOwn.never rfl (pi_list (pv 0)) (pg_tup rfl (pgs_cons (pg_name (i := 2) sc_value_in.nd rfl (Or.inl rfl)) (pgs_cons (pg_name (i := 3) sc_value_in.nd rfl (Or.inl rfl)) pgs_nil))) (pss_one (ps_if (pt_cmpR op_eq (pv 2) (pv 1) (nomark _)) (pss_one (ps_ret (pv 3))) pss_nil)))
      (pss_one (ps_ret pe_non))), ?_⟩
    refine q_forL (by walk_at "ev") (sq_of hx) (fun i σ H' => Ex H H' ∧ (∀ p ∈ ps.take i, p.1 ≠ n) ∧ ∃ u v, σ = [some (.ref a), some (.int n), u, v]) ?_ ?_ ?_ ?_
    · intro H1 e1
      exact ⟨e1, by simp, none, none, rfl⟩
    · rintro i σ' H' _ ⟨e1, _⟩
      exact sq_of (e1 _ _ hx)
    · rintro i x σ' H' hi ⟨e1, hn, u, v, rfl⟩
      obtain ⟨b, hb, t, rfl, ht⟩ := pr_get hp hi
      refine ⟨t, _, rfl, st_of (e1 _ _ ht), rfl, _, _, rfl, _, _, rfl, rfl, ?_⟩
      walk_at "when"
      · intro hq H1 e2
        walk_at "ret"
        have hbn : b.1 = n := by simpa [decide_int] using hq
        have e0 : valIn ps n = .int b.2 := by
          rw [valIn_skip n ps i hn, List.drop_eq_getElem_cons (List.getElem?_eq_some_iff.mp hb).1, (List.getElem?_eq_some_iff.mp hb).2]
          show (if b.1 = n then _ else _) = _
          rw [if_pos hbn]
        rw [e0] at k
        exact RetV.mono (e1.trans e2) k
      · intro hq H1 e2
        have hbn : b.1 ≠ n := by simpa [decide_int] using hq
        refine ⟨e1.trans e2, ?_, _, _, rfl⟩
        rw [take_snoc hb]
        intro p hpm
        rcases List.mem_append.mp hpm with h | h
        · exact hn p h
        · rw [List.mem_singleton.mp h]
          exact hbn
    · rintro σ' H' ⟨e1, hn, u, v, rfl⟩
      walk_at "ret"
      have e0 : valIn ps n = .non := by
        rw [valIn_skip n ps xs.length hn, hp.length, List.drop_length]
        rfl
      rw [e0] at k
      exact RetV.mono e1 k
end

/-! ### the law's own -/
def cellN (ns : List Int) (k : Nat) : Int := ns.getD k 0
def spCell (K : PySem.W.Frag) : Sp := fun vs H Q _ => ∃ (a : Addr) (ns : List Int) (k : Nat), vs = [.ref a, .int (k : Int)] ∧ SqL K H a (ns.map V.int) ∧ RetV (.int (cellN ns k)) H Q
section
variable {P : Program} {w : World} {K : PySem.W.Frag} {mg : Str → Option Value} {base : Heap}
theorem ok_l_cell_at (T : Top K mg) : FnOk P w K mg base CX0 1 T.a_l_cell_at T.fd_l_cell_at ["_law_script", "_law_k"] (spCell K) := by
  refine T.F_l_cell_at.ok sc_l_cell_at (fun vs H Q E h => ?_) (fun cdv A outer s H vs Q E hr h => ?_)
  · obtain ⟨a, ns, k, rfl, _⟩ := h
    rfl
  · obtain ⟨a, ns, i, rfl, hS, k⟩ := h
    refine ⟨_, (pss_cons (ps_if (pt_cmpR op_lt (pv 1) (pe_callB (r := rLenS K) call_len_seq (by rfl) T.z_len (by decide +kernel) (pa_cons (pv 0) pa_nil)) (nomark _)) (pss_one (ps_ret (pe_ix (r := rIxL K) ix_list (pv 0) (pv 1) (fun _ _ => rfl)))) pss_nil)
      (pss_one (ps_ret pe_int))), ?_⟩
    walk_at "when"
    · intro hb H1 e1
      have hlt : i < ns.length := by simpa using hb
      refine s_retk (v := .int (cellN ns i)) (ev_op (by walk_at "ev") (by walk_at "ev") (rv_ixL (ex_l e1 hS) (atI_nat ?_))) (RetV.mono e1 k)
      unfold cellN
      rw [List.getElem?_map, List.getD_eq_getElem?_getD, List.getElem?_eq_getElem hlt]
      rfl
    · intro hb H1 e1
      have hlt : ns.length ≤ i := by simpa using hb
      walk_at "ret"
      have e0 : cellN ns i = 0 := by
        unfold cellN
        rw [List.getD_eq_getElem?_getD, List.getElem?_eq_none hlt]
        rfl
      rw [e0] at k
      exact RetV.mono e1 k
theorem spv_cell {a : Addr} {ns : List Int} {H : Hp} (hS : SqL K H a (ns.map V.int)) (i : Int) (hi : 0 ≤ i) : SpV (spCell K) [.ref a, .int i] H (.int (cellN ns i.toNat)) := fun H1 e _ q _ => ⟨a, ns, i.toNat, by rw [Int.toNat_of_nonneg hi], ex_l e hS, q⟩
end
local macro_rules | `(tactic| walk_at "spv") => `(tactic| (apply spv_cell; walk_at "seq"; (first | decide | omega)))
theorem nat_mod (z : Int) (m : Int) (hm : 0 < m) : ∃ n : Nat, z % m = (n : Int) ∧ (n : Int) < m := ⟨(z % m).toNat, (Int.toNat_of_nonneg (Int.emod_nonneg _ (by omega))).symm, by rw [Int.toNat_of_nonneg (Int.emod_nonneg _ (by omega))]; exact Int.emod_lt_of_pos _ hm⟩

section
variable {P : Program} {w : World} {K : PySem.W.Frag} {mg : Str → Option Value} {base : Heap}
def spWhole : Sp := fun vs H Q _ => ∃ i : Int, vs = [.int i] ∧ RetV (.bl true) H Q
theorem ok_l_whole (T : Top K mg) : FnOk P w K mg base CX0 1 T.a_l_whole T.fd_l_whole ["_law_found"] spWhole := by
  refine T.F_l_whole.ok sc_l_whole (fun vs H Q E h => ?_) (fun cdv A outer s H vs Q E hr h => ?_)
  · obtain ⟨n, rfl, _⟩ := h
    rfl
  · obtain ⟨n, rfl, k⟩ := h
    refine ⟨_, (pss_one (ps_ret (pe_and (pe_callB (r := rIsi K) call_isi (by rfl) T.z_isinstance (by decide +kernel) (pa_cons (pv 0) (pa_cons (pe_bltn (v := .ty "int") (by rfl) T.z_int (by decide +kernel) rfl) pa_nil))) (pe_one (pe_not (pe_callB (r := rIsi K) call_isi (by rfl) T.z_isinstance (by decide +kernel) (pa_cons (pv 0) (pa_cons (pe_bltn (v := .ty "bool") (by rfl) T.z_bool (by decide +kernel) rfl) pa_nil)))))))), ?_⟩
    walk_at "ret"
    exact k
theorem spv_whole {i : Int} {H : Hp} : SpV spWhole [.int i] H (.bl true) := fun H1 _ _ q _ => ⟨i, rfl, q⟩
end
local macro_rules | `(tactic| walk_at "spv") => `(tactic| exact spv_whole)
def valN (c k : Int) : Int := if c % 5 = 2 then (c * 48271 + k) % 10 ^ (60 : Int).toNat else if c % 5 = 3 then 0 - (10 ^ (60 : Int).toNat - 1 - c / 5 % 10 ^ (20 : Int).toNat) / (1 + c / 5 % 3) else (c / 5 + 7 * k) % 2003 - 1001
def spValue : Sp := fun vs H Q _ => ∃ c k : Int, vs = [.int c, .int k] ∧ RetV (.int (valN c k)) H Q
section
variable {P : Program} {w : World} {K : PySem.W.Frag} {mg : Str → Option Value} {base : Heap}
theorem ok_l_value (T : Top K mg) : FnOk P w K mg base CX0 1 T.a_l_value T.fd_l_value ["_law_cell", "_law_k"] spValue := by
  refine T.F_l_value.ok sc_l_value (fun vs H Q E h => ?_) (fun cdv A outer s H vs Q E hr h => ?_)
  · obtain ⟨c, n, rfl, _⟩ := h
    rfl
  · obtain ⟨c, n, rfl, k⟩ := h
    refine ⟨_, (pss_cons (ps_if (pt_cmpR op_eq (pe_op op_mod (pv 0) pe_int) pe_int (nomark _)) (pss_one (ps_ret (pe_op op_mod (pe_op op_add (pe_op op_mul (pv 0) pe_int) (pv 1)) (pe_op op_pow pe_int pe_int)))) pss_nil)
      (pss_cons (ps_if (pt_cmpR op_eq (pe_op op_mod (pv 0) pe_int) pe_int (nomark _)) (pss_one (ps_ret (pe_op op_sub pe_int (pe_op op_fdiv (pe_op op_sub (pe_op op_sub (pe_op op_pow pe_int pe_int) pe_int) (pe_op op_mod (pe_op op_fdiv (pv 0) pe_int) (pe_op op_pow pe_int pe_int))) (pe_op op_add pe_int (pe_op op_mod (pe_op op_fdiv (pv 0) pe_int) pe_int)))))) pss_nil)
      (pss_one (ps_ret (pe_op op_sub (pe_op op_mod (pe_op op_add (pe_op op_fdiv (pv 0) pe_int) (pe_op op_mul pe_int (pv 1))) pe_int) pe_int))))), ?_⟩
    walk_at "when"
    · intro hb H1 e1
      have h2 : c % 5 = 2 := by simpa [decide_int] using hb
      walk_at "ret"
      have e0 : valN c n = (c * 48271 + n) % 10 ^ (60 : Int).toNat := if_pos h2
      rw [e0] at k
      exact RetV.mono e1 k
    intro hb H1 e1
    have h2 : ¬ c % 5 = 2 := by simpa [decide_int] using hb
    walk_at "when"
    · intro hb H2 e2
      have h3 : c % 5 = 3 := by simpa [decide_int] using hb
      walk_at "ret"
      have e0 : valN c n = 0 - (10 ^ (60 : Int).toNat - 1 - c / 5 % 10 ^ (20 : Int).toNat) / (1 + c / 5 % 3) := (if_neg h2).trans (if_pos h3)
      rw [e0] at k
      exact RetV.mono (e1.trans e2) k
    intro hb H2 e2
    have h3 : ¬ c % 5 = 3 := by simpa [decide_int] using hb
    walk_at "ret"
    have e0 : valN c n = (c / 5 + 7 * n) % 2003 - 1001 := (if_neg h2).trans (if_neg h3)
    rw [e0] at k
    exact RetV.mono (e1.trans e2) k
theorem spv_value {c k : Int} {H : Hp} : SpV spValue [.int c, .int k] H (.int (valN c k)) := fun H1 _ _ q _ => ⟨c, k, rfl, q⟩
end
local macro_rules | `(tactic| walk_at "spv") => `(tactic| exact spv_value)
theorem inV_ints (m : Int) (ms : List Int) : inV (.int m) (ms.map V.int) = decide (m ∈ ms) := by
  unfold inV
  rw [List.any_map]
  by_cases h : m ∈ ms
  · rw [decide_eq_true h, List.any_eq_true]
    exact ⟨m, h, by simp [eqV]⟩
  · rw [decide_eq_false h, List.any_eq_false]
    intro x hx
    simp only [Function.comp, eqV]
    intro q
    exact h (by rw [← (by simpa using q : x = m)]; exact hx)
theorem flat_ints (ms : List Int) : (ms.map V.int).all flatV = true := by
  rw [List.all_map, List.all_eq_true]
  intro x _
  rfl
theorem rv_niInts {K : PySem.W.Frag} {H : Hp} {p : Addr} {ms : List Int} {m : Int} (h : SqL K H p (ms.map V.int)) : RV (rIn K true) (.int m) (.ref p) H (.bl (!decide (m ∈ ms))) := by
  rw [← inV_ints]
  exact rv_niL h rfl (flat_ints ms)
local macro_rules | `(tactic| walk_at "rv") => `(tactic| ((with_reducible apply rv_niInts); walk_at "seq"))
def spNames (K : PySem.W.Frag) : Sp := fun vs H Q _ => ∃ (a : Addr) (ns : List Int), vs = [.ref a] ∧ SqL K H a (ns.map V.int) ∧ ∀ p H2 ms, H p = none → Ex H H2 → LR rpInt H2 p ms → ms.Nodup → ms.length ≤ 200 → Q (.ref p) H2
section
variable {P : Program} {w : World} {K : PySem.W.Frag} {mg : Str → Option Value} {base : Heap}
theorem ok_l_names (T : Top K mg) : FnOk P w K mg base CX0 2 T.a_l_names T.fd_l_names ["_law_script"] (spNames K) := by
  refine T.F_l_names.ok sc_l_names (fun vs H Q E h => ?_) (fun cdv A outer s H vs Q E hr h => ?_)
  · obtain ⟨a, ns, rfl, _⟩ := h
    rfl
  · obtain ⟨a, ns, rfl, hS, k⟩ := h
    refine ⟨_, (pss_cons (ps_set (i := 1) sc_l_names.nd rfl (Or.inl rfl) (pe_op op_mod (pe_call (ok_l_cell_at T) (hr.mono (by decide)) rfl T.g_l_cell_at T.F_l_cell_at.kp T.b_l_cell_at .nil pass0 (pa_cons (pv 0) (pa_cons pe_int pa_nil))) pe_int))
      (pss_cons (ps_if (pt_cmpR op_eq (pe_op op_mod (pe_call (ok_l_cell_at T) (hr.mono (by decide)) rfl T.g_l_cell_at T.F_l_cell_at.kp T.b_l_cell_at .nil pass0 (pa_cons (pv 0) (pa_cons pe_int pa_nil))) pe_int) pe_int (nomark _)) (pss_cons (ps_set (i := 2) sc_l_names.nd rfl (Or.inr rfl) (pe_op op_mod (pe_call (ok_l_cell_at T) (hr.mono (by decide)) rfl T.g_l_cell_at T.F_l_cell_at.kp T.b_l_cell_at .nil pass0 (pa_cons (pv 0) (pa_cons pe_int pa_nil))) pe_int))
      (pss_one (ps_ret (pe_lc (own := [("_law_k", 3)]) (g := gName 3) (tt := tYes) rfl sc_l_names.nd (pi_range1 (by rfl) T.z_range (pa_cons (pe_op op_mod (pe_call (ok_l_cell_at T) (hr.mono (by decide)) rfl T.g_l_cell_at T.F_l_cell_at.kp T.b_l_cell_at .nil pass0 (pa_cons (pv 0) (pa_cons pe_int pa_nil))) pe_int) pa_nil)) (blkOk_by (N := n_l_names) (sc := defScope s_l_names) (by decide +kernel)) (fun _ _ _ _ _ => pg_name (i := 3) sc_l_names.nd rfl (Or.inl rfl)) (fun _ _ _ _ _ => pts_nil) (fun _ _ _ _ _ => (pe_op op_add (pv 2) (pv 3))))))) pss_nil)
      (pss_cons (ps_set (i := 4) sc_l_names.nd rfl (Or.inl rfl) (pe_lst pa_nil))
      (pss_cons (ps_for PassesOwn.never rfl (pi_range1 (by rfl) T.z_range (pa_cons (pv 1) pa_nil)) (pg_name (i := 3) sc_l_names.nd rfl (Or.inl rfl)) (pss_cons (ps_set (i := 5) sc_l_names.nd rfl (Or.inl rfl) (pe_op op_mod (pe_call (ok_l_cell_at T) (hr.mono (by decide)) rfl T.g_l_cell_at T.F_l_cell_at.kp T.b_l_cell_at .nil pass0 (pa_cons (pv 0) (pa_cons (pe_op op_add pe_int (pv 3)) pa_nil))) pe_int))
      (pss_one (ps_if (pt_cmpR (r := rIn K true) op_notIn_seq (pv 5) (pv 4) (by rfl)) (pss_one (ps_expr (pe_bm PySem.F.plainAttrs_list PySem.F.slot_list_append PySem.F.type_list_append mt_append (pv 4) (pa_cons (pv 5) pa_nil)))) pss_nil))))
      (pss_one (ps_ret (pe_callB (r := rSortedI K) cr_sortedI (by rfl) T.z_sorted (by decide +kernel) (pa_cons (pv 4) pa_nil)))))))), ?_⟩
    walk_at "asg"
    intro H1 e1
    have hS1 := ex_l e1 hS
    obtain ⟨n1, h1, l1⟩ := nat_mod (cellN ns (0 : Int).toNat) 12 (by decide)
    rw [h1]
    walk_at "when"
    · intro _ H2 e2
      have hS2 := ex_l e2 hS1
      walk_at "asg"
      intro H3 e3
      have hS3 := ex_l e3 hS2
      generalize cellN ns (2 : Int).toNat % 56 = begin
      obtain ⟨n2, h2, l2⟩ := nat_mod (cellN ns (3 : Int).toNat) 201 (by decide)
      refine s_retLR (lcRR (r' := rpInt) (n := n2) (fun _ => true) (fun i => begin + (i : Int)) (by rw [← h2]; walk_at "ea") (by omega) (fun _ => rfl) ?_ ?_) ?_
      · intro i H4 e4 hi
        exact fun H5 e5 Q' q' => q' H5 (Ex.refl H5)
      · intro i H4 e4 hi _
        exact ev_R (v := .int (begin + (i : Int))) (by walk_at "ev") fun _ _ => rfl
      · intro p H4 hp e4 h4
        refine k p H4 _ (fresh_back ((e1.trans e2).trans e3) hp) (((e1.trans e2).trans e3).trans e4) h4 ?_ ?_
        · rw [List.filter_eq_self.mpr (fun _ _ => rfl)]
          exact List.Pairwise.map _ (fun a b hab q => hab (by omega)) List.nodup_range
        · rw [List.length_map]
          exact Nat.le_trans (List.length_filter_le _ _) (by rw [List.length_range]; omega)
    intro _ H2 e2
    have hS2 := ex_l e2 hS1
    refine q_asgL (el_lst ea_nil (by decide)) ?_
    intro p H3 hp e3 h3
    have hp0 : H p = none := fresh_back (e1.trans e2) hp
    refine q_forR1 (n := (n1 : Int)) (by walk_at "ea") (by omega) (fun i σ H' => Ex H2 H' ∧ ∃ (ms : List Int) (u v : Option V), H' p = some (.lst (ms.map V.int)) ∧ ms.Nodup ∧ ms.length ≤ i ∧ σ = [some (.ref a), some (.int (n1 : Int)), none, u, some (.ref p), v]) ?_ ?_ ?_
    · intro H4 e4
      exact ⟨e3.trans e4, [], none, none, e4 _ _ h3, List.nodup_nil, Nat.le_refl _, rfl⟩
    · rintro i σ' H' hi ⟨e4, ms, u, v, q1, q2, q3, rfl⟩
      have hS4 := ex_l e4 hS2
      walk_at "asg"
      intro H5 e5
      have q5 := e5 _ _ q1
      generalize cellN ns (5 + (i : Int)).toNat % 256 = m
      walk_at "when"
      · intro hb H6 e6
        have hm : m ∉ ms := by simpa using hb
        have q6 := e6 _ _ q5
        refine s_app q6 (by walk_at "ev") (v := .int m) (by walk_at "ev") (by rw [List.length_map]; omega) ?_
        intro H7 e7
        refine ⟨Ex.mut (((e4.trans e5).trans e6).trans e7) hp, ms ++ [m], _, _, ?_, ?_, by rw [List.length_append]; exact Nat.succ_le_succ q3, rfl⟩
        · rw [List.map_append]
          exact upd_same
        · rw [List.nodup_append]
          exact ⟨q2, by simp, by rintro a ha b hb rfl; exact hm (by rw [← List.mem_singleton.mp hb]; exact ha)⟩
      · intro _ H6 e6
        exact ⟨(e4.trans e5).trans e6, ms, _, _, e6 _ _ q5, q2, Nat.le_succ_of_le q3, rfl⟩
    · rintro σ' H' ⟨e4, ms, u, v, q1, q2, q3, rfl⟩
      refine ⟨_, rfl, p, ms, rfl, sq_of q1, fun ms' p' perm ord hp' => ?_⟩
      exact k p' _ ms' (fresh_back ((e1.trans e2).trans e4) hp') (((e1.trans e2).trans e4).trans (Ex.new hp')) ⟨_, upd_same, pr_ints⟩ (perm.nodup_iff.mpr q2) (by rw [perm.length_eq]; omega)
def spAlike : Sp := fun vs H Q _ => ∃ (a b : Addr) (ps qs : List (Int × Int)), vs = [.ref a, .ref b] ∧ LR rpT H a ps ∧ LR rpT H b qs ∧ ps.length ≤ 1000 ∧ qs.length ≤ 1000 ∧ RetV (.bl (decide (ps = qs))) H Q
theorem ok_l_alike (T : Top K mg) : FnOk P w K mg base CX0 2 T.a_l_alike T.fd_l_alike ["_law_found", "_law_due"] spAlike := by
  refine T.F_l_alike.ok sc_l_alike (fun vs H Q E h => ?_) (fun cdv A outer s H vs Q E hr h => ?_)
  · obtain ⟨a, b, ps, qs, rfl, _⟩ := h
    rfl
  · obtain ⟨a, b, ps, qs, rfl, ⟨xs, hx, px⟩, ⟨ys, hy, py⟩, lx, ly, k⟩ := h
    refine ⟨_, (pss_cons (ps_if (PW.pt (pw_or (pt_not (pt_val (pe_callB (r := rIsi K) call_isi (by rfl) T.z_isinstance (by decide +kernel) (pa_cons (pv 0) (pa_cons (pe_bltn (v := .ty "list") (by rfl) T.z_list (by decide +kernel) rfl) pa_nil))))) (pw_or1 (pt_cmpR op_ne (pe_callB (r := rLenS K) call_len_seq (by rfl) T.z_len (by decide +kernel) (pa_cons (pv 0) pa_nil)) (pe_callB (r := rLenS K) call_len_seq (by rfl) T.z_len (by decide +kernel) (pa_cons (pv 1) pa_nil)) (nomark _))))) (pss_one (ps_ret pe_bl)) pss_nil)
      (pss_cons (ps_for PassesOwn.never rfl (pi_range1 (by rfl) T.z_range (pa_cons (pe_callB (r := rLenS K) call_len_seq (by rfl) T.z_len (by decide +kernel) (pa_cons (pv 1) pa_nil)) pa_nil)) (pg_name (i := 2) sc_l_alike.nd rfl (Or.inl rfl)) (pss_cons (ps_set (i := 3) sc_l_alike.nd rfl (Or.inl rfl) (pe_ix (r := rIxL K) ix_list (pv 0) (pv 2) (fun _ _ => rfl)))
      (pss_cons (ps_if (PW.pt (pw_or (pt_not (pt_val (pe_callB (r := rIsi K) call_isi (by rfl) T.z_isinstance (by decide +kernel) (pa_cons (pv 3) (pa_cons (pe_bltn (v := .ty "tuple") (by rfl) T.z_tuple (by decide +kernel) rfl) pa_nil))))) (pw_or (pt_cmpR op_ne (pe_callB (r := rLenS K) call_len_seq (by rfl) T.z_len (by decide +kernel) (pa_cons (pv 3) pa_nil)) pe_int (nomark _)) (pw_or (pt_not (pt_val (pe_call (ok_l_whole T) (hr.mono (by decide)) rfl T.g_l_whole T.F_l_whole.kp T.b_l_whole .nil pass0 (pa_cons (pe_ix (r := rIxT K) ix_tup (pv 3) pe_int (fun _ _ => rfl)) pa_nil)))) (pw_or1 (pt_not (pt_val (pe_call (ok_l_whole T) (hr.mono (by decide)) rfl T.g_l_whole T.F_l_whole.kp T.b_l_whole .nil pass0 (pa_cons (pe_ix (r := rIxT K) ix_tup (pv 3) pe_int (fun _ _ => rfl)) pa_nil))))))))) (pss_one (ps_ret pe_bl)) pss_nil)
      (pss_one (ps_if (PW.pt (pw_or (pt_cmpR op_ne (pe_ix (r := rIxT K) ix_tup (pv 3) pe_int (fun _ _ => rfl)) (pe_ix (r := rIxT K) ix_tup (pe_ix (r := rIxL K) ix_list (pv 1) (pv 2) (fun _ _ => rfl)) pe_int (fun _ _ => rfl)) (nomark _)) (pw_or1 (pt_cmpR op_ne (pe_ix (r := rIxT K) ix_tup (pv 3) pe_int (fun _ _ => rfl)) (pe_ix (r := rIxT K) ix_tup (pe_ix (r := rIxL K) ix_list (pv 1) (pv 2) (fun _ _ => rfl)) pe_int (fun _ _ => rfl)) (nomark _))))) (pss_one (ps_ret pe_bl)) pss_nil)))))
      (pss_one (ps_ret pe_bl)))), ?_⟩
    have lxs := px.length
    have lys := py.length
    walk_at "when"
    · intro hb H1 e1
      walk_at "ret"
      have hne : ¬ ps = qs := by
        rintro rfl
        rw [lxs, lys] at hb
        simp at hb
      rw [decide_eq_false hne] at k
      exact RetV.mono e1 k
    intro hb H1 e1
    have hlen : ps.length = qs.length := by
      have : (xs.length : Int) = ys.length := by simpa [decide_int] using hb
      omega
    refine q_forR1 (n := (ys.length : Int)) ?_ (by omega) (fun i σ H' => Ex H H' ∧ ps.take i = qs.take i ∧ ∃ u v, σ = [some (.ref a), some (.ref b), u, v]) ?_ ?_ ?_
    · have hy1 := sq_of (K := K) (e1 _ _ hy)
      walk_at "ea"
    · intro H2 e2
      exact ⟨e1.trans e2, rfl, none, none, rfl⟩
    · rintro i σ' H' hi ⟨e2, ht, u, v, rfl⟩
      have hiq : i < qs.length := by omega
      have hip : i < ps.length := by omega
      obtain ⟨x, hx1, t, rfl, htx⟩ := pr_at px (List.getElem?_eq_getElem hip)
      obtain ⟨y, hy1, t2, rfl, hty⟩ := pr_at py (List.getElem?_eq_getElem hiq)
      have hxs := e2 _ _ hx
      have hys := e2 _ _ hy
      refine q_asg (v := .ref t) (ev_op (by walk_at "ev") (by walk_at "ev") (rv_ixL (sq_of hxs) (atI_nat hx1))) ?_
      intro H3 e3
      have htx3 := e3 _ _ (e2 _ _ htx)
      walk_at "when"
      · intro hb
        exact absurd hb (by simp [List.length])
      intro _ H4 e4
      have htx4 := e4 _ _ htx3
      have hty4 := e4 _ _ (e3 _ _ (e2 _ _ hty))
      have hys4 := e4 _ _ (e3 _ _ hys)
      have ixq : RV (rIxL K) (.ref b) (.int (i : Int)) H4 (.ref t2) := rv_ixL (sq_of hys4) (atI_nat hy1)
      refine s_when (b := !decide (ps[i].1 = qs[i].1) || !decide (ps[i].2 = qs[i].2)) ?_ ?_ ?_
      · refine et_or (et_is (a := !decide (V.int ps[i].1 = V.int qs[i].1)) (et_test (ev_op (ev_op (by walk_at "ev") (by walk_at "ev") (rv_ixT (st_of htx4) rfl)) (ev_op (ev_op (by walk_at "ev") (by walk_at "ev") ixq) (by walk_at "ev") (rv_ixT (st_of hty4) rfl)) (rv_ne rfl))) (by rw [decide_int])) fun _ => ?_
        exact et_is (a := !decide (V.int ps[i].2 = V.int qs[i].2)) (et_test (ev_op (ev_op (by walk_at "ev") (by walk_at "ev") (rv_ixT (st_of htx4) rfl)) (ev_op (ev_op (by walk_at "ev") (by walk_at "ev") ixq) (by walk_at "ev") (rv_ixT (st_of hty4) rfl)) (rv_ne rfl))) (by rw [decide_int])
      · intro hb H5 e5
        walk_at "ret"
        have hne : ¬ ps = qs := by
          rintro rfl
          simp at hb
        rw [decide_eq_false hne] at k
        exact RetV.mono (((e2.trans e3).trans e4).trans e5) k
      · intro hb H5 e5
        refine ⟨((e2.trans e3).trans e4).trans e5, ?_, _, _, rfl⟩
        have h1 : ps[i] = qs[i] := by
          have h2 : ps[i].1 = qs[i].1 ∧ ps[i].2 = qs[i].2 := by simpa using hb
          exact Prod.ext h2.1 h2.2
        rw [take_snoc (List.getElem?_eq_getElem hip), take_snoc (List.getElem?_eq_getElem hiq), ht, h1]
    · rintro σ' H' ⟨e2, ht, u, v, rfl⟩
      walk_at "ret"
      have he : ps = qs := by
        have e5 : ((ys.length : Int)).toNat = qs.length := by omega
        rw [e5, List.take_length, ← hlen, List.take_length] at ht
        exact ht
      rw [decide_eq_true he] at k
      exact RetV.mono e2 k
theorem spv_alike {a b : Addr} {ps qs : List (Int × Int)} {H : Hp} (h1 : LR rpT H a ps) (h2 : LR rpT H b qs) (l1 : ps.length ≤ 1000) (l2 : qs.length ≤ 1000) : SpV spAlike [.ref a, .ref b] H (.bl (decide (ps = qs))) := fun H1 e _ q _ => ⟨a, b, ps, qs, rfl, h1.mono e, h2.mono e, l1, l2, q⟩
end
theorem valIn_out (n : Int) : ∀ ps : List (Int × Int), n ∉ ps.map (·.1) → valIn ps n = .non
  | [], _ => rfl
  | p :: r, h => by
    have h1 : ¬ p.1 = n := fun q => h (by rw [← q]; exact List.mem_cons_self)
    show (if p.1 = n then _ else valIn r n) = _
    rw [if_neg h1]
    exact valIn_out n r fun q => h (List.mem_cons_of_mem _ q)
theorem valIn_mem (n : Int) : ∀ ps : List (Int × Int), (ps.map (·.1)).Nodup → n ∈ ps.map (·.1) → ∃ v, valIn ps n = .int v ∧ ps.filter (fun p => decide (p.1 = n)) = [(n, v)]
  | [], _, h => by simp at h
  | p :: r, hn, h => by
    rw [List.map_cons, List.nodup_cons] at hn
    by_cases h1 : p.1 = n
    · refine ⟨p.2, if_pos h1, ?_⟩
      have h2 : r.filter (fun p => decide (p.1 = n)) = [] := by
        rw [List.filter_eq_nil_iff]
        intro q hq he
        exact hn.1 (by rw [h1, ← of_decide_eq_true he]; exact List.mem_map_of_mem hq)
      rw [List.filter_cons, if_pos (decide_eq_true h1), h2, ← h1]
    · obtain ⟨v, h2, h3⟩ := valIn_mem n r hn.2 (by
        rcases List.mem_cons.mp h with h | h
        · exact absurd h.symm h1
        · exact h)
      exact ⟨v, (if_neg h1).trans h2, by rw [List.filter_cons, if_neg (by rw [decide_eq_false h1]; decide), h3]⟩
theorem due_is (ps : List (Int × Int)) (n v : Int) : (withoutT ps n).filter (fun p => decide (p.1 < n)) ++ [(n, v)] ++ (withoutT ps n).filter (fun p => decide (n < p.1)) = withT ps n v := by
  unfold withoutT withT
  rw [List.filter_filter, List.filter_filter, List.append_assoc]
  have e1 : (fun p : Int × Int => decide (p.1 < n) && !decide (p.1 = n)) = fun p => decide (p.1 < n) := by
    funext p
    by_cases h : p.1 < n
    · have h2 : ¬ p.1 = n := by omega
      simp [h, h2]
    · simp [h]
  have e2 : (fun p : Int × Int => decide (n < p.1) && !decide (p.1 = n)) = fun p => decide (n < p.1) := by
    funext p
    by_cases h : n < p.1
    · have h2 : ¬ p.1 = n := by omega
      simp [h, h2]
    · simp [h]
  rw [e1, e2]
  rfl
theorem withT_len (ps : List (Int × Int)) (n v : Int) : (withT ps n v).length ≤ 2 * ps.length + 1 := by
  unfold withT
  have l1 := List.length_filter_le (fun p : Int × Int => decide (p.1 < n)) ps
  have l2 := List.length_filter_le (fun p : Int × Int => decide (n < p.1)) ps
  rw [List.length_append, List.length_cons]
  omega
theorem withoutT_len (ps : List (Int × Int)) (n : Int) : (withoutT ps n).length ≤ ps.length := List.length_filter_le _ _
section
variable {P : Program} {w : World} {K : PySem.W.Frag} {mg : Str → Option Value} {base : Heap}
theorem spl_with {a : Addr} {ps : List (Int × Int)} {n v : Int} {H : Hp} (h : LR rpT H a ps) (l : ps.length ≤ 1000) : SpLR rpT spWith [.ref a, .int n, .int v] H (withT ps n v) := fun H1 e Q q E => ⟨a, ps, n, v, rfl, h.mono e, l, q⟩
theorem spl_without {a : Addr} {ps : List (Int × Int)} {n : Int} {H : Hp} (h : LR rpT H a ps) (l : ps.length ≤ 1000) : SpLR rpT spWithout [.ref a, .int n] H (withoutT ps n) := fun H1 e Q q E => ⟨a, ps, n, rfl, h.mono e, l, q⟩
theorem spv_valIn {a : Addr} {ps : List (Int × Int)} {n : Int} {H : Hp} (h : LR rpT H a ps) : SpV spValIn [.ref a, .int n] H (valIn ps n) := fun H1 e Q q E => ⟨a, ps, n, rfl, h.mono e, q⟩
local macro_rules | `(tactic| walk_at "nf") => `(tactic| refine st_nf (σ' := [_, _, _, _, _, _, _, _, _, _, _, _, _, _]) rfl ?_)
set_option maxHeartbeats 1000000 in
theorem ok_law (T : Top K mg) : FnOk P w K mg base CX0 3 T.a_law T.fd_law ["_law_script"] (spLaw K) := by
  refine T.F_law.ok sc_law (fun vs H Q E h => ?_) (fun cdv A outer s H vs Q E hr h => ?_)
  · obtain ⟨a, ns, rfl, _⟩ := h
    rfl
  · obtain ⟨a, ns, rfl, hS, hl, k⟩ := h
    refine ⟨_, (pss_cons (ps_set (i := 1) sc_law.nd rfl (Or.inr rfl) (pe_call (ok_l_names T) (hr.mono (by decide)) rfl T.g_l_names T.F_l_names.kp T.b_l_names .nil pass0 (pa_cons (pv 0) pa_nil)))
      (pss_cons (ps_set (i := 2) sc_law.nd rfl (Or.inr rfl) (pe_call (ok_l_cell_at T) (hr.mono (by decide)) rfl T.g_l_cell_at T.F_l_cell_at.kp T.b_l_cell_at .nil pass0 (pa_cons (pv 0) (pa_cons pe_int pa_nil))))
      (pss_cons (ps_setLc (i := 3) (own := [("_law_k", 12)]) (g := gName 12) (tt := tYes) rfl sc_law.nd rfl rfl (sw_true rfl rfl rfl (by decide +kernel)) (pi_range1 (by rfl) T.z_range (pa_cons (pe_callB (r := rLenS K) call_len_seq (by rfl) T.z_len (by decide +kernel) (pa_cons (pv 1) pa_nil)) pa_nil)) (blkOk_by (N := n_law) (sc := defScope s_law) (by decide +kernel)) (fun _ _ _ _ _ => pg_name (i := 12) sc_law.nd rfl (Or.inl rfl)) (fun _ _ _ _ _ => pts_nil) (fun _ _ _ _ _ => (pe_tup (pa_cons (pe_ix (r := rIxL K) ix_list (pv 1) (pv 12) (fun _ _ => rfl)) (pa_cons (pe_call (ok_l_value T) (hr.mono (by decide)) rfl T.g_l_value T.F_l_value.kp T.b_l_value .nil pass0 (pa_cons (pe_op op_add (pv 2) (pe_op op_mul (pv 12) (pe_op op_add pe_int (pe_op op_mod (pv 2) pe_int)))) (pa_cons (pv 12) pa_nil))) pa_nil)))))
      (pss_cons (ps_set (i := 4) sc_law.nd rfl (Or.inr rfl) (pe_op op_mod (pe_call (ok_l_cell_at T) (hr.mono (by decide)) rfl T.g_l_cell_at T.F_l_cell_at.kp T.b_l_cell_at .nil pass0 (pa_cons (pv 0) (pa_cons pe_int pa_nil))) pe_int))
      (pss_cons (ps_if (PW.pt (pw_and (pt_cmpR (r := rNeD K) (op_neD hr.units) (pv 1) (pe_lst pa_nil) (nomark _)) (pw_and1 (pt_cmpR op_eq (pe_op op_mod (pe_call (ok_l_cell_at T) (hr.mono (by decide)) rfl T.g_l_cell_at T.F_l_cell_at.kp T.b_l_cell_at .nil pass0 (pa_cons (pv 0) (pa_cons pe_int pa_nil))) pe_int) pe_int (nomark _))))) (pss_one (ps_set (i := 4) sc_law.nd rfl (Or.inr rfl) (pe_ix (r := rIxL K) ix_list (pv 1) (pe_op op_mod (pe_call (ok_l_cell_at T) (hr.mono (by decide)) rfl T.g_l_cell_at T.F_l_cell_at.kp T.b_l_cell_at .nil pass0 (pa_cons (pv 0) (pa_cons pe_int pa_nil))) (pe_callB (r := rLenS K) call_len_seq (by rfl) T.z_len (by decide +kernel) (pa_cons (pv 1) pa_nil))) (fun _ _ => rfl)))) pss_nil)
      (pss_cons (ps_set (i := 5) sc_law.nd rfl (Or.inl rfl) (pe_call (ok_l_value T) (hr.mono (by decide)) rfl T.g_l_value T.F_l_value.kp T.b_l_value .nil pass0 (pa_cons (pe_call (ok_l_cell_at T) (hr.mono (by decide)) rfl T.g_l_cell_at T.F_l_cell_at.kp T.b_l_cell_at .nil pass0 (pa_cons (pv 0) (pa_cons pe_int pa_nil))) (pa_cons pe_int pa_nil))))
      (pss_cons (ps_set (i := 6) sc_law.nd rfl (Or.inl rfl) (pe_callTy (r := rListS K) call_list_of (by rfl) T.z_list (by decide +kernel) (pa_cons (pv 3) pa_nil)))
      (pss_cons (ps_set (i := 7) sc_law.nd rfl (Or.inl rfl) (pe_call (ok_with_thing T) (hr.mono (by decide)) rfl T.g_with_thing T.F_with_thing.kp T.b_with_thing .nil pass0 (pa_cons (pv 6) (pa_cons (pv 4) (pa_cons (pv 5) pa_nil)))))
      (pss_cons (ps_set (i := 8) sc_law.nd rfl (Or.inl rfl) (pe_call (ok_without_thing T) (hr.mono (by decide)) rfl T.g_without_thing T.F_without_thing.kp T.b_without_thing .nil pass0 (pa_cons (pv 6) (pa_cons (pv 4) pa_nil))))
      (pss_cons (ps_set (i := 9) sc_law.nd rfl (Or.inl rfl) (pe_call (ok_value_in T) (hr.mono (by decide)) rfl T.g_value_in T.F_value_in.kp T.b_value_in .nil pass0 (pa_cons (pv 6) (pa_cons (pv 4) pa_nil))))
      (pss_cons (ps_setLc (i := 10) (own := [("_law_one", 13)]) (g := gName 13) rfl sc_law.nd rfl rfl (sw_true rfl rfl rfl (by decide +kernel)) (pi_list (pv 3)) (blkOk_by (N := n_law) (sc := defScope s_law) (by decide +kernel)) (fun _ _ _ _ _ => pg_name (i := 13) sc_law.nd rfl (Or.inl rfl)) (fun _ _ _ _ _ => (pts_one (pt_cmpR op_ne (pe_ix (r := rIxT K) ix_tup (pv 13) pe_int (fun _ _ => rfl)) (pv 4) (nomark _)))) (fun _ _ _ _ _ => (pv 13)))
      (pss_cons (ps_set (i := 11) sc_law.nd rfl (Or.inl rfl) (pe_op op_cat (pe_op op_cat (pe_lc (own := [("_law_one", 13)]) (g := gName 13) rfl sc_law.nd (pi_list (pv 10)) (blkOk_by (N := n_law) (sc := defScope s_law) (by decide +kernel)) (fun _ _ _ _ _ => pg_name (i := 13) sc_law.nd rfl (Or.inl rfl)) (fun _ _ _ _ _ => (pts_one (pt_cmpR op_lt (pe_ix (r := rIxT K) ix_tup (pv 13) pe_int (fun _ _ => rfl)) (pv 4) (nomark _)))) (fun _ _ _ _ _ => (pv 13))) (pe_lst (pa_cons (pe_tup (pa_cons (pv 4) (pa_cons (pv 5) pa_nil))) pa_nil))) (pe_lc (own := [("_law_one", 13)]) (g := gName 13) rfl sc_law.nd (pi_list (pv 10)) (blkOk_by (N := n_law) (sc := defScope s_law) (by decide +kernel)) (fun _ _ _ _ _ => pg_name (i := 13) sc_law.nd rfl (Or.inl rfl)) (fun _ _ _ _ _ => (pts_one (pt_cmpR op_gt (pe_ix (r := rIxT K) ix_tup (pv 13) pe_int (fun _ _ => rfl)) (pv 4) (nomark _)))) (fun _ _ _ _ _ => (pv 13)))))
      (pss_cons (ps_if (PW.pt (pw_or (pt_not (pt_val (pe_call (ok_l_alike T) (hr.mono (by decide)) rfl T.g_l_alike T.F_l_alike.kp T.b_l_alike .nil pass0 (pa_cons (pv 7) (pa_cons (pv 11) pa_nil))))) (pw_or (pt_not (pt_val (pe_call (ok_l_alike T) (hr.mono (by decide)) rfl T.g_l_alike T.F_l_alike.kp T.b_l_alike .nil pass0 (pa_cons (pv 8) (pa_cons (pv 10) pa_nil))))) (pw_or1 (pt_not (pt_val (pe_call (ok_l_alike T) (hr.mono (by decide)) rfl T.g_l_alike T.F_l_alike.kp T.b_l_alike .nil pass0 (pa_cons (pv 6) (pa_cons (pv 3) pa_nil))))))))) (pss_one (ps_ret pe_bl)) pss_nil)
      (pss_cons (ps_expr (pe_bm PySem.F.plainAttrs_list PySem.F.slot_list_append PySem.F.type_list_append mt_append (pv 7) (pa_cons (pe_tup (pa_cons pe_int (pa_cons pe_int pa_nil))) pa_nil)))
      (pss_cons (ps_expr (pe_bm PySem.F.plainAttrs_list PySem.F.slot_list_append PySem.F.type_list_append mt_append (pv 8) (pa_cons (pe_tup (pa_cons pe_int (pa_cons pe_int pa_nil))) pa_nil)))
      (pss_cons (ps_if (pt_not (pt_val (pe_call (ok_l_alike T) (hr.mono (by decide)) rfl T.g_l_alike T.F_l_alike.kp T.b_l_alike .nil pass0 (pa_cons (pv 6) (pa_cons (pv 3) pa_nil))))) (pss_one (ps_ret pe_bl)) pss_nil)
      (pss_cons (ps_if (pt_cmpR (r := rIn K true) op_notIn_seq (pv 4) (pv 1) (by rfl)) (pss_one (ps_ret (pe_cmpR op_isN (pv 9) pe_non (nomark _)))) pss_nil)
      (pss_one (ps_ret (pe_and (pe_call (ok_l_whole T) (hr.mono (by decide)) rfl T.g_l_whole T.F_l_whole.kp T.b_l_whole .nil pass0 (pa_cons (pv 9) pa_nil)) (pe_one (pe_cmpR (r := rEqD K) (op_eqD hr.units) (pe_lst (pa_cons (pe_tup (pa_cons (pv 4) (pa_cons (pv 9) pa_nil))) pa_nil)) (pe_lc (own := [("_law_one", 13)]) (g := gName 13) rfl sc_law.nd (pi_list (pv 3)) (blkOk_by (N := n_law) (sc := defScope s_law) (by decide +kernel)) (fun _ _ _ _ _ => pg_name (i := 13) sc_law.nd rfl (Or.inl rfl)) (fun _ _ _ _ _ => (pts_one (pt_cmpR op_eq (pe_ix (r := rIxT K) ix_tup (pv 13) pe_int (fun _ _ => rfl)) (pv 4) (nomark _)))) (fun _ _ _ _ _ => (pv 13))) (nomark _))))))))))))))))))))))), ?_⟩
    -- names
    refine q_asgCall (vs := [.ref a]) (by walk_at "ea") fun H0 e0 => ⟨a, ns, rfl, ex_l e0 hS, fun pn H1 ms hpn e1 hN hnd hml => ?_⟩
    have hS1 := ex_l (e0.trans e1) hS
    show tSeq _ _ _ _ _
    walk_at "nf"
    walk_at "asg"
    intro H2 e2
    walk_at "nf"
    have hS2 := ex_l e2 hS1
    have hN2 := hN.mono e2
    generalize cellN ns (4 : Int).toNat = sh
    obtain ⟨yn, hyn, hyp⟩ := id hN2
    have hyl := hyp.length
    let ps : List (Int × Int) := (List.range ms.length).map fun i => (ms.getD i 0, valN (sh + (i : Int) * (1 + sh % 3)) (i : Int))
    have psl : ps.length = ms.length := by
      show ((List.range ms.length).map _).length = _
      rw [List.length_map, List.length_range]
    have psn : ps.map (·.1) = ms := by
      show ((List.range ms.length).map _).map _ = _
      rw [List.map_map]
      refine List.ext_getElem (by simp) fun i h1 h2 => ?_
      simp only [List.getElem_map, List.getElem_range, Function.comp]
      rw [List.getD_eq_getElem?_getD, List.getElem?_eq_getElem h2]
      rfl
    refine q_asgLR (r' := rpT) (bs := ps) (EvLR.to (lcRR (r' := rpT) (n := ms.length) (fun _ => true) (fun i => (ms.getD i 0, valN (sh + (i : Int) * (1 + sh % 3)) (i : Int))) (by rw [← hyl]; have hq := sq_of (K := K) hyn; walk_at "ea") (by omega) (fun _ => rfl) ?_ ?_) ?_) ?_
    · intro i H3 e3 hi
      exact fun H5 e5 Q' q' => q' H5 (Ex.refl H5)
    · intro i H3 e3 hi _
      obtain ⟨x, hx, rfl⟩ := pr_at hyp (List.getElem?_eq_getElem hi)
      have hq : RV (rIxL K) (.ref pn) (.int (i : Int)) H3 (.int (ms.getD i 0)) := by
        rw [List.getD_eq_getElem?_getD, List.getElem?_eq_getElem hi]
        exact rv_ixL (sq_of (e3 _ _ hyn)) (atI_nat hx)
      refine ev_Rtup (vs := [.int (ms.getD i 0), .int (valN (sh + (i : Int) * (1 + sh % 3)) (i : Int))]) (ea_cons (ev_op (by walk_at "ev") (by walk_at "ev") hq) (ea_cons (by walk_at "ev") ea_nil)) (by show 2 ≤ 100000; decide) fun p H4 h4 => ⟨p, rfl, h4⟩
    · rw [List.filter_eq_self.mpr (fun _ _ => rfl)]
    intro pt H3 hpt e3 hT
    walk_at "nf"
    have hS3 := ex_l e3 hS2
    have hN3 := hN2.mono e3
    clear_value ps
    walk_at "asg"
    intro H4 e4
    walk_at "nf"
    have hS4 := ex_l e4 hS3
    have hN4 := hN3.mono e4
    have hT4 := hT.mono e4
    generalize cellN ns (17 : Int).toNat % 256 = n17
    obtain ⟨yn4, hyn4, hyp4⟩ := id hN4
    have hyl4 := hyp4.length
    refine q_ifAsg (v := .int (if (!ms.isEmpty && decide (V.int (cellN ns (18 : Int).toNat % 2) = V.int 1)) = true then ms.getD (cellN ns (17 : Int).toNat % (ms.length : Int)).toNat 0 else n17)) (b := !ms.isEmpty && decide (V.int (cellN ns (18 : Int).toNat % 2) = V.int 1)) ?_ ?_ ?_ ?_
    · refine et_and (et_test (ev_neNil (by walk_at "ev") hN4)) fun _ => ?_
      walk_at "et"
    · intro hb
      rw [if_pos hb]
      have hne : 0 < ms.length := by
        cases ms with
        | nil => simp at hb
        | cons m r => simp
      obtain ⟨j, hj, hjl⟩ := nat_mod (cellN ns (17 : Int).toNat) (ms.length : Int) (by omega)
      have hjl' : j < ms.length := by omega
      obtain ⟨x, hx, rfl⟩ := pr_at hyp4 (List.getElem?_eq_getElem hjl')
      have hq4 := sq_of (K := K) hyn4
      refine ev_op (x := .ref pn) (y := .int (j : Int)) (by walk_at "ev") ?_ ?_
      · rw [← hj, ← hyl4]
        walk_at "ev"
      · rw [hj, Int.toNat_natCast, List.getD_eq_getElem?_getD, List.getElem?_eq_getElem hjl']
        exact rv_ixL hq4 (atI_nat hx)
    · intro hb
      rw [if_neg (by rw [hb]; decide)]
      rfl
    generalize (if (!ms.isEmpty && decide (V.int (cellN ns (18 : Int).toNat % 2) = V.int 1)) = true then ms.getD (cellN ns (17 : Int).toNat % (ms.length : Int)).toNat 0 else n17) = nm
    intro H5 e5
    walk_at "nf"
    have hS5 := ex_l e5 hS4
    walk_at "asg"
    intro H6 e6
    walk_at "nf"
    generalize valN (cellN ns (19 : Int).toNat) 3 = vh
    have e36 := (e4.trans e5).trans e6
    have hN6 := hN3.mono e36
    have hT6 := hT.mono e36
    refine q_asgLR (r' := rpT) (bs := ps) (ev_listLR (by walk_at "ev") hT6) ?_
    intro ph H7 hph e7 hH
    walk_at "nf"
    have hN7 := hN6.mono e7
    have hT7 := hT6.mono e7
    refine q_asgLR (r' := rpT) (bs := withT ps nm vh) (ev_callLR (by walk_at "ea") (spl_with hH (by omega))) ?_
    intro pm H8 hpm e8 hM
    walk_at "nf"
    have hH8 := hH.mono e8
    refine q_asgLR (r' := rpT) (bs := withoutT ps nm) (ev_callLR (by walk_at "ea") (spl_without hH8 (by omega))) ?_
    intro pl H9 hpl e9 hL
    walk_at "nf"
    have hH9 := hH8.mono e9
    refine q_asg (v := valIn ps nm) (ev_call (vs := [.ref ph, .int nm]) (by walk_at "ea") (spv_valIn hH9)) ?_
    intro H10 e10
    walk_at "nf"
    have hT10 := hT7.mono ((e8.trans e9).trans e10)
    obtain ⟨yt, hyt, hytp⟩ := id hT10
    refine q_asgLR (r' := rpT) (bs := withoutT ps nm) (EvLR.to (lcLR (r := rpT) (r' := rpT) (fun p => !decide (p.1 = nm)) id (by walk_at "ev") (sq_of hyt) hytp (by omega) (fun _ => rfl) ?_ ?_) (List.map_id _)) ?_
    · rintro x b H1 e1 _ ⟨t, rfl, ht⟩
      refine et_is (a := !decide (V.int b.1 = V.int nm)) ?_ (by rw [decide_int])
      walk_at "et"
    · rintro x b H1 e1 _ hb _
      exact ev_R (by walk_at "ev") fun H2 e2 => rpT.mono e2 hb
    intro po H11 hpo e11 hO
    walk_at "nf"
    obtain ⟨yo, hyo, hyop⟩ := id hO
    have lo := withoutT_len ps nm
    refine q_asgLR (r' := rpT) (bs := withT ps nm vh) (EvLR.to (ev_catLR (r' := rpT) (as := (withoutT ps nm).filter (fun p => decide (p.1 < nm)) ++ [(nm, vh)]) (bs := (withoutT ps nm).filter (fun p => decide (nm < p.1))) (ev_catLR (r' := rpT) (as := (withoutT ps nm).filter (fun p => decide (p.1 < nm))) (bs := [(nm, vh)]) (EvLR.to (lcLR (r := rpT) (r' := rpT) (fun p => decide (p.1 < nm)) id (by walk_at "ev") (sq_of hyo) hyop (by omega) (fun _ => rfl) ?_ ?_) (List.map_id _)) (el_oneLR (ev_Rtup (vs := [.int nm, .int vh]) (by walk_at "ea") (by show 2 ≤ 100000; decide) fun p H4 h4 => ⟨p, rfl, h4⟩)) ?_) (EvLR.to (lcLR (r := rpT) (r' := rpT) (fun p => decide (nm < p.1)) id (by walk_at "ev") (sq_of hyo) hyop (by omega) (fun _ => rfl) ?_ ?_) (List.map_id _)) ?_) (due_is ps nm vh)) ?_
    · rintro x b H1 e1 _ ⟨t, rfl, ht⟩
      walk_at "et"
    · rintro x b H1 e1 _ hb _
      exact ev_R (by walk_at "ev") fun H2 e2 => rpT.mono e2 hb
    · have := List.length_filter_le (fun p : Int × Int => decide (p.1 < nm)) (withoutT ps nm)
      rw [List.length_singleton]
      omega
    · rintro x b H1 e1 _ ⟨t, rfl, ht⟩
      walk_at "et"
    · rintro x b H1 e1 _ hb _
      exact ev_R (by walk_at "ev") fun H2 e2 => rpT.mono e2 hb
    · have := List.length_filter_le (fun p : Int × Int => decide (p.1 < nm)) (withoutT ps nm)
      have := List.length_filter_le (fun p : Int × Int => decide (nm < p.1)) (withoutT ps nm)
      rw [List.length_append, List.length_singleton]
      omega
    intro pd H12 hpd e12 hD
    walk_at "nf"
    have lw := withT_len ps nm vh
    have hM12 := hM.mono (((e9.trans e10).trans e11).trans e12)
    have hL12 := hL.mono ((e10.trans e11).trans e12)
    have hO12 := hO.mono e12
    have hH12 := hH9.mono ((e10.trans e11).trans e12)
    have hT12 := hT10.mono (e11.trans e12)
    refine q_when (b := false) (et_is (et_or (et_not (et_B (ev_call (vs := [.ref pm, .ref pd]) (by walk_at "ea") (spv_alike hM12 hD (by omega) (by omega))))) fun _ => et_or (et_not (et_B (ev_call (vs := [.ref pl, .ref po]) (by walk_at "ea") (spv_alike hL12 hO12 (by omega) (by omega))))) fun _ => et_not (et_B (ev_call (vs := [.ref ph, .ref pt]) (by walk_at "ea") (spv_alike hH12 hT12 (by omega) (by omega))))) (by simp)) (fun q => absurd q (by decide)) ?_
    intro _ H13 e13
    obtain ⟨ym, hym, hymp⟩ := hM12.mono e13
    have lym := hymp.length
    refine q_appU (ys := [.int 999, .int 0]) hym (by walk_at "ev") (eu_tup (by walk_at "ea") (by decide)) (by omega) ?_
    intro p14 H14 hp14 e14 h14
    obtain ⟨yl, hyl', hylp⟩ := (hL12.mono e13).mono e14
    have lyl := hylp.length
    have npl : pl ≠ pm := by
      rintro rfl
      obtain ⟨y0, h0, _⟩ := hM
      rw [hpl] at h0
      cases h0
    have hyl2 : (upd H14 pm (.lst (ym ++ [.ref p14]))) pl = some (.lst yl) := by rw [upd_ne npl]; exact hyl'
    refine q_appU (ys := [.int 999, .int 0]) hyl2 (by walk_at "ev") (eu_tup (by walk_at "ea") (by decide)) (by omega) ?_
    intro p15 H15 hp15 e15 h15
    -- what stood ahead of more and less stands
    have f7 : Ex H7 (upd H15 pl (.lst (yl ++ [.ref p15]))) := by
      refine Ex.mut (Ex.trans (Ex.mut (((((((e8.trans e9).trans e10).trans e11).trans e12).trans e13).trans e14)) hpm) e15) (fresh_back e8 hpl)
    have hHf := hH.mono f7
    have hTf := hT7.mono f7
    have hNf := hN7.mono f7
    generalize upd H15 pl (.lst (yl ++ [.ref p15])) = HF at hHf hTf hNf
    refine q_when (b := false) (et_is (et_not (et_B (ev_call (vs := [.ref ph, .ref pt]) (by walk_at "ea") (spv_alike hHf hTf (by omega) (by omega))))) (by simp)) (fun q => absurd q (by decide)) ?_
    intro _ H16 e16
    obtain ⟨yn6, hyn6, hyp6⟩ := hNf.mono e16
    have e66 := pr_ints_eq hyp6
    subst e66
    have hq6 := sq_of (K := K) hyn6
    refine q_when (b := !decide (nm ∈ ms)) (et_test (ev_op (by walk_at "ev") (by walk_at "ev") (rv_niInts hq6))) ?_ ?_
    · intro hb H17 e17
      have hnm : nm ∉ ms := by simpa using hb
      walk_at "ret"
      rw [valIn_out nm ps (by rw [psn]; exact hnm)]
      exact fun H' _ => k H'
    · intro hb H17 e17
      have hnm : nm ∈ ms := by simpa using hb
      obtain ⟨v, hv, hf⟩ := valIn_mem nm ps (by rw [psn]; exact hnd) (by rw [psn]; exact hnm)
      rw [hv]
      obtain ⟨yt7, hyt7, hytp7⟩ := (hTf.mono e16).mono e17
      refine s_retk (v := .bl true) (ev_is (ev_andV (a := true) (b := true) (by walk_at "ev") fun _ => ev_eqTT (as := [(nm, v)]) (bs := [(nm, v)]) (el_oneLR (ev_Rtup (vs := [.int nm, .int v]) (by walk_at "ea") (by show 2 ≤ 100000; decide) fun p H4 h4 => ⟨p, rfl, h4⟩)) (EvLR.to (lcLR (r := rpT) (r' := rpT) (fun p => decide (p.1 = nm)) id (by walk_at "ev") (sq_of hyt7) hytp7 (by omega) (fun _ => rfl) ?_ ?_) (by rw [List.map_id]; exact hf)) rfl) rfl) (fun H' _ => k H')
      · rintro x b H1 e1 _ ⟨t, rfl, ht⟩
        refine et_is (a := decide (V.int b.1 = V.int nm)) ?_ (by rw [decide_int])
        walk_at "et"
      · rintro x b H1 e1 _ hb _
        exact ev_R (by walk_at "ev") fun H2 e2 => rpT.mono e2 hb
end
theorem all_mk {l : PySem.W.OpenLaw} {w : World} {K : PySem.W.Frag} {h : Heap} {mg : Str → Option Value} {fa : Addr} (X : K.In h) (G : h.Ns mainGlobals mg) (hfa : mg "law" = some (.ref fa))
    {f0 : Addr} {od0 an0 : Option Addr} {sl0 : Array (Option Value)} {oc0 kV0 dc0 pm0 cd0 ct0 : Value}
    {f1 : Addr} {od1 an1 : Option Addr} {sl1 : Array (Option Value)} {oc1 kV1 dc1 pm1 cd1 ct1 : Value}
    {f2 : Addr} {od2 an2 : Option Addr} {sl2 : Array (Option Value)} {oc2 kV2 dc2 pm2 cd2 ct2 : Value}
    {f3 : Addr} {od3 an3 : Option Addr} {sl3 : Array (Option Value)} {oc3 kV3 dc3 pm3 cd3 ct3 : Value}
    {f4 : Addr} {od4 an4 : Option Addr} {sl4 : Array (Option Value)} {oc4 kV4 dc4 pm4 cd4 ct4 : Value}
    {f5 : Addr} {od5 an5 : Option Addr} {sl5 : Array (Option Value)} {oc5 kV5 dc5 pm5 cd5 ct5 : Value}
    {f6 : Addr} {od6 an6 : Option Addr} {sl6 : Array (Option Value)} {oc6 kV6 dc6 pm6 cd6 ct6 : Value}
    {f7 : Addr} {od7 an7 : Option Addr} {sl7 : Array (Option Value)} {oc7 kV7 dc7 pm7 cd7 ct7 : Value}
    {f8 : Addr} {od8 an8 : Option Addr} {sl8 : Array (Option Value)} {oc8 kV8 dc8 pm8 cd8 ct8 : Value}
    (a0 : PySem.W.nsIn K mainGlobals "with_thing" = some (some (.ref f0)))
    (l0 : K.lookup f0 = some ⟨oc0, od0, .func (PySem.W.fnOf "with_thing" "with_thing" (defArgs s_with_thing) (defBody s_with_thing) (defScope s_with_thing) .none kV0 dc0 pm0 an0 cd0 ct0), sl0⟩)
    (c0 : PySem.W.codeIn K cd0 "with_thing" = true) (k0 : PySem.W.keepIn K (.ref f0) = true)
    (a1 : PySem.W.nsIn K mainGlobals "without_thing" = some (some (.ref f1)))
    (l1 : K.lookup f1 = some ⟨oc1, od1, .func (PySem.W.fnOf "without_thing" "without_thing" (defArgs s_without_thing) (defBody s_without_thing) (defScope s_without_thing) .none kV1 dc1 pm1 an1 cd1 ct1), sl1⟩)
    (c1 : PySem.W.codeIn K cd1 "without_thing" = true) (k1 : PySem.W.keepIn K (.ref f1) = true)
    (a2 : PySem.W.nsIn K mainGlobals "value_in" = some (some (.ref f2)))
    (l2 : K.lookup f2 = some ⟨oc2, od2, .func (PySem.W.fnOf "value_in" "value_in" (defArgs s_value_in) (defBody s_value_in) (defScope s_value_in) .none kV2 dc2 pm2 an2 cd2 ct2), sl2⟩)
    (c2 : PySem.W.codeIn K cd2 "value_in" = true) (k2 : PySem.W.keepIn K (.ref f2) = true)
    (a3 : PySem.W.nsIn K mainGlobals "_law_whole" = some (some (.ref f3)))
    (l3 : K.lookup f3 = some ⟨oc3, od3, .func (PySem.W.fnOf "_law_whole" "_law_whole" (defArgs s_l_whole) (defBody s_l_whole) (defScope s_l_whole) .none kV3 dc3 pm3 an3 cd3 ct3), sl3⟩)
    (c3 : PySem.W.codeIn K cd3 "_law_whole" = true) (k3 : PySem.W.keepIn K (.ref f3) = true)
    (a4 : PySem.W.nsIn K mainGlobals "_law_cell_at" = some (some (.ref f4)))
    (l4 : K.lookup f4 = some ⟨oc4, od4, .func (PySem.W.fnOf "_law_cell_at" "_law_cell_at" (defArgs s_l_cell_at) (defBody s_l_cell_at) (defScope s_l_cell_at) .none kV4 dc4 pm4 an4 cd4 ct4), sl4⟩)
    (c4 : PySem.W.codeIn K cd4 "_law_cell_at" = true) (k4 : PySem.W.keepIn K (.ref f4) = true)
    (a5 : PySem.W.nsIn K mainGlobals "_law_value" = some (some (.ref f5)))
    (l5 : K.lookup f5 = some ⟨oc5, od5, .func (PySem.W.fnOf "_law_value" "_law_value" (defArgs s_l_value) (defBody s_l_value) (defScope s_l_value) .none kV5 dc5 pm5 an5 cd5 ct5), sl5⟩)
    (c5 : PySem.W.codeIn K cd5 "_law_value" = true) (k5 : PySem.W.keepIn K (.ref f5) = true)
    (a6 : PySem.W.nsIn K mainGlobals "_law_names" = some (some (.ref f6)))
    (l6 : K.lookup f6 = some ⟨oc6, od6, .func (PySem.W.fnOf "_law_names" "_law_names" (defArgs s_l_names) (defBody s_l_names) (defScope s_l_names) .none kV6 dc6 pm6 an6 cd6 ct6), sl6⟩)
    (c6 : PySem.W.codeIn K cd6 "_law_names" = true) (k6 : PySem.W.keepIn K (.ref f6) = true)
    (a7 : PySem.W.nsIn K mainGlobals "_law_alike" = some (some (.ref f7)))
    (l7 : K.lookup f7 = some ⟨oc7, od7, .func (PySem.W.fnOf "_law_alike" "_law_alike" (defArgs s_l_alike) (defBody s_l_alike) (defScope s_l_alike) .none kV7 dc7 pm7 an7 cd7 ct7), sl7⟩)
    (c7 : PySem.W.codeIn K cd7 "_law_alike" = true) (k7 : PySem.W.keepIn K (.ref f7) = true)
    (a8 : PySem.W.nsIn K mainGlobals "law" = some (some (.ref f8)))
    (l8 : K.lookup f8 = some ⟨oc8, od8, .func (PySem.W.fnOf "law" "law" (defArgs s_law) (defBody s_law) (defScope s_law) .none kV8 dc8 pm8 an8 cd8 ct8), sl8⟩)
    (c8 : PySem.W.codeIn K cd8 "law" = true) (k8 : PySem.W.keepIn K (.ref f8) = true)
    (z0 : PySem.W.nsIn K mainGlobals "bool" = some none)
    (z1 : PySem.W.nsIn K mainGlobals "int" = some none)
    (z2 : PySem.W.nsIn K mainGlobals "isinstance" = some none)
    (z3 : PySem.W.nsIn K mainGlobals "len" = some none)
    (z4 : PySem.W.nsIn K mainGlobals "list" = some none)
    (z5 : PySem.W.nsIn K mainGlobals "range" = some none)
    (z6 : PySem.W.nsIn K mainGlobals "sorted" = some none)
    (z7 : PySem.W.nsIn K mainGlobals "tuple" = some none) :
    ∃ fd : FuncData, (∀ (s : Shared) (v : Value), BindsTo s fd ⟨[v], []⟩ [("_law_script", v)]) ∧ ∀ base : Heap, K.In base → base.Ns mainGlobals mg → FnOk l.prog w K mg base CX0 3 fa fd ["_law_script"] (spLaw K) := by
  have e := hfa.symm.trans (PySem.W.mg_of X G a8)
  cases e
  let T : Top K mg := { a_with_thing := f0, fd_with_thing := _, F_with_thing := fun_mk (st := s_with_thing) l0 c0 k0, g_with_thing := PySem.W.mg_of X G a0, b_with_thing := (fun_mk (st := s_with_thing) l0 c0 k0).binds (ps := ["things", "name", "value"]) fun _ _ _ _ _ _ us hl => (match us, hl with | [_, _, _], _ => rfl), a_without_thing := f1, fd_without_thing := _, F_without_thing := fun_mk (st := s_without_thing) l1 c1 k1, g_without_thing := PySem.W.mg_of X G a1, b_without_thing := (fun_mk (st := s_without_thing) l1 c1 k1).binds (ps := ["things", "name"]) fun _ _ _ _ _ _ us hl => (match us, hl with | [_, _], _ => rfl), a_value_in := f2, fd_value_in := _, F_value_in := fun_mk (st := s_value_in) l2 c2 k2, g_value_in := PySem.W.mg_of X G a2, b_value_in := (fun_mk (st := s_value_in) l2 c2 k2).binds (ps := ["things", "name"]) fun _ _ _ _ _ _ us hl => (match us, hl with | [_, _], _ => rfl), a_l_whole := f3, fd_l_whole := _, F_l_whole := fun_mk (st := s_l_whole) l3 c3 k3, g_l_whole := PySem.W.mg_of X G a3, b_l_whole := (fun_mk (st := s_l_whole) l3 c3 k3).binds (ps := ["_law_found"]) fun _ _ _ _ _ _ us hl => (match us, hl with | [_], _ => rfl), a_l_cell_at := f4, fd_l_cell_at := _, F_l_cell_at := fun_mk (st := s_l_cell_at) l4 c4 k4, g_l_cell_at := PySem.W.mg_of X G a4, b_l_cell_at := (fun_mk (st := s_l_cell_at) l4 c4 k4).binds (ps := ["_law_script", "_law_k"]) fun _ _ _ _ _ _ us hl => (match us, hl with | [_, _], _ => rfl), a_l_value := f5, fd_l_value := _, F_l_value := fun_mk (st := s_l_value) l5 c5 k5, g_l_value := PySem.W.mg_of X G a5, b_l_value := (fun_mk (st := s_l_value) l5 c5 k5).binds (ps := ["_law_cell", "_law_k"]) fun _ _ _ _ _ _ us hl => (match us, hl with | [_, _], _ => rfl), a_l_names := f6, fd_l_names := _, F_l_names := fun_mk (st := s_l_names) l6 c6 k6, g_l_names := PySem.W.mg_of X G a6, b_l_names := (fun_mk (st := s_l_names) l6 c6 k6).binds (ps := ["_law_script"]) fun _ _ _ _ _ _ us hl => (match us, hl with | [_], _ => rfl), a_l_alike := f7, fd_l_alike := _, F_l_alike := fun_mk (st := s_l_alike) l7 c7 k7, g_l_alike := PySem.W.mg_of X G a7, b_l_alike := (fun_mk (st := s_l_alike) l7 c7 k7).binds (ps := ["_law_found", "_law_due"]) fun _ _ _ _ _ _ us hl => (match us, hl with | [_, _], _ => rfl), a_law := fa, fd_law := _, F_law := fun_mk (st := s_law) l8 c8 k8, g_law := PySem.W.mg_of X G a8, b_law := (fun_mk (st := s_law) l8 c8 k8).binds (ps := ["_law_script"]) fun _ _ _ _ _ _ us hl => (match us, hl with | [_], _ => rfl), z_bool := PySem.W.mg_none_of X G z0, z_int := PySem.W.mg_none_of X G z1, z_isinstance := PySem.W.mg_none_of X G z2, z_len := PySem.W.mg_none_of X G z3, z_list := PySem.W.mg_none_of X G z4, z_range := PySem.W.mg_none_of X G z5, z_sorted := PySem.W.mg_none_of X G z6, z_tuple := PySem.W.mg_none_of X G z7 }
  exact ⟨_, fun s v => .of_eq rfl, fun base _ _ => ok_law (P := l.prog) (w := w) (base := base) T⟩
theorem walk {l : PySem.W.OpenLaw} {q : Program} {loose : List Str} {XP : (Str → Option Value) → Heap → Prop} {YP : World → Heap → Prop} {d : DefRec} {K : Params → PySem.W.Frag} (hn : l.most = some 63) (hdf : d.params.defaults = [])
    (hY : ∀ (w : World) (h : Heap), YP w h → (K w.params).In h)
    (F : ∀ (w : World) (mg : Str → Option Value) (fa : Addr) (h : Heap), (K w.params).In h → h.Ns mainGlobals mg → mg d.name = some (.ref fa) →
      ∃ fd : FuncData, (∀ (s : Shared) (u : Value), BindsTo s fd ⟨[u], []⟩ [("_law_script", u)]) ∧ ∀ base : Heap, (K w.params).In base → base.Ns mainGlobals mg → FnOk l.prog w (K w.params) mg base CX0 3 fa fd ["_law_script"] (spLaw (K w.params))) :
    PySem.W.WalkO q loose XP YP l.row.toRowW d [] (fun f vs => PySem.call f vs) :=
  L2.walk_of (n := 63) (k := 3) (x := "_law_script") (CX := fun _ => CX0) (sp := fun w => spLaw (K w.params)) hn (by decide) hdf ⟨rfl, by decide, by decide⟩ hY F (fun _ _ a ns hl _ hS => ⟨a, ns, rfl, hS, hl, fun _ => rfl⟩) fun _ _ _ _ _ z => z
end Vf
open PySem PySem.W PyProof.Rows
set_option maxRecDepth 100000 in
set_option maxHeartbeats 0 in
theorem PySem.Challenge.cw_splitrooms_k03_things_of_a_room_holds : PySem.Challenge.rw_splitrooms_k03_things_of_a_room.Holds := by
  w_on; o_law; k_head; (case hw => w_witness2)
  k_fill
  refine Vf.walk (l := PySem.Challenge.rw_splitrooms_k03_things_of_a_room) rfl rfl (fun w h Y => PySem.W.kIn_of Y) ?F
  case F =>
    intro w mg fa h KX G hmg
    refine' Vf.all_mk KX G hmg ?a0 ?l0 ?c0 ?k0 ?a1 ?l1 ?c1 ?k1 ?a2 ?l2 ?c2 ?k2 ?a3 ?l3 ?c3 ?k3 ?a4 ?l4 ?c4 ?k4 ?a5 ?l5 ?c5 ?k5 ?a6 ?l6 ?c6 ?k6 ?a7 ?l7 ?c7 ?k7 ?a8 ?l8 ?c8 ?k8 ?z0 ?z1 ?z2 ?z3 ?z4 ?z5 ?z6 ?z7
    (case a0 => k_is)
    (case l0 => k_is)
    (case c0 => k_is)
    (case k0 => k_is)
    (case a1 => k_is)
    (case l1 => k_is)
    (case c1 => k_is)
    (case k1 => k_is)
    (case a2 => k_is)
    (case l2 => k_is)
    (case c2 => k_is)
    (case k2 => k_is)
    (case a3 => k_is)
    (case l3 => k_is)
    (case c3 => k_is)
    (case k3 => k_is)
    (case a4 => k_is)
    (case l4 => k_is)
    (case c4 => k_is)
    (case k4 => k_is)
    (case a5 => k_is)
    (case l5 => k_is)
    (case c5 => k_is)
    (case k5 => k_is)
    (case a6 => k_is)
    (case l6 => k_is)
    (case c6 => k_is)
    (case k6 => k_is)
    (case a7 => k_is)
    (case l7 => k_is)
    (case c7 => k_is)
    (case k7 => k_is)
    (case a8 => k_is)
    (case l8 => k_is)
    (case c8 => k_is)
    (case k8 => k_is)
    (case z0 => k_is)
    (case z1 => k_is)
    (case z2 => k_is)
    (case z3 => k_is)
    (case z4 => k_is)
    (case z5 => k_is)
    (case z6 => k_is)
    (case z7 => k_is)
