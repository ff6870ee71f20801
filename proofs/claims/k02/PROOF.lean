import PyProof.Rows.All
import Wide.All
import OpenK.AllK
import Wide.FinOn
import HandS.ForMost
import HandS.Evl
import HandS.More
import HandS.IsInst
import HandS.FStr
import HandS.StrMore
import HandS.Walk
import PySem.Challenge.RW_splitrooms_k02_signs
set_option Elab.async false
set_option linter.all false
set_option maxRecDepth 100000
namespace Vf
open PySem L2 Evl
/-! ### a number by twos as a text, and the signs of a name -/
def binT (n : Nat) : Str := ⟨((Nat.toDigits 2 n).map Char.toNat).toArray⟩
theorem strCast {x y : Str} {Q : Str → Prop} (h : Q y) (e : x = y) : Q x := e ▸ h
open Builtin Builtin.Float in
set_option maxHeartbeats 4000000 in
theorem gvB_gen {sp : Str} {f : FormatSpec} (hp : parseFormatSpec sp.cps.toList "int" 62 = .ok f) (hne : (sp.length == 0) = false)
    (hasc : ((sp.cps.toList.drop 1).any (· ≥ 128) || (sp.cps.getD 0 0 ≥ 128 && !([60, 62, 61, 94] : List Nat).contains (sp.cps.getD 1 0))) = false)
    (hty : f.type = some 98) (hpr : f.precision = none) (hz : f.noNeg0 = false) (hal : f.alt = false) (hw : f.width = none) (hgr : f.grouping = none) (hsg : f.sign = none) (hfl : f.fill = 32) (hag : f.align = 62)
    (n : Nat) (t u : Tok) : Gives («int.__format__» ⟨[.int (n : Int) t, .str sp u], []⟩) (.str (binT n)) := by
  intro prog w A R s hq
  have hsz : (binT n).length ≤ sizeLine := hq.1
  unfold «int.__format__»
  simp only [selfAndOne, noKeywords, Int.intOfSelf, asInt?, asStr?, List.isEmpty_nil, if_true, pure_bind, hne, hasc, Bool.false_eq_true, if_false, show (Value.str sp u == Value.none) = false from rfl]
  refine wpAny_bind (wpAny_typeNameOf (T := "str") (typeIs_str _ _ _) (by decide) fun _ => ?_)
  refine wpAny_bind (PyProof.Rows.wpAny_typeNameOfCut_int ?_)
  simp only [hp, hty, Option.getD_some]
  rw [if_pos (by decide)]
  show wpAny _ _ (if _ then _ else _) _ _ _
  rw [if_neg (by simp [hpr])]
  show wpAny _ _ (if _ then _ else _) _ _ _
  rw [if_neg (by simp [hz])]
  show wpAny _ _ (if _ then _ else _) _ _ _
  rw [if_neg (by decide)]
  show wpAny _ _ (if _ then _ else _) _ _ _
  rw [if_neg (by decide)]
  show wpAny _ _ (if _ then _ else _) _ _ _
  rw [if_neg (by simp [hw])]
  show wpAny _ _ (retStr _) _ _ _
  unfold retStr
  have hneg : decide ((n : Int) < 0) = false := decide_eq_false (by omega)
  obtain ⟨c, cs, hds⟩ : ∃ c cs, (Nat.toDigits 2 n).map Char.toNat = c :: cs := by
    cases hd : (Nat.toDigits 2 n).map Char.toNat with
    | nil => exact absurd (congrArg List.length hd) (by rw [List.length_map]; exact Nat.ne_of_gt (Nat.length_toDigits_pos))
    | cons c cs => exact ⟨c, cs, rfl⟩
  have hb : binT n = ⟨(c :: cs).toArray⟩ := by unfold binT; rw [hds]
  have hmap : (List.map (fun c => (if ((98 : Nat) == 88) = true then c.toUpper else c).toNat) (Nat.toDigits 2 ((n : Int)).natAbs)) = c :: cs := by
    rw [← hds]
    rfl
  rw [hneg, hmap, hal]
  obtain ⟨fl, al, sg, z0, alt, wd, gr, pr, ty⟩ := f
  simp only at hty hpr hz hal hw hgr hsg hfl hag
  subst hty hpr hz hal hw hgr hsg hfl hag
  refine wpAny_bind (wpAny_mkStr (wpAny_pure ?_) ?_)
  · refine strCast (Q := fun x => R (Except.ok (Flow.ret (Value.str x s.toks))) _) hq.2 ?_
    rw [hb]
    conv => lhs; whnf
    simp
    omega
  · refine strCast (Q := fun x => x.length ≤ sizeLine) hsz ?_
    rw [hb]
    conv => lhs; whnf
    simp
    omega
open Builtin Builtin.Float in
def fB : FormatSpec := { align := 62, type := some 98 }
theorem hpB : Builtin.Float.parseFormatSpec ("b" : Str).cps.toList "int" 62 = .ok fB := by kernel_rfl
theorem neB : (("b" : Str).length == 0) = false := by decide +kernel
theorem ascB : ((("b" : Str).cps.toList.drop 1).any (· ≥ 128) || (("b" : Str).cps.getD 0 0 ≥ 128 && !([60, 62, 61, 94] : List Nat).contains (("b" : Str).cps.getD 1 0))) = false := by decide +kernel
section
variable {X : Cx}
/-- {e:b} of a number not below nought -/
def tFmtB (te : TE) : TE := fun σ H Q => te σ H fun x H1 => ∃ n : Nat, x = .int (n : Int) ∧ (binT n).length ≤ sizeLine ∧ Q (.str (binT n)) H1
theorem pe_fmtB {e : Expr} {te : TE} {j : Nat} {p1 p2 pos : Pos} (he : PE X e te) : PE X (.FormattedValue e (-1) (some (.JoinedStr [.Constant (.str "b") j p1] p2)) pos) (tFmtB te) := by
  refine ⟨fun pins s σ H Q I h => ?_⟩
  refine wpAny_FormattedValue_spec (thn (he.run pins s σ H _ I h) fun v s1 hv => ?_)
  obtain ⟨x, H1, I1, r1, n, rfl, hz, q⟩ := hv
  obtain ⟨t, rfl⟩ := r1
  refine wpAny_JoinedStr_one (Calls.Constant_str ?_)
  refine ⟨_, _, rfl, ?_⟩
  refine wpAny_formatField_spec neB (fun s' => typeIs_int s' _ _) PyProof.Rows.slot_int_format PyProof.Rows.entry_int_format (PyProof.Rows.args_int_format) (fun u => gvB_gen hpB neB ascB rfl rfl rfl rfl rfl rfl rfl rfl rfl n t u) ?_ (by decide +kernel) hz
  exact ⟨.str (binT n), H1, I1.tok _, ⟨_, rfl⟩, q⟩
end
/-- the mixed name of a name -/
def mixN (n : Nat) : Nat := (171 * n + 37) % 256
/-- eight signs by twos -/
def sg8 (m : Nat) : Str := ⟨#[48 + m / 128 % 2, 48 + m / 64 % 2, 48 + m / 32 % 2, 48 + m / 16 % 2, 48 + m / 8 % 2, 48 + m / 4 % 2, 48 + m / 2 % 2, 48 + m % 2]⟩
theorem zf8 : ∀ m : Nat, m < 256 → Txt.zfill (binT m) 8 = sg8 m := by decide +kernel
theorem binT_len : ∀ m : Nat, m < 256 → (binT m).length ≤ sizeLine := fun m h => Nat.le_trans (by revert m; decide +kernel : (binT m).length ≤ 8) (by decide)
theorem mixN_lt (n : Nat) : mixN n < 256 := Nat.mod_lt _ (by decide)
/-! ### what evaluates to what: further lines, and the tactics that lay them -/
section
variable {K : PySem.W.Frag} {σ : L2.St} {H H' : Hp} {ta tb tc te tx : TE} {t u : TT} {x y z v : V} {r r' : R2} {D : Ends} {tu tw tz : TS}
theorem et_chain {a b : Bool} (ha : Ev ta σ H x) (hb : Ev tb σ H y) (hr : RV r x y H (.bl a)) (hc : a = true → Ev tc σ H z) (hr2 : a = true → RV r' y z H (.bl b)) : EvT (tTest (tChain r r' ta tb tc)) σ H (a && b) := fun H1 e Q q =>
  ha H1 e _ fun H2 e2 => hb H2 (e.trans e2) _ fun H3 e3 => hr H3 ((e.trans e2).trans e3) _ fun H4 e4 => ⟨a, rfl, by
    cases a with
    | true =>
      show tc σ H4 _
      exact hc rfl H4 (((e.trans e2).trans e3).trans e4) _ fun H5 e5 => hr2 rfl H5 ((((e.trans e2).trans e3).trans e4).trans e5) _ fun H6 e6 => ⟨b, rfl, q H6 ((((e2.trans e3).trans e4).trans e5).trans e6)⟩
    | false => exact ⟨false, rfl, q H4 ((e2.trans e3).trans e4)⟩⟩
theorem rc_len {p : Addr} {xs : List V} (h : SqL K H p xs) : RC (fun vs H Q => ∃ p ys, vs = [V.ref p] ∧ (SqL K H p ys ∨ SqT K H p ys) ∧ Q (.int ys.length) H) [.ref p] H (.int xs.length) := fun H1 e _ q => ⟨p, xs, rfl, .inl (ex_l e h), q H1 (Ex.refl H1)⟩
theorem rc_lenT {p : Addr} {xs : List V} (h : SqT K H p xs) : RC (fun vs H Q => ∃ p ys, vs = [V.ref p] ∧ (SqL K H p ys ∨ SqT K H p ys) ∧ Q (.int ys.length) H) [.ref p] H (.int xs.length) := fun H1 e _ q => ⟨p, xs, rfl, .inr (ex_t e h), q H1 (Ex.refl H1)⟩
theorem rc_lenS {s : Str} (h : s.length ≤ 100000) : RC (fun vs H Q => ∃ z, vs = [V.str z] ∧ z.length ≤ sizeLine ∧ Q (.int z.length) H) [.str s] H (.int s.length) := fun H1 _ _ q => ⟨s, rfl, sz_of h, q H1 (Ex.refl H1)⟩
theorem rc_intB {b : Bool} : RC (fun vs H Q => (∃ i, vs = [V.int i] ∧ Q (.int i) H) ∨ ∃ k, vs = [V.bl k] ∧ Q (.int (if k then 1 else 0)) H) [.bl b] H (.int (if b then 1 else 0)) := fun H1 _ _ q => .inr ⟨b, rfl, q H1 (Ex.refl H1)⟩
theorem rc_strI {i : Int} (h : i.natAbs.log2 < 1920) : RC (fun vs H Q => ∃ i, vs = [V.int i] ∧ i.natAbs.log2 < 1920 ∧ Q (.str (toString i)) H) [.int i] H (.str (toString i)) := fun H1 _ _ q => ⟨i, rfl, h, q H1 (Ex.refl H1)⟩
/-- isinstance of a value whose type is known, and a built-in type -/
theorem rc_isi {c : String} {n : String} {b : Bool} (ht : ∀ H1, Ex H H1 → TyX K H1 x (.type c)) (hk : kitB c n = some b) : RC (rIsi K) [x, .ty n] H (.bl b) := fun H1 e _ q => ⟨x, .ty n, .type c, .type n, b, rfl, .ty n, ht H1 e, kit_ty hk, q H1 (Ex.refl H1)⟩
theorem tx_int {i : Int} : ∀ H1, Ex H H1 → TyX K H1 (.int i) (.type "int") := fun _ _ => .base (.int i)
theorem tx_str {s : Str} : ∀ H1, Ex H H1 → TyX K H1 (.str s) (.type "str") := fun _ _ => .base (.str s)
theorem tx_non : ∀ H1, Ex H H1 → TyX K H1 .non (.type "NoneType") := fun _ _ => .base .non
theorem tx_lst {a : Addr} {xs : List V} (h : H a = some (.lst xs)) : ∀ H1, Ex H H1 → TyX K H1 (.ref a) (.type "list") := fun _ e => .base (.lst (e a _ h))
theorem tx_tup {a : Addr} {xs : List V} (h : H a = some (.tup xs)) : ∀ H1, Ex H H1 → TyX K H1 (.ref a) (.type "tuple") := fun _ e => .base (.tup (e a _ h))
theorem rv_add_str {a b : Str} (h : a.length + b.length ≤ 100000) : RV (fun x y H Q => ∃ i j, x = V.str i ∧ y = V.str j ∧ i.length + j.length ≤ sizeLine ∧ Q (.str (i ++ j)) H) (.str a) (.str b) H (.str (a ++ b)) := fun H1 _ _ q => ⟨a, b, rfl, rfl, sz_of h, q H1 (Ex.refl H1)⟩
theorem rv_NT {a b : String} : RV rNT (.ty a) (.ty b) H (.bl (!decide (a = b))) := fun H1 _ _ q => ⟨a, b, rfl, rfl, q H1 (Ex.refl H1)⟩
theorem rc_typI {i : Int} : RC (rTyp K) [.int i] H (.ty "int") := fun H1 _ _ q => ⟨.int i, "int", rfl, .int i, q H1 (Ex.refl H1)⟩
theorem rv_isN : RV (fun x y H Q => y = V.non ∧ Q (.bl (decide (x = .non))) H) x .non H (.bl (decide (x = .non))) := fun H1 _ _ q => ⟨rfl, q H1 (Ex.refl H1)⟩
theorem s_retk (h : Ev te σ H v) (k : RetV v H D.rt) : tRet te D σ H := s_ret h k
theorem RetV.mono {Q : VK} (e : Ex H H') (k : RetV v H Q) : RetV v H' Q := fun H2 e2 => k H2 (e.trans e2)
end
theorem kb_ss : kitB "str" "str" = some true := by decide +kernel
theorem kb_ii : kitB "int" "int" = some true := by decide +kernel
theorem kb_ib : kitB "int" "bool" = some false := by decide +kernel
theorem kb_ll : kitB "list" "list" = some true := by decide +kernel
theorem kb_tt : kitB "tuple" "tuple" = some true := by decide +kernel
theorem decide_int (i j : Int) : decide (V.int i = V.int j) = decide (i = j) := by
  by_cases h : i = j
  · rw [h, decide_eq_true rfl, decide_eq_true rfl]
  · rw [decide_eq_false h, decide_eq_false (fun q => h (V.int.inj q))]
local macro_rules | `(tactic| walk_at "cond") => `(tactic| first | assumption | decide | (show (0 : Int) < _; decide) | (exact ⟨by decide, by decide⟩) | (exact Or.inl ⟨by decide, by decide⟩) | (exact Or.inr ⟨by decide, by decide⟩) | (unfold CMul; omega) | omega)
local macro_rules | `(tactic| walk_at "seq") => `(tactic| first | assumption | (exact ex_l (by assumption) (by assumption)) | (exact ex_t (by assumption) (by assumption)) | (exact sq_of (by assumption)) | (exact st_of (by assumption)))
local macro_rules | `(tactic| walk_at "rv") => `(tactic| first | exact rv_I0 | (refine rv_I ?_; walk_at "cond") | (exact rv_eq rfl) | (exact rv_ne rfl) | (exact rv_NT) | (exact rv_isN) | (refine rv_add_str ?_; walk_at "cond"))
local macro_rules | `(tactic| walk_at "rc") => `(tactic| first | (apply rc_len; walk_at "seq") | (refine rc_lenS ?_; walk_at "cond") | exact rc_intB | exact rc_typI | (refine rc_strI ?_; walk_at "cond") | (exact rc_isi tx_str kb_ss) | (exact rc_isi tx_int kb_ii) | (exact rc_isi tx_int kb_ib) | (exact rc_isi (tx_lst (by assumption)) kb_ll) | (exact rc_isi (tx_tup (by assumption)) kb_tt))
local macro_rules | `(tactic| walk_at "spv") => `(tactic| fail "no promise")
local macro_rules | `(tactic| walk_at "ea") => `(tactic| first | (with_reducible exact ea_nil) | ((with_reducible apply ea_cons); walk_at "ev"; walk_at "ea"))
local macro_rules | `(tactic| walk_at "ev") => `(tactic| first
  | (with_reducible exact ev_c)
  | ((with_reducible apply ev_var); rfl)
  | ((with_reducible apply ev_op); walk_at "ev"; walk_at "ev"; walk_at "rv")
  | ((with_reducible apply ev_cb); walk_at "ea"; walk_at "rc")
  | ((with_reducible apply ev_call); walk_at "ea"; walk_at "spv")
  | ((with_reducible apply ev_notV); walk_at "ev"))
local macro_rules | `(tactic| walk_at "et") => `(tactic| first
  | ((with_reducible apply et_chain); walk_at "ev"; walk_at "ev"; walk_at "rv"; (intro _; walk_at "ev"); (intro _; walk_at "rv"))
  | ((with_reducible apply et_test); walk_at "ev")
  | ((with_reducible apply et_B); walk_at "ev")
  | ((with_reducible apply et_not); walk_at "et")
  | ((with_reducible apply et_or); walk_at "et"; (intro _; walk_at "et"))
  | ((with_reducible apply et_and); walk_at "et"; (intro _; walk_at "et")))
section
variable {K : PySem.W.Frag} {σ : L2.St} {H H' : Hp} {ta tb tc te tx : TE} {x y z v : V}
theorem ev_fmtB {n : Nat} (h : Ev te σ H (.int (n : Int))) (hn : n < 256) : Ev (tFmtB te) σ H (.str (binT n)) := fun H1 e Q q => h H1 e _ fun H2 e2 => ⟨n, rfl, binT_len n hn, q H2 e2⟩
theorem ev_bmS {r : V → List V → Hp → VK → Prop} {t : TA} {s : Str} {vs : List V} (h : Ev te σ H (.str s)) (ha : EvA t σ H vs) (hr : ∀ H1, Ex H H1 → ∀ Q : VK, (∀ H2, Ex H1 H2 → Q z H2) → r (.str s) vs H1 Q) : Ev (tBM K "str" r te t) σ H z := fun H1 e Q q =>
  h H1 e _ fun H2 e2 => ⟨rfl, ha H2 (e.trans e2) _ fun H3 e3 => hr H3 ((e.trans e2).trans e3) Q fun H4 e4 => q H4 ((e2.trans e3).trans e4)⟩
theorem ev_zfill {t : TA} {s : Str} {i : Int} (h : Ev te σ H (.str s)) (ha : EvA t σ H [.int i]) (hi : PadOk i = true) : Ev (tBM K "str" (fun x xs H Q => ∃ (a : Str) (i : Int), x = .str a ∧ xs = [.int i] ∧ PadOk i = true ∧ Q (.str (Txt.zfill a i)) H) te t) σ H (.str (Txt.zfill s i)) :=
  ev_bmS h ha fun H1 _ _ q => ⟨s, i, rfl, rfl, hi, q H1 (Ex.refl H1)⟩
end
local macro_rules | `(tactic| walk_at "asg") => `(tactic| ((first | with_reducible apply q_asg | with_reducible apply s_asg); walk_at "ev"))
local macro_rules | `(tactic| walk_at "drop") => `(tactic| ((first | with_reducible apply q_drop | with_reducible apply s_drop); walk_at "ev"))
local macro_rules | `(tactic| walk_at "ret") => `(tactic| ((with_reducible apply s_retk); walk_at "ev"))
local macro_rules | `(tactic| walk_at "when") => `(tactic| ((first | with_reducible apply q_when | with_reducible apply s_when | with_reducible apply q_if | with_reducible apply s_if); walk_at "et"))
theorem q_forS {te : TE} {σ : L2.St} {H : Hp} {D : Ends} {tu tz : TS} {s : Str} {j : Nat} (h : Ev te σ H (.str s)) (Pv : Nat → L2.St → Hp → Prop) (h0 : ∀ H1, Ex H H1 → Pv 0 σ H1)
    (hs : ∀ i c σ' H', s.cps[i]? = some c → Pv i σ' H' → tu { D with nx := Pv (i + 1), ct := Pv (i + 1), bk := tz D } (σ'.set j (some (.str ⟨#[c]⟩))) H') (hd : ∀ σ' H', Pv s.cps.size σ' H' → tz D σ' H') : tSeq (tFor (iStr te) (gName j) tu) tz D σ H :=
  h H (Ex.refl H) _ fun H1 e => ⟨s, rfl, for_it walk_str Pv (h0 H1 e) (fun _ _ _ _ _ => trivial) (fun i x σ' H' H'' hi p y => by
    obtain ⟨rfl, c, hc, rfl⟩ := y
    exact hs i c σ' H'' hc p) hd⟩
def spLaw (K : PySem.W.Frag) : Sp := fun vs H Q _ => ∃ (a : Addr) (ns : List Int), vs = [.ref a] ∧ SqL K H a (ns.map V.int) ∧ ns.length ≤ 63 ∧ ∀ H', Q (.bl true) H'
def top (i : Nat) : Stmt := PySem.Challenge.pw_splitrooms_k02_signs.main.body.getD i (.Pass ⟨0, 0, 0, 0⟩)
abbrev s_check_name : Stmt := top 8
abbrev n_check_name : List Str := ["name"]
theorem sc_check_name : FnScope n_check_name ["name"] (defScope s_check_name) := ⟨rfl, rfl, rfl, by decide +kernel, rfl, by decide +kernel, by decide +kernel⟩
abbrev s_mixed : Stmt := top 9
abbrev n_mixed : List Str := ["name"]
theorem sc_mixed : FnScope n_mixed ["name"] (defScope s_mixed) := ⟨rfl, rfl, rfl, by decide +kernel, rfl, by decide +kernel, by decide +kernel⟩
abbrev s_signs : Stmt := top 10
abbrev n_signs : List Str := ["name", "by_twos"]
theorem sc_signs : FnScope n_signs ["name"] (defScope s_signs) := ⟨rfl, rfl, rfl, by decide +kernel, rfl, by decide +kernel, by decide +kernel⟩
abbrev s_l_cell_at : Stmt := top 12
abbrev n_l_cell_at : List Str := ["_law_script", "_law_k"]
theorem sc_l_cell_at : FnScope n_l_cell_at ["_law_script", "_law_k"] (defScope s_l_cell_at) := ⟨rfl, rfl, rfl, by decide +kernel, rfl, by decide +kernel, by decide +kernel⟩
abbrev s_l_worth : Stmt := top 13
abbrev n_l_worth : List Str := ["_law_text", "_law_found", "_law_sign"]
theorem sc_l_worth : FnScope n_l_worth ["_law_text"] (defScope s_l_worth) := ⟨rfl, rfl, rfl, by decide +kernel, rfl, by decide +kernel, by decide +kernel⟩
abbrev s_law : Stmt := top 14
abbrev n_law : List Str := ["_law_script", "_law_one", "_law_other"]
theorem sc_law : FnScope n_law ["_law_script"] (defScope s_law) := ⟨rfl, rfl, rfl, by decide +kernel, rfl, by decide +kernel, by decide +kernel⟩
structure Top (K : PySem.W.Frag) (mg : Str → Option Value) where
  a_RoomError : Addr
  g_RoomError : mg "RoomError" = some (.ref a_RoomError)
  a_BadName : Addr
  g_BadName : mg "BadName" = some (.ref a_BadName)
  c_SIGNS : {t : Tok // mg "SIGNS" = some (.int 8 t)}
  c_NAMES : {t : Tok // mg "NAMES" = some (.int 256 t)}
  c_FACTOR : {t : Tok // mg "FACTOR" = some (.int 171 t)}
  c_SHIFT : {t : Tok // mg "SHIFT" = some (.int 37 t)}
  a_check_name : Addr
  fd_check_name : FuncData
  F_check_name : Fun K "check_name" "check_name" s_check_name a_check_name fd_check_name
  g_check_name : mg "check_name" = some (.ref a_check_name)
  b_check_name : Binds K fd_check_name ["name"] []
  a_mixed : Addr
  fd_mixed : FuncData
  F_mixed : Fun K "mixed" "mixed" s_mixed a_mixed fd_mixed
  g_mixed : mg "mixed" = some (.ref a_mixed)
  b_mixed : Binds K fd_mixed ["name"] []
  a_signs : Addr
  fd_signs : FuncData
  F_signs : Fun K "signs" "signs" s_signs a_signs fd_signs
  g_signs : mg "signs" = some (.ref a_signs)
  b_signs : Binds K fd_signs ["name"] []
  a_l_cell_at : Addr
  fd_l_cell_at : FuncData
  F_l_cell_at : Fun K "_law_cell_at" "_law_cell_at" s_l_cell_at a_l_cell_at fd_l_cell_at
  g_l_cell_at : mg "_law_cell_at" = some (.ref a_l_cell_at)
  b_l_cell_at : Binds K fd_l_cell_at ["_law_script", "_law_k"] []
  a_l_worth : Addr
  fd_l_worth : FuncData
  F_l_worth : Fun K "_law_worth" "_law_worth" s_l_worth a_l_worth fd_l_worth
  g_l_worth : mg "_law_worth" = some (.ref a_l_worth)
  b_l_worth : Binds K fd_l_worth ["_law_text"] []
  a_law : Addr
  fd_law : FuncData
  F_law : Fun K "law" "law" s_law a_law fd_law
  g_law : mg "law" = some (.ref a_law)
  b_law : Binds K fd_law ["_law_script"] []
  z_ValueError : mg "ValueError" = none
  z_bool : mg "bool" = none
  z_int : mg "int" = none
  z_isinstance : mg "isinstance" = none
  z_len : mg "len" = none
  z_str : mg "str" = none
  z_type : mg "type" = none
section
variable {P : Program} {w : World} {K : PySem.W.Frag} {mg : Str → Option Value} {base : Heap}
def spCheck : Sp := fun vs H Q _ => ∃ n : Nat, vs = [.int (n : Int)] ∧ n < 256 ∧ RetV .non H Q
theorem ok_check_name (T : Top K mg) : FnOk P w K mg base CX0 1 T.a_check_name T.fd_check_name ["name"] spCheck := by
  refine T.F_check_name.ok sc_check_name (fun vs H Q E h => ?_) (fun cdv A outer s H vs Q E hr h => ?_)
  · obtain ⟨n, rfl, _⟩ := h
    rfl
  · obtain ⟨n, rfl, hn, k⟩ := h
    refine ⟨_, (pss_one (ps_if (PW.pt (pw_or (pt_cmpR op_notTyB (pe_callTy call_type1 (by rfl) T.z_type (by decide +kernel) (pa_cons (pv 0) pa_nil)) (pe_bltn (v := .ty "int") (by rfl) T.z_int (by decide +kernel) rfl) (nomark _)) (pw_or1 (pt_not (pt_chain op_le op_lt pe_int (pv 0) (pe_glob (v := .int 256) rfl T.c_NAMES.2 ⟨_, rfl⟩)))))) (pss_one ps_never) pss_nil)), ?_⟩
    walk_at "when"
    · intro hb
      simp at hb
      omega
    · exact fun _ => k
def spMixed : Sp := fun vs H Q _ => ∃ n : Nat, vs = [.int (n : Int)] ∧ n < 256 ∧ RetV (.int (mixN n : Nat)) H Q
theorem spv_check {n : Nat} {H : Hp} (hn : n < 256) : SpV spCheck [.int (n : Int)] H .non := fun H1 _ _ q _ => ⟨n, rfl, hn, q⟩
local macro_rules | `(tactic| walk_at "spv") => `(tactic| exact spv_check (by assumption))
theorem mix_int (n : Nat) : (171 * (n : Int) + 37) % 256 = ((mixN n : Nat) : Int) := by
  unfold mixN
  omega
theorem ok_mixed (T : Top K mg) : FnOk P w K mg base CX0 2 T.a_mixed T.fd_mixed ["name"] spMixed := by
  refine T.F_mixed.ok sc_mixed (fun vs H Q E h => ?_) (fun cdv A outer s H vs Q E hr h => ?_)
  · obtain ⟨n, rfl, _⟩ := h
    rfl
  · obtain ⟨n, rfl, hn, k⟩ := h
    refine ⟨_, (pss_cons (ps_expr (pe_call (ok_check_name T) (hr.mono (by decide)) rfl T.g_check_name T.F_check_name.kp T.b_check_name .nil pass0 (pa_cons (pv 0) pa_nil)))
      (pss_one (ps_ret (pe_op op_mod (pe_op op_add (pe_op op_mul (pe_glob (v := .int 171) rfl T.c_FACTOR.2 ⟨_, rfl⟩) (pv 0)) (pe_glob (v := .int 37) rfl T.c_SHIFT.2 ⟨_, rfl⟩)) (pe_glob (v := .int 256) rfl T.c_NAMES.2 ⟨_, rfl⟩))))), ?_⟩
    walk_at "drop"
    intro H1 e1
    walk_at "ret"
    have k1 := RetV.mono e1 k
    rw [← mix_int] at k1
    exact k1
theorem spv_mixed {n : Nat} {H : Hp} (hn : n < 256) : SpV spMixed [.int (n : Int)] H (.int (mixN n : Nat)) := fun H1 _ _ q _ => ⟨n, rfl, hn, q⟩
local macro_rules | `(tactic| walk_at "spv") => `(tactic| exact spv_mixed (by assumption))
local macro_rules | `(tactic| walk_at "ev") => `(tactic| ((with_reducible apply ev_fmtB); walk_at "ev"; exact mixN_lt _))
local macro_rules | `(tactic| walk_at "ev") => `(tactic| ((with_reducible apply ev_zfill); walk_at "ev"; walk_at "ea"; decide +kernel))
/-- the signs of a name -/
def sgN (n : Nat) : Str := sg8 (mixN n)
def spSigns : Sp := fun vs H Q _ => ∃ n : Nat, vs = [.int (n : Int)] ∧ n < 256 ∧ RetV (.str (sgN n)) H Q
theorem ok_signs (T : Top K mg) : FnOk P w K mg base CX0 3 T.a_signs T.fd_signs ["name"] spSigns := by
  refine T.F_signs.ok sc_signs (fun vs H Q E h => ?_) (fun cdv A outer s H vs Q E hr h => ?_)
  · obtain ⟨n, rfl, _⟩ := h
    rfl
  · obtain ⟨n, rfl, hn, k⟩ := h
    refine ⟨_, (pss_cons (ps_set (i := 1) sc_signs.nd rfl (Or.inl rfl) (pe_joined1 (pe_fmtB (pe_call (ok_mixed T) (hr.mono (by decide)) rfl T.g_mixed T.F_mixed.kp T.b_mixed .nil pass0 (pa_cons (pv 0) pa_nil)))))
      (pss_one (ps_ret (pe_bm PySem.F.plainAttrs_str PySem.F.slot_str_zfill PySem.F.type_str_zfill mt_zfill (pv 1) (pa_cons (pe_glob (v := .int 8) rfl T.c_SIGNS.2 ⟨_, rfl⟩) pa_nil))))), ?_⟩
    walk_at "asg"
    intro H1 e1
    walk_at "ret"
    rw [zf8 _ (mixN_lt n)]
    exact RetV.mono e1 k
theorem spv_signs {n : Nat} {H : Hp} (hn : n < 256) : SpV spSigns [.int (n : Int)] H (.str (sgN n)) := fun H1 _ _ q _ => ⟨n, rfl, hn, q⟩
local macro_rules | `(tactic| walk_at "spv") => `(tactic| exact spv_signs (by assumption))
/-! ### the law's own -/
def cellN (ns : List Int) (k : Nat) : Int := ns.getD k 0
def spCell (K : PySem.W.Frag) : Sp := fun vs H Q _ => ∃ (a : Addr) (ns : List Int) (k : Nat), vs = [.ref a, .int (k : Int)] ∧ SqL K H a (ns.map V.int) ∧ RetV (.int (cellN ns k)) H Q
theorem ok_l_cell_at (T : Top K mg) : FnOk P w K mg base CX0 1 T.a_l_cell_at T.fd_l_cell_at ["_law_script", "_law_k"] (spCell K) := by
  refine T.F_l_cell_at.ok sc_l_cell_at (fun vs H Q E h => ?_) (fun cdv A outer s H vs Q E hr h => ?_)
  · obtain ⟨a, ns, k, rfl, _⟩ := h
    rfl
  · obtain ⟨a, ns, i, rfl, hS, k⟩ := h
    refine ⟨_, (pss_cons (ps_if (pt_cmpR op_lt (pv 1) (pe_callB call_len_seq (by rfl) T.z_len (by decide +kernel) (pa_cons (pv 0) pa_nil)) (nomark _)) (pss_one (ps_ret (pe_ix ix_list (pv 0) (pv 1) (fun _ _ => rfl)))) pss_nil)
      (pss_one (ps_ret pe_int))), ?_⟩
    walk_at "when"
    · intro hb H1 e1
      have hlt : i < ns.length := by simpa using hb
      refine s_retk (v := .int (cellN ns i)) (ev_op (by walk_at "ev") (by walk_at "ev") (rv_ixL (ex_l e1 hS) (atI_nat ?_))) (RetV.mono e1 k)
      unfold cellN
      rw [List.getElem?_map, List.getD_eq_getElem?_getD, List.getElem?_eq_getElem hlt]
      rfl
    · intro hb H1 e1
      have hlt : ns.length ≤ i := by simpa using hb
      walk_at "ret"
      have e0 : cellN ns i = 0 := by
        unfold cellN
        rw [List.getD_eq_getElem?_getD, List.getElem?_eq_none hlt]
        rfl
      rw [e0] at k
      exact RetV.mono e1 k
theorem spv_cell {a : Addr} {ns : List Int} {H : Hp} (hS : SqL K H a (ns.map V.int)) (i : Int) (hi : 0 ≤ i) : SpV (spCell K) [.ref a, .int i] H (.int (cellN ns i.toNat)) := fun H1 e _ q _ => ⟨a, ns, i.toNat, by rw [Int.toNat_of_nonneg hi], ex_l e hS, q⟩
local macro_rules | `(tactic| walk_at "spv") => `(tactic| (apply spv_cell; walk_at "seq"; decide))
theorem cell_mod (ns : List Int) (k : Nat) (m : Int) (hm : 0 < m) : ∃ n : Nat, cellN ns k % m = (n : Int) ∧ (n : Int) < m := ⟨(cellN ns k % m).toNat, (Int.toNat_of_nonneg (Int.emod_nonneg _ (by omega))).symm, by rw [Int.toNat_of_nonneg (Int.emod_nonneg _ (by omega))]; exact Int.emod_lt_of_pos _ hm⟩
theorem sg8_at (m i c : Nat) (h : (sg8 m).cps[i]? = some c) : i < 8 ∧ c = 48 + m / 2 ^ (7 - i) % 2 := by
  match i, h with
  | 0, h => exact ⟨by decide, (Option.some.inj h).symm⟩
  | 1, h => exact ⟨by decide, (Option.some.inj h).symm⟩
  | 2, h => exact ⟨by decide, (Option.some.inj h).symm⟩
  | 3, h => exact ⟨by decide, (Option.some.inj h).symm⟩
  | 4, h => exact ⟨by decide, (Option.some.inj h).symm⟩
  | 5, h => exact ⟨by decide, (Option.some.inj h).symm⟩
  | 6, h => exact ⟨by decide, (Option.some.inj h).symm⟩
  | 7, h => exact ⟨by decide, by rw [show m / 2 ^ (7 - 7) = m from Nat.div_one m]; exact (Option.some.inj h).symm⟩
  | i + 8, h => exact absurd h (by simp [sg8])
theorem half_step (m i : Nat) (hi : i < 8) : 2 * (m / 2 ^ (8 - i)) + m / 2 ^ (7 - i) % 2 = m / 2 ^ (8 - (i + 1)) := by
  have e1 : 8 - i = (7 - i) + 1 := by omega
  have e2 : 8 - (i + 1) = 7 - i := by omega
  rw [e1, e2, Nat.pow_succ, ← Nat.div_div_eq_div_mul]
  omega
theorem sg8_inj {m k : Nat} (hm : m < 256) (hk : k < 256) (h : sg8 m = sg8 k) : m = k := by
  have h2 := congrArg (fun s : Str => s.cps.toList) h
  simp only [sg8, List.cons.injEq, and_true] at h2
  omega
theorem sgN_inj {a b : Nat} (ha : a < 256) (hb : b < 256) (h : sgN a = sgN b) : a = b := by
  have e := sg8_inj (mixN_lt a) (mixN_lt b) h
  unfold mixN at e
  omega
def spWorth : Sp := fun vs H Q _ => ∃ m : Nat, vs = [.str (sg8 m)] ∧ m < 256 ∧ RetV (.int (m : Nat)) H Q
theorem ok_l_worth (T : Top K mg) : FnOk P w K mg base CX0 1 T.a_l_worth T.fd_l_worth ["_law_text"] spWorth := by
  refine T.F_l_worth.ok sc_l_worth (fun vs H Q E h => ?_) (fun cdv A outer s H vs Q E hr h => ?_)
  · obtain ⟨n, rfl, _⟩ := h
    rfl
  · obtain ⟨m, rfl, hm, k⟩ := h
    have hz : (sg8 m).length ≤ 100000 := by show 8 ≤ 100000; decide
    refine ⟨_, (pss_cons (ps_if (PW.pt (pw_or (pt_not (pt_val (pe_callB call_isi (by rfl) T.z_isinstance (by decide +kernel) (pa_cons (pv 0) (pa_cons (pe_bltn (v := .ty "str") (by rfl) T.z_str (by decide +kernel) rfl) pa_nil))))) (pw_or1 (pt_cmpR op_ne (pe_callB call_len_str (by rfl) T.z_len (by decide +kernel) (pa_cons (pv 0) pa_nil)) pe_int (nomark _))))) (pss_one (ps_ret pe_non)) pss_nil)
      (pss_cons (ps_set (i := 1) sc_l_worth.nd rfl (Or.inl rfl) pe_int)
      (pss_cons (ps_for PassesOwn.never rfl (pi_str (pv 0)) (pg_name (i := 2) sc_l_worth.nd rfl (Or.inl rfl)) (pss_cons (ps_if (PW.pt (pw_and (pt_cmpR op_ne (pv 2) pe_str (nomark _)) (pw_and1 (pt_cmpR op_ne (pv 2) pe_str (nomark _))))) (pss_one (ps_ret pe_non)) pss_nil)
      (pss_one (ps_set (i := 1) sc_l_worth.nd rfl (Or.inl rfl) (pe_op op_add (pe_op op_mul pe_int (pv 1)) (pe_callTy call_int1 (by rfl) T.z_int (by decide +kernel) (pa_cons (pe_cmpR op_eq (pv 2) pe_str (nomark _)) pa_nil)))))))
      (pss_one (ps_ret (pv 1)))))), ?_⟩
    walk_at "when"
    · intro hb
      exfalso
      revert hb
      show ¬ (!true || !decide (V.int (((8 : Nat) : Int)) = V.int 8)) = true
      decide
    intro hb H1 e1
    walk_at "asg"
    intro H2 e2
    refine q_forS (s := sg8 m) (by walk_at "ev") (fun i σ H' => Ex H H' ∧ ∃ v, σ = [some (.str (sg8 m)), some (.int ((m / 2 ^ (8 - i) : Nat) : Int)), v]) ?_ ?_ ?_
    · intro H3 e3
      refine ⟨(e1.trans e2).trans e3, none, ?_⟩
      rw [Nat.div_eq_of_lt hm]
      rfl
    · rintro i c σ' H' hc ⟨e3, v, rfl⟩
      obtain ⟨hi, hc2⟩ := sg8_at m i c hc
      walk_at "when"
      · intro hb
        exfalso
        have h01 : m / 2 ^ (7 - i) % 2 = 0 ∨ m / 2 ^ (7 - i) % 2 = 1 := by omega
        rcases h01 with h | h <;> rw [h] at hc2 <;> subst hc2 <;> revert hb <;> decide +kernel
      intro _ H4 e4
      walk_at "asg"
      intro H5 e5
      refine ⟨(e3.trans e4).trans e5, some (.str ⟨#[c]⟩), ?_⟩
      have es : (2 * ((m / 2 ^ (8 - i) : Nat) : Int) + (if decide (V.str ⟨#[c]⟩ = V.str "1") = true then 1 else 0)) = ((m / 2 ^ (8 - (i + 1)) : Nat) : Int) := by
        rw [← half_step m i hi]
        have h01 : m / 2 ^ (7 - i) % 2 = 0 ∨ m / 2 ^ (7 - i) % 2 = 1 := by omega
        rcases h01 with h | h
        · rw [h] at hc2 ⊢
          subst hc2
          rw [show decide (V.str ⟨#[48 + 0]⟩ = V.str "1") = false by decide +kernel, if_neg Bool.false_ne_true]
          omega
        · rw [h] at hc2 ⊢
          subst hc2
          rw [show decide (V.str ⟨#[48 + 1]⟩ = V.str "1") = true by decide +kernel, if_pos rfl]
          omega
      rw [← es]
      rfl
    · rintro σ' H' ⟨e3, v, rfl⟩
      walk_at "ret"
      have e8 : m / 2 ^ (8 - (sg8 m).cps.size) = m := Nat.div_one m
      rw [e8]
      exact RetV.mono e3 k
theorem spv_worth {m : Nat} {H : Hp} (hm : m < 256) : SpV spWorth [.str (sg8 m)] H (.int (m : Nat)) := fun H1 _ _ q _ => ⟨m, rfl, hm, q⟩
local macro_rules | `(tactic| walk_at "spv") => `(tactic| exact spv_worth (mixN_lt _))
theorem ok_law (T : Top K mg) : FnOk P w K mg base CX0 4 T.a_law T.fd_law ["_law_script"] (spLaw K) := by
  refine T.F_law.ok sc_law (fun vs H Q E h => ?_) (fun cdv A outer s H vs Q E hr h => ?_)
  · obtain ⟨a, ns, rfl, _⟩ := h
    rfl
  · obtain ⟨a, ns, rfl, hS, hl, k⟩ := h
    refine ⟨_, (pss_cons (ps_set (i := 1) sc_law.nd rfl (Or.inl rfl) (pe_op op_mod (pe_call (ok_l_cell_at T) (hr.mono (by decide)) rfl T.g_l_cell_at T.F_l_cell_at.kp T.b_l_cell_at .nil pass0 (pa_cons (pv 0) (pa_cons pe_int pa_nil))) pe_int))
      (pss_cons (ps_set (i := 2) sc_law.nd rfl (Or.inl rfl) (pe_op op_mod (pe_call (ok_l_cell_at T) (hr.mono (by decide)) rfl T.g_l_cell_at T.F_l_cell_at.kp T.b_l_cell_at .nil pass0 (pa_cons (pv 0) (pa_cons pe_int pa_nil))) pe_int))
      (pss_cons (ps_if (pt_cmpR op_eq (pe_op op_mod (pe_call (ok_l_cell_at T) (hr.mono (by decide)) rfl T.g_l_cell_at T.F_l_cell_at.kp T.b_l_cell_at .nil pass0 (pa_cons (pv 0) (pa_cons pe_int pa_nil))) pe_int) pe_int (nomark _)) (pss_one (ps_set (i := 2) sc_law.nd rfl (Or.inl rfl) (pv 1))) pss_nil)
      (pss_cons (ps_if (PW.pt (pw_or (pt_cmpR op_ne (pe_glob (v := .int 8) rfl T.c_SIGNS.2 ⟨_, rfl⟩) pe_int (nomark _)) (pw_or1 (pt_val (pe_callB call_isi (by rfl) T.z_isinstance (by decide +kernel) (pa_cons (pe_glob (v := .int 8) rfl T.c_SIGNS.2 ⟨_, rfl⟩) (pa_cons (pe_bltn (v := .ty "bool") (by rfl) T.z_bool (by decide +kernel) rfl) pa_nil))))))) (pss_one (ps_ret pe_bl)) pss_nil)
      (pss_cons (ps_if (PW.pt (pw_or (pt_cmpR op_ne (pe_call (ok_l_worth T) (hr.mono (by decide)) rfl T.g_l_worth T.F_l_worth.kp T.b_l_worth .nil pass0 (pa_cons (pe_call (ok_signs T) (hr.mono (by decide)) rfl T.g_signs T.F_signs.kp T.b_signs .nil pass0 (pa_cons (pv 1) pa_nil)) pa_nil)) (pe_op op_mod (pe_op op_add (pe_op op_mul pe_int (pv 1)) pe_int) pe_int) (nomark _)) (pw_or1 (pt_cmpR op_ne (pe_call (ok_l_worth T) (hr.mono (by decide)) rfl T.g_l_worth T.F_l_worth.kp T.b_l_worth .nil pass0 (pa_cons (pe_call (ok_signs T) (hr.mono (by decide)) rfl T.g_signs T.F_signs.kp T.b_signs .nil pass0 (pa_cons (pv 2) pa_nil)) pa_nil)) (pe_op op_mod (pe_op op_add (pe_op op_mul pe_int (pv 2)) pe_int) pe_int) (nomark _))))) (pss_one (ps_ret pe_bl)) pss_nil)
      (pss_one (ps_ret (pe_cmpR op_eq (pe_cmpR op_eq (pe_call (ok_signs T) (hr.mono (by decide)) rfl T.g_signs T.F_signs.kp T.b_signs .nil pass0 (pa_cons (pv 1) pa_nil)) (pe_call (ok_signs T) (hr.mono (by decide)) rfl T.g_signs T.F_signs.kp T.b_signs .nil pass0 (pa_cons (pv 2) pa_nil)) (nomark _)) (pe_cmpR op_eq (pv 1) (pv 2) (nomark _)) (nomark _))))))))), ?_⟩
    walk_at "asg"
    intro H1 e1
    have hS1 := ex_l e1 hS
    walk_at "asg"
    intro H2 e2
    have hS2 := ex_l e2 hS1
    obtain ⟨n1, h1, l1⟩ : ∃ n : Nat, cellN ns (0 : Int).toNat % 256 = (n : Int) ∧ (n : Int) < 256 := cell_mod ns _ 256 (by decide)
    obtain ⟨n2, h2, l2⟩ : ∃ n : Nat, cellN ns (1 : Int).toNat % 256 = (n : Int) ∧ (n : Int) < 256 := cell_mod ns _ 256 (by decide)
    rw [h1, h2]
    have l1' : n1 < 256 := by omega
    refine' q_ifAsg (v := .int ((if cellN ns (2 : Int).toNat % 4 = 1 then n1 else n2 : Nat) : Int)) ?h ?h1 ?h2 ?k
    case h => walk_at "et"
    case h1 =>
      intro hb
      rw [if_pos (by simpa [decide_int] using hb)]
      walk_at "ev"
    case h2 =>
      intro hb
      rw [if_neg (by simpa [decide_int] using hb)]
      rfl
    have hm : (if cellN ns (2 : Int).toNat % 4 = 1 then n1 else n2) < 256 := by split <;> omega
    generalize (if cellN ns (2 : Int).toNat % 4 = 1 then n1 else n2) = m at hm
    intro H3 e3
    walk_at "when"
    · intro hb
      exact absurd hb (by decide)
    intro _ H4 e4
    walk_at "when"
    · intro hb
      simp [decide_int, mix_int] at hb
    intro _ H5 e5
    walk_at "ret"
    have e0 : decide (V.bl (decide (V.str (sgN n1) = V.str (sgN m))) = V.bl (decide (V.int (n1 : Int) = V.int (m : Int)))) = true := by
      by_cases h : n1 = m
      · subst h
        simp
      · have h1 : decide (V.str (sgN n1) = V.str (sgN m)) = false := decide_eq_false fun q => h (sgN_inj l1' hm (V.str.inj q))
        have h2 : decide (V.int (n1 : Int) = V.int (m : Int)) = false := decide_eq_false fun q => h (Int.ofNat.inj (V.int.inj q))
        rw [h1, h2]
        rfl
    rw [e0]
    exact fun H' _ => k H'
end
theorem all_mk {l : PySem.W.OpenLaw} {w : World} {K : PySem.W.Frag} {h : Heap} {mg : Str → Option Value} {fa : Addr} (X : K.In h) (G : h.Ns mainGlobals mg) (hfa : mg "law" = some (.ref fa))
    {f0 : Addr} {od0 an0 : Option Addr} {sl0 : Array (Option Value)} {oc0 kV0 dc0 pm0 cd0 ct0 : Value}
    {f1 : Addr} {od1 an1 : Option Addr} {sl1 : Array (Option Value)} {oc1 kV1 dc1 pm1 cd1 ct1 : Value}
    {f2 : Addr} {od2 an2 : Option Addr} {sl2 : Array (Option Value)} {oc2 kV2 dc2 pm2 cd2 ct2 : Value}
    {f3 : Addr} {od3 an3 : Option Addr} {sl3 : Array (Option Value)} {oc3 kV3 dc3 pm3 cd3 ct3 : Value}
    {f4 : Addr} {od4 an4 : Option Addr} {sl4 : Array (Option Value)} {oc4 kV4 dc4 pm4 cd4 ct4 : Value}
    {f5 : Addr} {od5 an5 : Option Addr} {sl5 : Array (Option Value)} {oc5 kV5 dc5 pm5 cd5 ct5 : Value}
    {C0 : Addr}
    {C1 : Addr}
    {t0 : Tok}
    {t1 : Tok}
    {t2 : Tok}
    {t3 : Tok}
    (a0 : PySem.W.nsIn K mainGlobals "check_name" = some (some (.ref f0)))
    (l0 : K.lookup f0 = some ⟨oc0, od0, .func (PySem.W.fnOf "check_name" "check_name" (defArgs s_check_name) (defBody s_check_name) (defScope s_check_name) .none kV0 dc0 pm0 an0 cd0 ct0), sl0⟩)
    (c0 : PySem.W.codeIn K cd0 "check_name" = true) (k0 : PySem.W.keepIn K (.ref f0) = true)
    (a1 : PySem.W.nsIn K mainGlobals "mixed" = some (some (.ref f1)))
    (l1 : K.lookup f1 = some ⟨oc1, od1, .func (PySem.W.fnOf "mixed" "mixed" (defArgs s_mixed) (defBody s_mixed) (defScope s_mixed) .none kV1 dc1 pm1 an1 cd1 ct1), sl1⟩)
    (c1 : PySem.W.codeIn K cd1 "mixed" = true) (k1 : PySem.W.keepIn K (.ref f1) = true)
    (a2 : PySem.W.nsIn K mainGlobals "signs" = some (some (.ref f2)))
    (l2 : K.lookup f2 = some ⟨oc2, od2, .func (PySem.W.fnOf "signs" "signs" (defArgs s_signs) (defBody s_signs) (defScope s_signs) .none kV2 dc2 pm2 an2 cd2 ct2), sl2⟩)
    (c2 : PySem.W.codeIn K cd2 "signs" = true) (k2 : PySem.W.keepIn K (.ref f2) = true)
    (a3 : PySem.W.nsIn K mainGlobals "_law_cell_at" = some (some (.ref f3)))
    (l3 : K.lookup f3 = some ⟨oc3, od3, .func (PySem.W.fnOf "_law_cell_at" "_law_cell_at" (defArgs s_l_cell_at) (defBody s_l_cell_at) (defScope s_l_cell_at) .none kV3 dc3 pm3 an3 cd3 ct3), sl3⟩)
    (c3 : PySem.W.codeIn K cd3 "_law_cell_at" = true) (k3 : PySem.W.keepIn K (.ref f3) = true)
    (a4 : PySem.W.nsIn K mainGlobals "_law_worth" = some (some (.ref f4)))
    (l4 : K.lookup f4 = some ⟨oc4, od4, .func (PySem.W.fnOf "_law_worth" "_law_worth" (defArgs s_l_worth) (defBody s_l_worth) (defScope s_l_worth) .none kV4 dc4 pm4 an4 cd4 ct4), sl4⟩)
    (c4 : PySem.W.codeIn K cd4 "_law_worth" = true) (k4 : PySem.W.keepIn K (.ref f4) = true)
    (a5 : PySem.W.nsIn K mainGlobals "law" = some (some (.ref f5)))
    (l5 : K.lookup f5 = some ⟨oc5, od5, .func (PySem.W.fnOf "law" "law" (defArgs s_law) (defBody s_law) (defScope s_law) .none kV5 dc5 pm5 an5 cd5 ct5), sl5⟩)
    (c5 : PySem.W.codeIn K cd5 "law" = true) (k5 : PySem.W.keepIn K (.ref f5) = true)
    (q0 : PySem.W.nsIn K mainGlobals "RoomError" = some (some (.ref C0)))
    (q1 : PySem.W.nsIn K mainGlobals "BadName" = some (some (.ref C1)))
    (e0 : PySem.W.nsIn K mainGlobals "SIGNS" = some (some (.int 8 t0)))
    (e1 : PySem.W.nsIn K mainGlobals "NAMES" = some (some (.int 256 t1)))
    (e2 : PySem.W.nsIn K mainGlobals "FACTOR" = some (some (.int 171 t2)))
    (e3 : PySem.W.nsIn K mainGlobals "SHIFT" = some (some (.int 37 t3)))
    (z0 : PySem.W.nsIn K mainGlobals "ValueError" = some none)
    (z1 : PySem.W.nsIn K mainGlobals "bool" = some none)
    (z2 : PySem.W.nsIn K mainGlobals "int" = some none)
    (z3 : PySem.W.nsIn K mainGlobals "isinstance" = some none)
    (z4 : PySem.W.nsIn K mainGlobals "len" = some none)
    (z5 : PySem.W.nsIn K mainGlobals "str" = some none)
    (z6 : PySem.W.nsIn K mainGlobals "type" = some none) :
    ∃ fd : FuncData, (∀ (s : Shared) (v : Value), BindsTo s fd ⟨[v], []⟩ [("_law_script", v)]) ∧ ∀ base : Heap, K.In base → base.Ns mainGlobals mg → FnOk l.prog w K mg base CX0 4 fa fd ["_law_script"] (spLaw K) := by
  have e := hfa.symm.trans (PySem.W.mg_of X G a5)
  cases e
  let T : Top K mg := { a_check_name := f0, fd_check_name := _, F_check_name := fun_mk (st := s_check_name) l0 c0 k0, g_check_name := PySem.W.mg_of X G a0, b_check_name := (fun_mk (st := s_check_name) l0 c0 k0).binds (ps := ["name"]) fun _ _ _ _ _ _ us hl => (match us, hl with | [_], _ => rfl), a_mixed := f1, fd_mixed := _, F_mixed := fun_mk (st := s_mixed) l1 c1 k1, g_mixed := PySem.W.mg_of X G a1, b_mixed := (fun_mk (st := s_mixed) l1 c1 k1).binds (ps := ["name"]) fun _ _ _ _ _ _ us hl => (match us, hl with | [_], _ => rfl), a_signs := f2, fd_signs := _, F_signs := fun_mk (st := s_signs) l2 c2 k2, g_signs := PySem.W.mg_of X G a2, b_signs := (fun_mk (st := s_signs) l2 c2 k2).binds (ps := ["name"]) fun _ _ _ _ _ _ us hl => (match us, hl with | [_], _ => rfl), a_l_cell_at := f3, fd_l_cell_at := _, F_l_cell_at := fun_mk (st := s_l_cell_at) l3 c3 k3, g_l_cell_at := PySem.W.mg_of X G a3, b_l_cell_at := (fun_mk (st := s_l_cell_at) l3 c3 k3).binds (ps := ["_law_script", "_law_k"]) fun _ _ _ _ _ _ us hl => (match us, hl with | [_, _], _ => rfl), a_l_worth := f4, fd_l_worth := _, F_l_worth := fun_mk (st := s_l_worth) l4 c4 k4, g_l_worth := PySem.W.mg_of X G a4, b_l_worth := (fun_mk (st := s_l_worth) l4 c4 k4).binds (ps := ["_law_text"]) fun _ _ _ _ _ _ us hl => (match us, hl with | [_], _ => rfl), a_law := fa, fd_law := _, F_law := fun_mk (st := s_law) l5 c5 k5, g_law := PySem.W.mg_of X G a5, b_law := (fun_mk (st := s_law) l5 c5 k5).binds (ps := ["_law_script"]) fun _ _ _ _ _ _ us hl => (match us, hl with | [_], _ => rfl), a_RoomError := C0, g_RoomError := PySem.W.mg_of X G q0, a_BadName := C1, g_BadName := PySem.W.mg_of X G q1, c_SIGNS := ⟨t0, PySem.W.mg_of X G e0⟩, c_NAMES := ⟨t1, PySem.W.mg_of X G e1⟩, c_FACTOR := ⟨t2, PySem.W.mg_of X G e2⟩, c_SHIFT := ⟨t3, PySem.W.mg_of X G e3⟩, z_ValueError := PySem.W.mg_none_of X G z0, z_bool := PySem.W.mg_none_of X G z1, z_int := PySem.W.mg_none_of X G z2, z_isinstance := PySem.W.mg_none_of X G z3, z_len := PySem.W.mg_none_of X G z4, z_str := PySem.W.mg_none_of X G z5, z_type := PySem.W.mg_none_of X G z6 }
  exact ⟨_, fun s v => .of_eq rfl, fun base _ _ => ok_law (P := l.prog) (w := w) (base := base) T⟩
theorem walk {l : PySem.W.OpenLaw} {q : Program} {loose : List Str} {XP : (Str → Option Value) → Heap → Prop} {YP : World → Heap → Prop} {d : DefRec} {K : Params → PySem.W.Frag} (hn : l.most = some 63) (hdf : d.params.defaults = [])
    (hY : ∀ (w : World) (h : Heap), YP w h → (K w.params).In h)
    (F : ∀ (w : World) (mg : Str → Option Value) (fa : Addr) (h : Heap), (K w.params).In h → h.Ns mainGlobals mg → mg d.name = some (.ref fa) →
      ∃ fd : FuncData, (∀ (s : Shared) (u : Value), BindsTo s fd ⟨[u], []⟩ [("_law_script", u)]) ∧ ∀ base : Heap, (K w.params).In base → base.Ns mainGlobals mg → FnOk l.prog w (K w.params) mg base CX0 4 fa fd ["_law_script"] (spLaw (K w.params))) :
    PySem.W.WalkO q loose XP YP l.row.toRowW d [] (fun f vs => PySem.call f vs) :=
  L2.walk_of (n := 63) (k := 4) (x := "_law_script") (CX := fun _ => CX0) (sp := fun w => spLaw (K w.params)) hn (by decide) hdf ⟨rfl, by decide, by decide⟩ hY F (fun _ _ a ns hl _ hS => ⟨a, ns, rfl, hS, hl, fun _ => rfl⟩) fun _ _ _ _ _ z => z
end Vf
open PySem PySem.W PyProof.Rows
set_option maxRecDepth 100000 in
set_option maxHeartbeats 0 in
theorem PySem.Challenge.cw_splitrooms_k02_signs_holds : PySem.Challenge.rw_splitrooms_k02_signs.Holds := by
  w_on; o_law; k_head; (case hw => w_witness2)
  k_fill
  refine Vf.walk (l := PySem.Challenge.rw_splitrooms_k02_signs) rfl rfl (fun w h Y => PySem.W.kIn_of Y) ?F
  case F =>
    intro w mg fa h KX G hmg
    refine' Vf.all_mk KX G hmg ?a0 ?l0 ?c0 ?k0 ?a1 ?l1 ?c1 ?k1 ?a2 ?l2 ?c2 ?k2 ?a3 ?l3 ?c3 ?k3 ?a4 ?l4 ?c4 ?k4 ?a5 ?l5 ?c5 ?k5 ?q0 ?q1 ?e0 ?e1 ?e2 ?e3 ?z0 ?z1 ?z2 ?z3 ?z4 ?z5 ?z6
    (case a0 => k_is)
    (case l0 => k_is)
    (case c0 => k_is)
    (case k0 => k_is)
    (case a1 => k_is)
    (case l1 => k_is)
    (case c1 => k_is)
    (case k1 => k_is)
    (case a2 => k_is)
    (case l2 => k_is)
    (case c2 => k_is)
    (case k2 => k_is)
    (case a3 => k_is)
    (case l3 => k_is)
    (case c3 => k_is)
    (case k3 => k_is)
    (case a4 => k_is)
    (case l4 => k_is)
    (case c4 => k_is)
    (case k4 => k_is)
    (case a5 => k_is)
    (case l5 => k_is)
    (case c5 => k_is)
    (case k5 => k_is)
    (case q0 => k_is)
    (case q1 => k_is)
    (case e0 => k_is)
    (case e1 => k_is)
    (case e2 => k_is)
    (case e3 => k_is)
    (case z0 => k_is)
    (case z1 => k_is)
    (case z2 => k_is)
    (case z3 => k_is)
    (case z4 => k_is)
    (case z5 => k_is)
    (case z6 => k_is)
