import PyProof.Rows.All
import Wide.All
import OpenK.AllK
import Wide.FinOn
import HandS.ForMost
import HandS.IsInst
import HandS.Walk
import HandS.Evl
import HandS.Codes
import HandS.Steps
import HandS.FStr
import HandS.RaiseMore
import HandS.ListItems
import HandS.ForExc
import HandS.TryMany
import HandS.ExcIs
import HandS.Style
import PySem.Challenge.RW_tollguess_k02_net_deed_by_deed
set_option Elab.async false
set_option maxRecDepth 100000
set_option maxHeartbeats 4000000
namespace Toll
open PySem L2
def DefOk (P : Program) (w : World) (K : PySem.W.Frag) (mg : Str → Option Value) (base : Heap) (CX : CXT) (k : Nat) (f : Addr) (ps : List Str) (sp : Sp) : Prop :=
  ∃ fd : FuncData, FnOk P w K mg base CX k f fd ps sp ∧ Binds K fd ps [] ∧ PySem.W.keepIn K (.ref f) = true
/-- an own error class over ValueError, without an __init__ -/
structure ErrC (K : PySem.W.Frag) (mg : Str → Option Value) (n : Str) (C : Addr) : Prop where
  g : mg n = some (.ref C)
  x : PySem.W.excIn K C [.type "ValueError", .type "Exception", .type "BaseException", .type "object"] "ValueError.__new__" = true
  k : PySem.W.keepIn K (.ref C) = true
  b : PySem.W.subIn K (.ref C) (.type "BaseException") = some true
  t : PySem.W.typeIn K (.ref C) = some (.type "type")
  h : PySem.W.hasDictIn K C = true
  i : PySem.W.isClsIn K C = true
theorem same_new {H H' : Hp} {p : Addr} {o : HO} (s : Same H H') (h : H p = none) : Same H (upd H' p o) := fun b u e => by
  rw [upd_ne (ne_of_none e h)]
  exact s b u e
theorem same_up {H : Hp} {p : Addr} {o : HO} (h : H p = none) : Same H (upd H p o) := same_new (Same.refl H) h
/-! ### the script's cells -/
def cellAt (ns : List Int) (k : Int) : Int := if k < (ns.length : Int) then ns.getD k.toNat 0 else 0
theorem map_int_get {ns : List Int} {i : Nat} (h : i < ns.length) : (ns.map V.int)[i]? = some (V.int (ns.getD i 0)) := by
  rw [List.getElem?_map, List.getElem?_eq_getElem h, List.getD_eq_getElem?_getD, List.getElem?_eq_getElem h]
  rfl
def mixCell (ns : List Int) (k : Int) : Int := if 0 < ns.length then ns.getD (k % (ns.length : Int)).toNat 0 else 0
@[irreducible] def mixed (ns : List Int) (k : Int) : Int :=
  let m := (mixCell ns k + 7919 * k) * 48271 % 2147483647
  (m * m + 16807 * m) % 2147483629
theorem mixed_def (ns : List Int) (k : Int) : mixed ns k = ((mixCell ns k + 7919 * k) * 48271 % 2147483647 * ((mixCell ns k + 7919 * k) * 48271 % 2147483647) + 16807 * ((mixCell ns k + 7919 * k) * 48271 % 2147483647)) % 2147483629 := by unfold mixed; rfl
theorem mixed_pos (ns : List Int) (k : Int) : 0 ≤ mixed ns k ∧ mixed ns k < 2147483629 :=
  by rw [mixed_def]; exact ⟨Int.emod_nonneg _ (by decide), Int.emod_lt_of_pos _ (by decide)⟩
/-! ### texts -/
def sx (cs : List Nat) : Str := ⟨cs.toArray⟩
theorem sx_len (cs : List Nat) : (sx cs).length = cs.length := by
  show cs.toArray.size = _
  simp
theorem sx_tl (cs : List Nat) : (sx cs).cps.toList = cs := by simp [sx]
theorem sx_inj {a b : List Nat} (h : sx a = sx b) : a = b := by
  have := congrArg (fun x : Str => x.cps.toList) h
  simpa [sx_tl] using this
theorem sx_app (a b : List Nat) : sx a ++ sx b = sx (a ++ b) := by
  show (⟨a.toArray ++ b.toArray⟩ : Str) = ⟨(a ++ b).toArray⟩
  simp
theorem sx_of (z : Str) : sx z.cps.toList = z := by
  cases z; simp [sx]
theorem joinL_len : ∀ l : List (List Nat), (TL.joinL [] l).length = (l.map List.length).sum
  | [] => rfl
  | [p] => by simp [TL.joinL]
  | p :: q :: r => by
    have ih := joinL_len (q :: r)
    rw [TL.joinL, List.length_append, List.length_append, ih]
    simp
theorem joinL_ones : ∀ cs : List Nat, TL.joinL [] (cs.map fun c => [c]) = cs
  | [] => rfl
  | [p] => rfl
  | p :: q :: r => by
    have ih := joinL_ones (q :: r)
    rw [List.map_cons] at ih
    rw [List.map_cons, List.map_cons, TL.joinL, ih]
    rfl
def one (c : Nat) : Str := ⟨#[c]⟩
theorem join_ones (cs : List Nat) : PySem.Txt.join (Str.ofString "") (cs.map one) = sx cs := by
  rw [TL.join_eq]
  have h : TL.tl (Str.join (Str.ofString "") (cs.map one)) = cs := by
    rw [TL.tl_join, List.map_map]
    exact joinL_ones cs
  rw [← sx_of (Str.join (Str.ofString "") (cs.map one))]
  exact congrArg sx h
theorem sum_ones (cs : List Nat) : ((cs.map one).map (·.length)).sum = cs.length := by
  induction cs with
  | nil => rfl
  | cons c cs ih =>
    rw [List.map_cons, List.map_cons, List.sum_cons, ih]
    show 1 + _ = _
    simp; omega
theorem ix_mod (z : Str) (n : Int) {L : Nat} (hL : z.cps.toList.length = L) (h0 : 0 < L) : atI z.cps.toList (n % (L : Int)) = some (z.cps.toList.getD (n % (L : Int)).toNat 0) := by
  have h1 := Int.emod_nonneg n (b := (L : Int)) (by omega)
  have h2 := Int.emod_lt_of_pos n (b := (L : Int)) (by omega)
  have h3 : (n % (L : Int)).toNat < z.cps.toList.length := by omega
  refine Eq.trans (congrArg _ (Int.toNat_of_nonneg h1).symm) (atI_nat ?_)
  rw [List.getD_eq_getElem?_getD, List.getElem?_eq_getElem h3]
  rfl
theorem ix_le (z : Str) (n : Int) (h1 : 0 ≤ n) (h2 : n < (z.cps.toList.length : Int)) : atI z.cps.toList n = some (z.cps.toList.getD n.toNat 0) := by
  have h3 : n.toNat < z.cps.toList.length := by omega
  refine Eq.trans (congrArg _ (Int.toNat_of_nonneg h1).symm) (atI_nat ?_)
  rw [List.getD_eq_getElem?_getD, List.getElem?_eq_getElem h3]
  rfl
theorem ixN_of {n : Nat} {i : Int} {j : Nat} (e : i = (j : Int)) (h : j < n) : ixN n i = some j := by
  subst e
  unfold ixN
  rw [if_pos (by omega), if_pos (by omega), Int.toNat_natCast]
theorem log_small {i : Int} (h0 : -1000000000 ≤ i) (h1 : i ≤ 1000000000) : i.natAbs.log2 < 1920 := by
  by_cases h : i.natAbs = 0
  · rw [h]; decide
  · refine Nat.lt_of_lt_of_le ((Nat.log2_lt h).mpr (show i.natAbs < 2 ^ 30 by omega)) (by decide)
theorem seq_if {c : TT} {t1 t2 r : TS} {D : Ends} {σ : L2.St} {H : Hp} (b : Bool) (hc : Ans c σ H b) (hT : b = true → t1 { D with nx := r D } σ H) (hF : b = false → t2 { D with nx := r D } σ H) : tSeq (tIfS c t1 t2) r D σ H := by
  refine hc _ ?_
  cases b with
  | true => exact hT rfl
  | false => exact hF rfl
theorem seq_if1 {c : TT} {t1 r : TS} {D : Ends} {σ : L2.St} {H : Hp} (b : Bool) (hc : Ans c σ H b) (hT : b = true → t1 { D with nx := r D } σ H) (hF : b = false → r D σ H) : tSeq (tIfS c t1 tNext) r D σ H := by
  refine hc _ ?_
  cases b with
  | true => exact hT rfl
  | false => exact hF rfl
theorem do_if1 {c : TT} {t1 : TS} {D : Ends} {σ : L2.St} {H : Hp} (b : Bool) (hc : Ans c σ H b) (hT : b = true → t1 D σ H) (hF : b = false → D.nx σ H) : tIfS c t1 tNext D σ H := by
  refine hc _ ?_
  cases b with
  | true => exact hT rfl
  | false => exact hF rfl
theorem do_if {c : TT} {t1 t2 : TS} {D : Ends} {σ : L2.St} {H : Hp} (b : Bool) (hc : Ans c σ H b) (hT : b = true → t1 D σ H) (hF : b = false → t2 D σ H) : tIfS c t1 t2 D σ H := by
  refine hc _ ?_
  cases b with
  | true => exact hT rfl
  | false => exact hF rfl
theorem an_or {t u : TT} {σ : L2.St} {H : Hp} {a b : Bool} (h1 : Ans t σ H a) (h2 : a = false → Ans u σ H b) : Ans (tOr t u) σ H (a || b) := fun Q q => by
  refine h1 _ ?_
  cases a with
  | true => exact q
  | false => exact h2 rfl _ q
theorem an_and {t u : TT} {σ : L2.St} {H : Hp} {a b : Bool} (h1 : Ans t σ H a) (h2 : a = true → Ans u σ H b) : Ans (tAnd t u) σ H (a && b) := fun Q q => by
  refine h1 _ ?_
  cases a with
  | true => exact h2 rfl _ q
  | false => exact q
theorem dec_int {i j : Int} : decide (V.int i = V.int j) = decide (i = j) := decide_eq_decide.mpr ⟨fun h => by injection h, fun h => by rw [h]⟩
theorem dec_str {i j : Str} : decide (V.str i = V.str j) = decide (i = j) := decide_eq_decide.mpr ⟨fun h => by injection h, fun h => by rw [h]⟩
theorem dec_bl {i j : Bool} : decide (V.bl i = V.bl j) = decide (i = j) := decide_eq_decide.mpr ⟨fun h => by injection h, fun h => by rw [h]⟩
theorem or_test {t u : TT} {σ : L2.St} {H : Hp} {Q : Bool → Hp → Prop} (a b : Bool) (h1 : ∀ Q' : Bool → Hp → Prop, Q' a H → t σ H Q') (h2 : a = false → ∀ Q' : Bool → Hp → Prop, Q' b H → u σ H Q') (h : Q (a || b) H) : tOr t u σ H Q := by
  refine h1 _ ?_
  cases a with
  | true => exact h
  | false => exact h2 rfl _ h
theorem and_test {t u : TT} {σ : L2.St} {H : Hp} {Q : Bool → Hp → Prop} (a b : Bool) (h1 : ∀ Q' : Bool → Hp → Prop, Q' a H → t σ H Q') (h2 : a = true → ∀ Q' : Bool → Hp → Prop, Q' b H → u σ H Q') (h : Q (a && b) H) : tAnd t u σ H Q := by
  refine h1 _ ?_
  cases a with
  | true => exact h2 rfl _ h
  | false => exact h
theorem atI_of {α : Type} {xs : List α} {z : Int} {j : Nat} {v : α} (e : z = (j : Int)) (h : xs[j]? = some v) : atI xs z = some v := by
  rw [e]
  exact atI_nat h
theorem cut_to (xs : List V) {n : Int} (h : 0 ≤ n) : cutV xs none (some n) = xs.take n.toNat := by
  unfold cutV
  obtain ⟨k, rfl⟩ := Int.eq_ofNat_of_zero_le h
  rw [HT.sIx_nat, HT.sIx_none, Nat.sub_zero, List.drop_zero, Int.toNat_natCast, List.take_eq_take_iff]
  omega
theorem cut_from (xs : List V) {n : Int} (h : 0 ≤ n) : cutV xs (some n) none = xs.drop n.toNat := by
  unfold cutV
  obtain ⟨k, rfl⟩ := Int.eq_ofNat_of_zero_le h
  rw [HT.sIx_nat, HT.sIx_none, Int.toNat_natCast]
  by_cases hk : k ≤ xs.length
  · rw [Nat.min_eq_left hk, List.take_of_length_le (by simp)]
  · rw [Nat.min_eq_right (by omega)]
    simp
    omega
/-! ### names -/
@[irreducible] def someS : Str := "abcdefghijklmnopqrstuvwxyz0123456789"
theorem someS_def : someS = ("abcdefghijklmnopqrstuvwxyz0123456789" : Str) := by unfold someS; rfl
theorem someS_len : someS.cps.toList.length = 36 := by unfold someS; decide +kernel
@[irreducible] def sgn (i : Int) : Nat := someS.cps.toList.getD i.toNat 0
theorem sgn_def (i : Int) : sgn i = someS.cps.toList.getD i.toNat 0 := by unfold sgn; rfl
theorem ix36 (n : Int) : atI someS.cps.toList (n % 36) = some (sgn (n % 36)) := by
  rw [sgn_def]
  exact ix_mod someS n (L := 36) someS_len (by decide)
theorem ix26 (n : Int) : atI someS.cps.toList (n % 26) = some (sgn (n % 26)) := by
  rw [sgn_def]
  exact ix_le someS (n % 26) (by omega) (by have := someS_len; omega)
@[irreducible] def sg0 (b : Int) : List Nat := (List.range 8).map fun (k : Nat) => sgn ((b / 64 + 7 * (k : Int) + b / 99991 * (k : Int)) % 36)
theorem sg0_def (b : Int) : sg0 b = (List.range 8).map fun (k : Nat) => sgn ((b / 64 + 7 * (k : Int) + b / 99991 * (k : Int)) % 36) := by unfold sg0; rfl
@[irreducible] def sg (b : Int) : List Nat := (sg0 b).set 0 (sgn (b / 64 % 26))
theorem sg_def (b : Int) : sg b = (sg0 b).set 0 (sgn (b / 64 % 26)) := by unfold sg; rfl
@[irreducible] def digs (t : Int) : List Nat := TL.numL t.toNat
theorem digs_def (t : Int) : digs t = TL.numL t.toNat := by unfold digs; rfl
theorem digs_sx {t : Int} (h : 0 ≤ t) : Str.ofString (toString t) = sx (digs t) := by
  obtain ⟨n, rfl⟩ := Int.eq_ofNat_of_zero_le h
  rw [digs_def, Int.toNat_natCast]
  exact SX.num_S n
theorem digs_len {t : Int} (h1 : t ≤ 1000) : (digs t).length ≤ 4 := by
  rw [digs_def]
  exact TL.numL_len (by decide) (by omega)
def nameL (b t : Int) : List Nat :=
  if b % 3 = 0 ∧ t < 8 then (sg b).take (1 + t).toNat
  else if b % 3 < 2 ∨ 25 < t then (sg b).take (1 + b / 3 % 5).toNat ++ digs t
  else ((sg b).set (b / 24 % (1 + b / 3 % 8)).toNat (sgn ((b / 2311 + t) % (if b / 24 % (1 + b / 3 % 8) = 0 then 26 else 36)))).take (1 + b / 3 % 8).toNat
@[irreducible] def nameOf (b t : Int) : Str := sx (nameL b t)
theorem nameOf_def (b t : Int) : nameOf b t = sx (nameL b t) := by unfold nameOf; rfl
theorem sg0_len (b : Int) : (sg0 b).length = 8 := by simp [sg0_def]
theorem sg_len (b : Int) : (sg b).length = 8 := by simp [sg_def, sg0_len]
/-- the list of the signs of a text, as it stands in a list of texts -/
def onesV (cs : List Nat) : List V := (cs.map one).map V.str
theorem onesV_len (cs : List Nat) : (onesV cs).length = cs.length := by simp [onesV]
theorem onesV_take (cs : List Nat) (n : Nat) : (onesV cs).take n = onesV (cs.take n) := by simp [onesV, List.map_take]
theorem onesV_set (cs : List Nat) (n c : Nat) : (onesV cs).set n (V.str ⟨#[c]⟩) = onesV (cs.set n c) := by
  unfold onesV
  rw [List.map_set, List.map_set]
  rfl
theorem sgn_lt (i : Int) : sgn i < 128 := by
  have h : someS.cps.toList.all (fun c => decide (c < 128)) = true := by unfold someS; decide +kernel
  rw [sgn_def, List.getD_eq_getElem?_getD]
  cases e : someS.cps.toList[i.toNat]? with
  | none => decide
  | some c => exact of_decide_eq_true (List.all_eq_true.mp h c (List.mem_of_getElem? e))
theorem sg_lt (b : Int) : ∀ c ∈ sg b, c < 128 := by
  intro c hc
  rw [sg_def] at hc
  rcases List.mem_or_eq_of_mem_set hc with h | h
  · rw [sg0_def] at h
    obtain ⟨k, _, rfl⟩ := List.mem_map.mp h
    exact sgn_lt _
  · rw [h]
    exact sgn_lt _
theorem digs_lt (t : Int) : ∀ c ∈ digs t, c < 128 := by
  intro c hc
  rw [digs_def] at hc
  have := TL.numL_digits _ c hc
  omega
theorem nameL_lt (b t : Int) : ∀ c ∈ nameL b t, c < 128 := by
  intro c hc
  unfold nameL at hc
  split at hc
  · exact sg_lt b c (List.mem_of_mem_take hc)
  · split at hc
    · rcases List.mem_append.mp hc with h | h
      · exact sg_lt b c (List.mem_of_mem_take h)
      · exact digs_lt t c h
    · rcases List.mem_or_eq_of_mem_set (List.mem_of_mem_take hc) with h | h
      · exact sg_lt b c h
      · rw [h]
        exact sgn_lt _
theorem nameOf_ok (b t : Int) : PyData.strOk (nameOf b t) = true := by
  rw [nameOf_def]
  show (nameL b t).toArray.all (· < 0x110000) = true
  rw [List.all_toArray, List.all_eq_true]
  intro c hc
  exact decide_eq_true (Nat.lt_trans (nameL_lt b t c hc) (by decide))
/-! ### what a name is -/
def smallC (c : Nat) : Bool := decide (97 ≤ c) && decide (c ≤ 122)
def signC (c : Nat) : Bool := smallC c || (decide (48 ≤ c) && decide (c ≤ 57))
def isName (cs : List Nat) : Bool := decide (0 < cs.length) && decide (cs.length ≤ 8) && smallC (cs.getD 0 0) && cs.all signC
theorem mem_small {z : Str} (h : z.cps.toList = List.range' 97 26) (c : Nat) : decide (c ∈ z.cps.toList) = smallC c := by
  rw [h]
  unfold smallC
  by_cases q : 97 ≤ c ∧ c ≤ 122
  · rw [decide_eq_true (List.mem_range'_1.mpr ⟨q.1, by omega⟩), decide_eq_true q.1, decide_eq_true q.2]
    rfl
  · rw [decide_eq_false (fun m => q (by have := List.mem_range'_1.mp m; omega))]
    by_cases q1 : 97 ≤ c
    · rw [decide_eq_true q1, decide_eq_false (fun q2 => q ⟨q1, q2⟩)]
      rfl
    · rw [decide_eq_false q1]
      rfl
theorem mem_sign {z : Str} (h : z.cps.toList = List.range' 97 26 ++ List.range' 48 10) (c : Nat) : decide (c ∈ z.cps.toList) = signC c := by
  have e : (c ∈ z.cps.toList) ↔ (97 ≤ c ∧ c ≤ 122) ∨ (48 ≤ c ∧ c ≤ 57) := by
    rw [h, List.mem_append, List.mem_range'_1, List.mem_range'_1]
    omega
  have e2 : decide (c ∈ z.cps.toList) = decide ((97 ≤ c ∧ c ≤ 122) ∨ (48 ≤ c ∧ c ≤ 57)) := decide_eq_decide.mpr e
  rw [e2]
  unfold signC smallC
  by_cases q1 : 97 ≤ c <;> by_cases q2 : c ≤ 122 <;> by_cases q3 : 48 ≤ c <;> by_cases q4 : c ≤ 57 <;> simp [q1, q2, q3, q4]
theorem someS_range : someS.cps.toList = List.range' 97 26 ++ List.range' 48 10 := by unfold someS; decide +kernel
theorem sgn_small {i : Int} (h0 : 0 ≤ i) (h1 : i < 26) : smallC (sgn i) = true := by
  rw [sgn_def, someS_range, List.getD_eq_getElem?_getD, List.getElem?_append_left (by simp; omega), List.getElem?_range' (by omega)]
  unfold smallC
  simp
  omega
theorem sgn_sign (i : Int) (h0 : 0 ≤ i) (h1 : i < 36) : signC (sgn i) = true := by
  by_cases h : i < 26
  · unfold signC
    rw [sgn_small h0 h]
    rfl
  · rw [sgn_def, someS_range, List.getD_eq_getElem?_getD, List.getElem?_append_right (by simp; omega), List.length_range', List.getElem?_range' (by omega)]
    unfold signC
    simp
    omega
theorem small_sign {c : Nat} (h : smallC c = true) : signC c = true := by
  unfold signC
  rw [h]
  rfl
theorem sg_sign (b : Int) : ∀ c ∈ sg b, signC c = true := by
  intro c hc
  rw [sg_def] at hc
  rcases List.mem_or_eq_of_mem_set hc with h | h
  · rw [sg0_def] at h
    obtain ⟨k, _, rfl⟩ := List.mem_map.mp h
    exact sgn_sign _ (by omega) (by omega)
  · rw [h]
    exact small_sign (sgn_small (by omega) (by omega))
theorem sg_head (b : Int) : ∃ c cs, sg b = c :: cs ∧ smallC c = true := by
  have hl := sg0_len b
  rw [sg_def]
  cases e : sg0 b with
  | nil => rw [e] at hl; cases hl
  | cons c cs => exact ⟨_, cs, rfl, sgn_small (by omega) (by omega)⟩
theorem digs_sign (t : Int) : ∀ c ∈ digs t, signC c = true := by
  intro c hc
  rw [digs_def] at hc
  have := TL.numL_digits _ c hc
  unfold signC
  simp
  omega
theorem isName_of {c : Nat} {cs : List Nat} (h1 : smallC c = true) (h2 : ∀ x ∈ cs, signC x = true) (h3 : cs.length ≤ 7) : isName (c :: cs) = true := by
  unfold isName
  rw [decide_eq_true (show 0 < (c :: cs).length by simp), decide_eq_true (show (c :: cs).length ≤ 8 by simp; omega), show (c :: cs).getD 0 0 = c from rfl, h1, List.all_cons, small_sign h1]
  simp only [Bool.true_and]
  exact List.all_eq_true.mpr h2
theorem isName_nameL {b t : Int} (h0 : 0 ≤ t) (h1 : t ≤ 999) : isName (nameL b t) = true := by
  obtain ⟨c, cs, e, hc⟩ := sg_head b
  have hl := sg_len b
  rw [e] at hl
  have hs : ∀ x ∈ cs, signC x = true := fun x hx => sg_sign b x (by rw [e]; exact List.mem_cons_of_mem _ hx)
  have hcl : cs.length = 7 := by simpa using hl
  unfold nameL
  split
  · rename_i h
    obtain ⟨n, hn⟩ : ∃ n : Nat, (1 + t).toNat = n + 1 := ⟨t.toNat, by omega⟩
    rw [hn, e, List.take_succ_cons]
    exact isName_of hc (fun x hx => hs x (List.mem_of_mem_take hx)) (by rw [List.length_take]; omega)
  · split
    · obtain ⟨n, hn, hn4⟩ : ∃ n : Nat, (1 + b / 3 % 5).toNat = n + 1 ∧ n ≤ 4 := ⟨(b / 3 % 5).toNat, by omega, by omega⟩
      rw [hn, e, List.take_succ_cons, List.cons_append]
      refine isName_of hc (fun x hx => ?_) ?_
      · rcases List.mem_append.mp hx with h | h
        · exact hs x (List.mem_of_mem_take h)
        · exact digs_sign t x h
      · have : (digs t).length ≤ 3 := by
          rw [digs_def]
          exact TL.numL_len (by decide) (by omega)
        rw [List.length_append, List.length_take]
        omega
    · obtain ⟨n, hn, hn4⟩ : ∃ n : Nat, (1 + b / 3 % 8).toNat = n + 1 ∧ n ≤ 7 := ⟨(b / 3 % 8).toNat, by omega, by omega⟩
      have a0 := Int.emod_nonneg (b / 24) (b := 1 + b / 3 % 8) (by omega)
      rw [hn, e]
      by_cases ha : b / 24 % (1 + b / 3 % 8) = 0
      · rw [ha, if_pos rfl]
        show isName ((_ :: cs).take (n + 1)) = true
        rw [List.take_succ_cons]
        exact isName_of (sgn_small (by omega) (by omega)) (fun x hx => hs x (List.mem_of_mem_take hx)) (by rw [List.length_take]; omega)
      · rw [if_neg ha]
        obtain ⟨m, hm⟩ : ∃ m : Nat, (b / 24 % (1 + b / 3 % 8)).toNat = m + 1 := ⟨(b / 24 % (1 + b / 3 % 8)).toNat - 1, by omega⟩
        rw [hm, List.set_cons_succ, List.take_succ_cons]
        refine isName_of hc (fun x hx => ?_) (by rw [List.length_take, List.length_set]; omega)
        rcases List.mem_or_eq_of_mem_set (List.mem_of_mem_take hx) with h | h
        · exact hs x h
        · rw [h]
          exact sgn_sign _ (by omega) (by omega)
theorem isName_nameOf {b t : Int} (h0 : 0 ≤ t) (h1 : t ≤ 999) : isName (nameOf b t).cps.toList = true := by
  rw [nameOf_def, sx_tl]
  exact isName_nameL h0 h1
theorem nameOf_len {b t : Int} (h0 : 0 ≤ t) (h1 : t ≤ 999) : (nameOf b t).length ≤ 8 := by
  have h := isName_nameOf (b := b) h0 h1
  unfold isName at h
  simp only [Bool.and_eq_true, decide_eq_true_eq] at h
  exact h.1.1.2
end Toll

set_option Elab.async false
set_option maxRecDepth 100000
set_option maxHeartbeats 4000000
namespace Toll
open PySem L2
/-! ### data for == -/
def okD (k : Nat) (d : PyData) : Prop := d.canLay0 = true ∧ d.depth ≤ k
theorem okD_all {k : Nat} : ∀ {ds : List PyData}, (∀ d ∈ ds, okD k d) → PyData.canLayAll0 ds = true ∧ PyData.depthAll ds ≤ k
  | [], _ => ⟨by simp [PyData.canLayAll0], by simp [PyData.depthAll]⟩
  | d :: ds, h => by
    have ih := okD_all (ds := ds) fun x hx => h x (List.mem_cons_of_mem _ hx)
    have h1 := h d (List.mem_cons_self ..)
    refine ⟨by simp [PyData.canLayAll0, h1.1, ih.1], ?_⟩
    simp only [PyData.depthAll]
    have := h1.2
    have := ih.2
    omega
theorem okD_list {k : Nat} {ds : List PyData} (h : ∀ d ∈ ds, okD k d) : okD (k + 1) (.list ds) := by
  have := okD_all h
  refine ⟨by simp only [PyData.canLay0]; exact this.1, ?_⟩
  simp only [PyData.depth]
  omega
theorem okD_tup {k : Nat} {ds : List PyData} (h : ∀ d ∈ ds, okD k d) : okD (k + 1) (.tuple ds) := by
  have := okD_all h
  refine ⟨by simp only [PyData.canLay0]; exact this.1, ?_⟩
  simp only [PyData.depth]
  omega
theorem okD_int (i : Int) : okD 0 (.int i) := ⟨by simp [PyData.canLay0], by simp [PyData.depth]⟩
theorem okD_bool (i : Bool) : okD 0 (.bool i) := ⟨by simp [PyData.canLay0], by simp [PyData.depth]⟩
theorem okD_str {x : Str} (h : PyData.strOk x = true) : okD 0 (.str x) := ⟨by simp [PyData.canLay0, h], by simp [PyData.depth]⟩
theorem okD.shaped {k : Nat} {d : PyData} (h : okD k d) (hk : k ≤ 64) : SeqAt.shaped d = true := by
  show (d.canLay0 && decide (d.depth ≤ 64)) = true
  rw [Bool.and_eq_true]
  exact ⟨h.1, decide_eq_true (by have := h.2; omega)⟩
theorem okD.refl {k : Nat} {d : PyData} (h : okD k d) : PyData.eqv d d = true := SeqAt.eqv_refl d h.1
/-! ### lists of ints -/
def intsD (ns : List Int) : PyData := .list (ns.map PyData.int)
theorem intsD_ok (ns : List Int) : okD 1 (intsD ns) := okD_list fun d hd => by
  obtain ⟨i, _, rfl⟩ := List.mem_map.mp hd
  exact okD_int i
theorem dpAll_ints {K : PySem.W.Frag} {H : Hp} : ∀ ns : List Int, DpAll K H (ns.map V.int) (ns.map PyData.int)
  | [] => .nil
  | n :: ns => .cons (.int n) (dpAll_ints ns)
theorem dp_ints {K : PySem.W.Frag} {H : Hp} {a : Addr} {ns : List Int} (h : SqL K H a (ns.map V.int)) : Dp K H (.ref a) (intsD ns) := .lst h (dpAll_ints ns)
/-! ### a while by a number that falls -/
theorem while_m {c : TT} {tb : TS} {D : Ends} {σ : L2.St} {H : Hp} (W : Nat → L2.St → Hp → Prop) (m : Nat) (h0 : W m σ H)
    (hs : ∀ m σ H, W m σ H → ∃ b, Ans c σ H b ∧ (b = true → tb { D with nx := fun σ' H' => ∃ m', m' < m ∧ W m' σ' H', ct := fun σ' H' => ∃ m', m' < m ∧ W m' σ' H', bk := D.nx } σ H) ∧ (b = false → D.nx σ H)) : tWhile c tb D σ H := by
  refine ⟨W, ⟨m, h0⟩, fun m σ H w => ?_⟩
  obtain ⟨b, ha, hT, hF⟩ := hs m σ H w
  refine ha _ ?_
  cases b with
  | true => exact ⟨_, fun _ _ q => q, hT rfl⟩
  | false => exact hF rfl
theorem seq_while {c : TT} {tb r : TS} {D : Ends} {σ : L2.St} {H : Hp} (W : Nat → L2.St → Hp → Prop) (m : Nat) (h0 : W m σ H)
    (hs : ∀ m σ H, W m σ H → ∃ b, Ans c σ H b ∧ (b = true → tb { D with nx := fun σ' H' => ∃ m', m' < m ∧ W m' σ' H', ct := fun σ' H' => ∃ m', m' < m ∧ W m' σ' H', bk := r D } σ H) ∧ (b = false → r D σ H)) : tSeq (tWhile c tb) r D σ H :=
  while_m (D := { D with nx := r D }) W m h0 hs
/-! ### rows -/
structure Row where
  nm : Str
  mi : Int
  tl : Int
  rd : Int
  bk : Int
def rowVs (r : Row) : List V := [.str r.nm, .int r.mi, .int r.tl, .int r.rd, .int r.bk]
def RowV (H : Hp) (v : V) (r : Row) : Prop := ∃ t, v = .ref t ∧ H t = some (.tup (rowVs r))
theorem RowV.same {H H' : Hp} {v : V} {r : Row} (s : Same H H') (h : RowV H v r) : RowV H' v r := by
  obtain ⟨t, e, h⟩ := h
  exact ⟨t, e, s _ _ h⟩
theorem rows_same {H H' : Hp} {us : List V} {rows : List Row} (s : Same H H') (h : Paired (RowV H) us rows) : Paired (RowV H') us rows := L2.Paired.mapP h fun _ _ h => RowV.same s h
theorem paired_len {α β : Type} {F : α → β → Prop} : ∀ {l : List α} {m : List β}, Paired F l m → l.length = m.length
  | _, _, .nil => rfl
  | _, _, .cons _ t => by simp [paired_len t]
theorem paired_get {α β : Type} {F : α → β → Prop} : ∀ {l : List α} {m : List β} {i : Nat} {y : β}, Paired F l m → m[i]? = some y → ∃ x, l[i]? = some x ∧ F x y
  | _, _, _, _, .nil, e => by simp at e
  | _, _, 0, _, .cons r _, e => by simp at e; subst e; exact ⟨_, rfl, r⟩
  | _, _, i + 1, y, .cons _ t, e => by
    obtain ⟨x, h1, h2⟩ := paired_get (i := i) (y := y) t (by simpa using e)
    exact ⟨x, by simpa using h1, h2⟩
theorem paired_getL {α β : Type} {F : α → β → Prop} : ∀ {l : List α} {m : List β} {i : Nat} {x : α}, Paired F l m → l[i]? = some x → ∃ y, m[i]? = some y ∧ F x y
  | _, _, _, _, .nil, e => by simp at e
  | _, _, 0, _, .cons r _, e => by simp at e; subst e; exact ⟨_, rfl, r⟩
  | _, _, i + 1, y, .cons _ t, e => by
    obtain ⟨x, h1, h2⟩ := paired_getL (i := i) (x := y) t (by simpa using e)
    exact ⟨x, by simpa using h1, h2⟩
theorem paired_take {α β : Type} {F : α → β → Prop} : ∀ {l : List α} {m : List β} (n : Nat), Paired F l m → Paired F (l.take n) (m.take n)
  | _, _, 0, _ => .nil
  | _, _, _ + 1, .nil => .nil
  | _, _, n + 1, .cons r t => .cons r (paired_take n t)
theorem rows_upd {H : Hp} {L : Addr} {xs : List V} {o : HO} {us : List V} {rows : List Row} (hL : H L = some (.lst xs)) (h : Paired (RowV H) us rows) : Paired (RowV (upd H L o)) us rows := L2.Paired.mapP h fun _ _ ⟨t, e, ht⟩ => ⟨t, e, by rw [upd_ne (ne_of ht hL (by intro z; cases z))]; exact ht⟩
def rowsD (rows : List Row) : PyData := .list (rows.map fun r => .tuple [.str r.nm, .int r.mi, .int r.tl, .int r.rd, .int r.bk])
theorem rowsD_ok {rows : List Row} (h : ∀ r ∈ rows, PyData.strOk r.nm = true) : okD 2 (rowsD rows) := okD_list fun d hd => by
  obtain ⟨r, hr, rfl⟩ := List.mem_map.mp hd
  refine okD_tup fun e he => ?_
  simp only [List.mem_cons, List.not_mem_nil, or_false] at he
  rcases he with rfl | rfl | rfl | rfl | rfl
  · exact okD_str (h r hr)
  all_goals exact okD_int _
theorem dpAll_rows {K : PySem.W.Frag} {H : Hp} : ∀ {vs : List V} {rows : List Row}, Paired (RowV H) vs rows → DpAll K H vs (rows.map fun r => .tuple [.str r.nm, .int r.mi, .int r.tl, .int r.rd, .int r.bk])
  | _, _, .nil => .nil
  | _, _, .cons ⟨t, e, h⟩ r => by
    subst e
    exact .cons (.tup (SqT.of h) (.cons (.str _) (.cons (.int _) (.cons (.int _) (.cons (.int _) (.cons (.int _) .nil)))))) (dpAll_rows r)
theorem dp_rows {K : PySem.W.Frag} {H : Hp} {a : Addr} {vs : List V} {rows : List Row} (h : SqL K H a vs) (p : Paired (RowV H) vs rows) : Dp K H (.ref a) (rowsD rows) := .lst h (dpAll_rows p)
/-- the place of the least toll of a name among rows 1 .. i - 1 -/
def leastF (rows : List Row) (nm : Str) : Nat → Option Nat
  | 0 => none
  | i + 1 =>
    if i = 0 then none else
    match rows[i]? with
    | none => leastF rows nm i
    | some r => if r.nm = nm then
        match leastF rows nm i with
        | none => some i
        | some b => if r.tl < ((rows[b]?).map (·.tl)).getD 0 then some i else some b
      else leastF rows nm i
theorem leastF_lt {rows : List Row} {nm : Str} : ∀ {i b : Nat}, leastF rows nm i = some b → b < i
  | 0, b, h => by cases h
  | i + 1, b, h => by
    unfold leastF at h
    split at h
    · cases h
    · split at h
      · have := leastF_lt h
        omega
      · split at h
        · split at h
          · injection h with h; omega
          · rename_i c hc
            have := leastF_lt hc
            split at h <;> injection h with h <;> omega
        · have := leastF_lt h
          omega
def oV : Option Nat → V
  | none => .non
  | some i => .int (i : Int)
/-- the roads back from a row -/
def roadsF (rows : List Row) : Nat → Int → List Int
  | 0, _ => []
  | f + 1, p => if p ≤ 0 then [] else match rows[p.toNat]? with
    | none => []
    | some r => roadsF rows f r.bk ++ [r.rd]
def Backs (rows : List Row) : Prop := ∀ (i : Nat) (r : Row), rows[i]? = some r → r.bk < (i : Int) ∧ (i = 0 ∨ 0 ≤ r.bk)
/-- enough turns are enough -/
theorem roadsF_more {rows : List Row} (hb : Backs rows) : ∀ (f g : Nat) (p : Int), p ≤ (f : Int) → p ≤ (g : Int) → roadsF rows f p = roadsF rows g p
  | 0, 0, _, _, _ => rfl
  | 0, g + 1, p, h, _ => by
    unfold roadsF
    rw [if_pos (by omega)]
  | f + 1, 0, p, _, h => by
    unfold roadsF
    rw [if_pos (by omega)]
  | f + 1, g + 1, p, h1, h2 => by
    unfold roadsF
    by_cases hp : p ≤ 0
    · rw [if_pos hp, if_pos hp]
    · rw [if_neg hp, if_neg hp]
      cases e : rows[p.toNat]? with
      | none => rfl
      | some r =>
        have := (hb _ _ e).1
        show roadsF rows f r.bk ++ _ = roadsF rows g r.bk ++ _
        rw [roadsF_more hb f g r.bk (by omega) (by omega)]
def roadsOf (rows : List Row) (p : Int) : List Int := roadsF rows p.toNat p
theorem roadsOf_step {rows : List Row} (hb : Backs rows) {p : Int} (h : 0 < p) {r : Row} (hr : rows[p.toNat]? = some r) : roadsOf rows p = roadsOf rows r.bk ++ [r.rd] := by
  unfold roadsOf
  obtain ⟨n, rfl⟩ : ∃ n : Nat, p = ((n + 1 : Nat) : Int) := ⟨p.toNat - 1, by omega⟩
  rw [Int.toNat_natCast] at hr ⊢
  show roadsF rows (n + 1) _ = _
  conv => lhs; unfold roadsF
  rw [if_neg (by omega), Int.toNat_natCast, hr]
  show roadsF rows n r.bk ++ _ = _
  have := (hb _ _ hr).1
  rw [roadsF_more hb n r.bk.toNat r.bk (by omega) (by omega)]
theorem roadsOf_end (rows : List Row) {p : Int} (h : p ≤ 0) : roadsOf rows p = [] := by
  unfold roadsOf
  rw [show p.toNat = 0 by omega]
  rfl
theorem roadsF_len (rows : List Row) : ∀ f p, (roadsF rows f p).length ≤ f
  | 0, _ => by simp [roadsF]
  | f + 1, p => by
    unfold roadsF
    split
    · simp
    · split
      · simp
      · have := roadsF_len rows f
        simp [this]
/-- the law's rows -/
def nextRow (b : Int) (rows : List Row) (n : Int) : Row :=
  let back := n % (rows.length : Int)
  let r := rows.getD back.toNat ⟨nameOf 0 0, 0, 0, 0, 0⟩
  ⟨nameOf b (n / 7 % 6), r.mi + (1 + n / 1009 % 9), r.tl + n / 101 % 7 * (if n / 31 % 3 > 0 then 1 else 0), n / 10007 % 200, back⟩
def lawRows (ns : List Int) (b : Int) : Nat → List Row
  | 0 => [⟨nameOf b (cellAt ns 0 % 6), 0, 0, -1, -1⟩]
  | k + 1 => lawRows ns b k ++ [nextRow b (lawRows ns b k) (mixed ns (1 + (0 + (k : Int))))]
theorem lawRows_len (ns : List Int) (b : Int) : ∀ k, (lawRows ns b k).length = k + 1
  | 0 => rfl
  | k + 1 => by rw [lawRows, List.length_append, lawRows_len ns b k]; rfl
theorem lawRows_back (ns : List Int) (b : Int) : ∀ k, Backs (lawRows ns b k)
  | 0 => fun i r h => by
    cases i with
    | zero => simp [lawRows] at h; subst h; exact ⟨(by show (-1 : Int) < 0; decide), .inl rfl⟩
    | succ i => simp [lawRows] at h
  | k + 1 => fun i r h => by
    have hl := lawRows_len ns b k
    rw [lawRows, List.getElem?_append] at h
    split at h
    · exact lawRows_back ns b k i r h
    · have hi : i = k + 1 := by
        have := (List.getElem?_eq_some_iff.mp h).1
        simp at this
        omega
      subst hi
      rw [hl, Nat.sub_self] at h
      have e : nextRow b (lawRows ns b k) (mixed ns (1 + (0 + (k : Int)))) = r := by simpa using h
      rw [← e]
      unfold nextRow
      rw [hl]
      have h1 := Int.emod_nonneg (mixed ns (1 + (0 + (k : Int)))) (b := ((k + 1 : Nat) : Int)) (by omega)
      have h2 := Int.emod_lt_of_pos (mixed ns (1 + (0 + (k : Int)))) (b := ((k + 1 : Nat) : Int)) (by omega)
      exact ⟨h2, .inr h1⟩
theorem lawRows_nm (ns : List Int) (b : Int) : ∀ k r, r ∈ lawRows ns b k → ∃ t, 0 ≤ t ∧ t ≤ 1000 ∧ r.nm = nameOf b t
  | 0, r, h => by
    simp [lawRows] at h
    subst h
    exact ⟨cellAt ns 0 % 6, by omega, by omega, rfl⟩
  | k + 1, r, h => by
    rw [lawRows, List.mem_append] at h
    rcases h with h | h
    · exact lawRows_nm ns b k r h
    · rw [List.mem_singleton] at h
      subst h
      exact ⟨_, by omega, by omega, rfl⟩
end Toll

set_option Elab.async false
set_option maxRecDepth 100000
set_option maxHeartbeats 4000000
namespace Toll
open PySem L2
/-! ### a net: gates by name, roads by number -/
structure RoadD where
  one : Str
  other : Str
  mi : Int
  tl : Int
  op : Bool
structure NetD where
  gates : List (Str × Bool)
  roads : List RoadD
def gatesK (gs : List (Str × Bool)) : List (Key × V) := gs.map fun p => (Sum.inr p.1, V.bl p.2)
def seesOf (gs : List (Str × Bool)) (nm : Str) : Option Bool := (gs.find? fun p => decide (p.1 = nm)).map (·.2)
theorem key_inr {a b : Str} : ((Sum.inr a : Key) = Sum.inr b) ↔ a = b := ⟨fun h => by injection h, fun h => by rw [h]⟩
theorem valV_gates (gs : List (Str × Bool)) (nm : Str) : valV (gatesK gs) (Sum.inr nm : Key) = (seesOf gs nm).map V.bl := by
  induction gs with
  | nil => rfl
  | cons p gs ih =>
    unfold gatesK seesOf at *
    rw [List.map_cons]
    by_cases h : p.1 = nm
    · rw [valV_pos (key_inr.mpr h), List.find?_cons_of_pos (by simpa using h)]
      rfl
    · rw [valV_neg (fun z => h (key_inr.mp z)), List.find?_cons_of_neg (by simpa using h)]
      exact ih
def setSees (gs : List (Str × Bool)) (nm : Str) (b : Bool) : List (Str × Bool) := gs.map fun p => if p.1 = nm then (p.1, b) else p
theorem putK_new_gates {gs : List (Str × Bool)} {nm : Str} {b : Bool} (h : seesOf gs nm = none) : putK (gatesK gs) (Sum.inr nm : Key) (V.bl b) = gatesK (gs ++ [(nm, b)]) := by
  rw [putK_new _ (by rw [valV_gates, h]; rfl)]
  simp [gatesK]
theorem putK_old_gates {gs : List (Str × Bool)} {nm : Str} {b c : Bool} (h : seesOf gs nm = some c) : putK (gatesK gs) (Sum.inr nm : Key) (V.bl b) = gatesK (setSees gs nm b) := by
  have e : ((gatesK gs).any fun kv => decide (kv.1 = (Sum.inr nm : Key))) = true := by
    rw [valV_any, valV_gates, h]
    rfl
  unfold putK
  rw [if_pos e]
  unfold gatesK setSees
  rw [List.map_map, List.map_map]
  apply List.map_congr_left
  intro p _
  by_cases hp : p.1 = nm
  · simp [hp]
  · have : ¬ (Sum.inr p.1 : Key) = Sum.inr nm := fun z => hp (key_inr.mp z)
    simp [hp]
theorem seesOf_none {gs : List (Str × Bool)} {nm : Str} : seesOf gs nm = none ↔ nm ∉ gs.map (·.1) := by
  unfold seesOf
  rw [Option.map_eq_none_iff, List.find?_eq_none]
  refine ⟨fun h m => ?_, fun h p hp e => h (List.mem_map.mpr ⟨p, hp, of_decide_eq_true e⟩)⟩
  obtain ⟨p, hp, e⟩ := List.mem_map.mp m
  exact h p hp (decide_eq_true e)
theorem seesOf_nil (nm : Str) : seesOf [] nm = none := rfl
theorem seesOf_snoc {gs : List (Str × Bool)} {nm : Str} {b : Bool} (x : Str) (h : seesOf gs nm = none) : seesOf (gs ++ [(nm, b)]) x = if x = nm then some b else seesOf gs x := by
  unfold seesOf at *
  rw [List.find?_append]
  by_cases hx : x = nm
  · subst hx
    rw [Option.map_eq_none_iff] at h
    rw [h]
    simp
  · rw [if_neg hx]
    have : (List.find? (fun p => decide (p.1 = x)) [(nm, b)]) = none := by
      rw [List.find?_cons_of_neg (by simpa using fun z : nm = x => hx z.symm)]
      rfl
    rw [this, Option.or_none]
theorem seesOf_set {gs : List (Str × Bool)} {nm : Str} {b : Bool} (x : Str) : seesOf (setSees gs nm b) x = (seesOf gs x).map fun c => if x = nm then b else c := by
  induction gs with
  | nil => rfl
  | cons p gs ih =>
    unfold seesOf setSees at *
    rw [List.map_cons]
    by_cases h : p.1 = nm
    · rw [if_pos h]
      by_cases hx : p.1 = x
      · rw [List.find?_cons_of_pos (by simpa using hx), List.find?_cons_of_pos (by simpa using hx)]
        simp [← hx, h]
      · rw [List.find?_cons_of_neg (by simpa using hx), List.find?_cons_of_neg (by simpa using hx)]
        exact ih
    · rw [if_neg h]
      by_cases hx : p.1 = x
      · rw [List.find?_cons_of_pos (by simpa using hx), List.find?_cons_of_pos (by simpa using hx)]
        simp [← hx, h]
      · rw [List.find?_cons_of_neg (by simpa using hx), List.find?_cons_of_neg (by simpa using hx)]
        exact ih
theorem setSees_names (gs : List (Str × Bool)) (nm : Str) (b : Bool) : (setSees gs nm b).map (·.1) = gs.map (·.1) := by
  unfold setSees
  rw [List.map_map]
  apply List.map_congr_left
  intro p _
  by_cases h : p.1 = nm <;> simp [h]
theorem setSees_len (gs : List (Str × Bool)) (nm : Str) (b : Bool) : (setSees gs nm b).length = gs.length := by simp [setSees]
/-! ### a net in the heap -/
def roadVs (r : RoadD) : List V := [.str r.one, .str r.other, .int r.mi, .int r.tl, .bl r.op]
def RoadV (H : Hp) (v : V) (r : RoadD) : Prop := ∃ t, v = .ref t ∧ H t = some (.tup (roadVs r))
theorem gr_ : ¬ (("_gates" : Str) = "_roads") := by decide +kernel
def netF (g r : Addr) : List (Str × V) := putF "_roads" (.ref r) (putF "_gates" (.ref g) [])
theorem netF_eq (g r : Addr) : netF g r = ([("_gates", V.ref g), ("_roads", V.ref r)] : List (Str × V)) := by
  show (if ("_gates" : Str) = "_roads" then [(("_gates" : Str), V.ref r)] else (("_gates" : Str), V.ref g) :: putF "_roads" (V.ref r) []) = _
  rw [if_neg gr_]
  all_goals rfl
theorem netF_gates (g r : Addr) : (netF g r).lookup ("_gates" : Str) = some (.ref g) := by
  unfold netF
  rw [lookup_putF, if_neg gr_, lookup_putF, if_pos rfl]
theorem netF_roads (g r : Addr) : (netF g r).lookup ("_roads" : Str) = some (.ref r) := by
  unfold netF
  rw [lookup_putF, if_pos rfl]
theorem netF_no (g r : Addr) {m : Str} (h1 : ¬ m = "_roads") (h2 : ¬ m = "_gates") : (netF g r).lookup m = none := by
  unfold netF
  rw [lookup_putF, if_neg h1, lookup_putF, if_neg h2]
  all_goals rfl
structure NetAt (C : Addr) (H : Hp) (p g r : Addr) (N : NetD) : Prop where
  ob : ∃ dx, H p = some (.ins C dx (netF g r))
  gt : H g = some (.dK (gatesK N.gates))
  rt : ∃ us, H r = some (.lst us) ∧ Paired (RoadV H) us N.roads
  nd : (N.gates.map (·.1)).Nodup
  l1 : N.gates.length ≤ 60
  l2 : N.roads.length ≤ 200
/-- all but what stands in S is as it was -/
def Keep (S : List Addr) (H H' : Hp) : Prop := ∀ b o, H b = some o → b ∉ S → H' b = some o
theorem Keep.of_same {S : List Addr} {H H' : Hp} (s : Same H H') : Keep S H H' := fun b o e _ => s b o e
theorem Keep.trans {S : List Addr} {H H1 H2 : Hp} (a : Keep S H H1) (b : Keep S H1 H2) : Keep S H H2 := fun c o e n => b c o (a c o e n) n
theorem Keep.mono {S T : List Addr} {H H' : Hp} (a : Keep S H H') (h : ∀ x ∈ S, x ∈ T) : Keep T H H' := fun b o e n => a b o e fun m => n (h b m)
theorem Keep.upd {S : List Addr} {H H' : Hp} {p : Addr} {o : HO} (a : Keep S H H') (h : p ∈ S ∨ H p = none) : Keep S H (upd H' p o) := fun b u e n => by
  by_cases hb : b = p
  · subst hb
    rcases h with h | h
    · exact absurd h n
    · rw [h] at e
      cases e
  · rw [upd_ne hb]
    exact a b u e n
theorem roads_keep {S : List Addr} {H H' : Hp} {us : List V} {rs : List RoadD} (k : Keep S H H') (hS : ∀ a ∈ S, ∀ xs, H a ≠ some (.tup xs)) (h : Paired (RoadV H) us rs) : Paired (RoadV H') us rs :=
  L2.Paired.mapP h fun _ _ ⟨t, e, ht⟩ => ⟨t, e, k t _ ht fun m => hS t m _ ht⟩
theorem NetAt.same {C : Addr} {H H' : Hp} {p g r : Addr} {N : NetD} (n : NetAt C H p g r N) (s : Same H H') : NetAt C H' p g r N := by
  obtain ⟨⟨dx, ob⟩, gt, ⟨us, rt, pr⟩, nd, l1, l2⟩ := n
  exact ⟨⟨dx, s _ _ ob⟩, s _ _ gt, ⟨us, s _ _ rt, L2.Paired.mapP pr fun _ _ ⟨t, e, ht⟩ => ⟨t, e, s _ _ ht⟩⟩, nd, l1, l2⟩
/-- a net stands while what is changed is none of its own -/
theorem NetAt.keep {C : Addr} {S : List Addr} {H H' : Hp} {p g r : Addr} {N : NetD} (n : NetAt C H p g r N) (k : Keep S H H') (hp : p ∉ S) (hg : g ∉ S) (hr : r ∉ S) (hS : ∀ a ∈ S, ∀ xs, H a ≠ some (.tup xs)) : NetAt C H' p g r N := by
  obtain ⟨⟨dx, ob⟩, gt, ⟨us, rt, pr⟩, nd, l1, l2⟩ := n
  exact ⟨⟨dx, k _ _ ob hp⟩, k _ _ gt hg, ⟨us, k _ _ rt hr, roads_keep k hS pr⟩, nd, l1, l2⟩
theorem NetAt.pg {C : Addr} {H : Hp} {p g r : Addr} {N : NetD} (n : NetAt C H p g r N) : p ≠ g := by
  obtain ⟨⟨dx, ob⟩, gt, _⟩ := n
  exact ne_of ob gt (by intro z; cases z)
theorem NetAt.pr {C : Addr} {H : Hp} {p g r : Addr} {N : NetD} (n : NetAt C H p g r N) : p ≠ r := by
  obtain ⟨⟨dx, ob⟩, gt, ⟨us, rt, _⟩, _⟩ := n
  exact ne_of ob rt (by intro z; cases z)
theorem NetAt.gr {C : Addr} {H : Hp} {p g r : Addr} {N : NetD} (n : NetAt C H p g r N) : g ≠ r := by
  obtain ⟨_, gt, ⟨us, rt, _⟩, _⟩ := n
  exact ne_of gt rt (by intro z; cases z)
/-- a message's text fits -/
theorem repr_sz {x : Str} (h : x.length ≤ 1000) (ho : PyData.strOk x = true) : (reprText x).length ≤ 20000 := by
  have := PySem.StrLaws.reprText_len x fun c hc => by
    have h1 := Array.all_eq_true.mp ho
    obtain ⟨i, hi, e⟩ := Array.getElem_of_mem (Array.mem_toList_iff.mp hc)
    have := of_decide_eq_true (h1 i hi)
    rw [e] at this
    exact Nat.lt_trans this (by decide)
  omega
theorem str_len (x y : Str) : (x ++ y).length = x.length + y.length := by
  show (x.cps ++ y.cps).size = _
  rw [Array.size_append]
  rfl
theorem cat_sz {x y : Str} (hx : x.length ≤ 1000) (hy : y.length ≤ 50000) : (x ++ y).length ≤ sizeLine := Evl.sz_of (by rw [str_len]; omega)
theorem cat_sz2 {x y : Str} {n m : Nat} (hx : x.length ≤ n) (hy : y.length ≤ m) (h : n + m ≤ 100000) : (x ++ y).length ≤ sizeLine := Evl.sz_of (by rw [str_len]; omega)
theorem repr_ok {x : Str} (h : x.length ≤ 1000) (ho : PyData.strOk x = true) : (reprText x).length ≤ sizeLine := Evl.sz_of (by have := repr_sz h ho; omega)
theorem sz3 {x y z : Str} (hx : x.length ≤ 1000) (hy : y.length ≤ 50000) (hz : z.length ≤ 1000) : (x ++ y ++ z).length ≤ sizeLine := Evl.sz_of (by rw [str_len, str_len]; omega)
theorem NetAt.setGates {C : Addr} {H : Hp} {p g r : Addr} {N : NetD} (n : NetAt C H p g r N) {gs : List (Str × Bool)} (hd : (gs.map (·.1)).Nodup) (hl : gs.length ≤ 60) :
    NetAt C (upd H g (.dK (gatesK gs))) p g r { N with gates := gs } := by
  have h1 := n.pg
  have h2 := n.gr
  obtain ⟨⟨dx, ob⟩, gt, ⟨us, rt, pr⟩, nd, l1, l2⟩ := n
  exact ⟨⟨dx, by rw [upd_ne h1]; exact ob⟩, upd_same, ⟨us, by rw [upd_ne h2.symm]; exact rt, L2.Paired.mapP pr fun _ _ ⟨t, e, ht⟩ => ⟨t, e, by rw [upd_ne (ne_of ht gt (by intro z; cases z))]; exact ht⟩⟩, hd, hl, l2⟩
theorem NetAt.setRoads {C : Addr} {H : Hp} {p g r : Addr} {N : NetD} (n : NetAt C H p g r N) {us : List V} {rs : List RoadD} (pr : Paired (RoadV H) us rs) (hl : rs.length ≤ 200) :
    NetAt C (upd H r (.lst us)) p g r { N with roads := rs } := by
  have h1 := n.pr
  have h2 := n.gr
  obtain ⟨⟨dx, ob⟩, gt, ⟨us', rt, _⟩, nd, l1, l2⟩ := n
  exact ⟨⟨dx, by rw [upd_ne h1]; exact ob⟩, by rw [upd_ne h2]; exact gt, ⟨us, upd_same, L2.Paired.mapP pr fun _ _ ⟨t, e, ht⟩ => ⟨t, e, by rw [upd_ne (ne_of ht rt (by intro z; cases z))]; exact ht⟩⟩, nd, l1, hl⟩
theorem keep1 {H : Hp} {p : Addr} {o : HO} : Keep [p] H (upd H p o) := (Keep.of_same (Same.refl H)).upd (.inl (by simp))
theorem paired_set {α β : Type} {F : α → β → Prop} {x : α} {y : β} (r : F x y) : ∀ {l : List α} {m : List β} (i : Nat), Paired F l m → Paired F (l.set i x) (m.set i y)
  | _, _, _, .nil => .nil
  | _, _, 0, .cons _ t => .cons r t
  | _, _, i + 1, .cons q t => .cons q (paired_set r i t)
theorem roads_same {H H' : Hp} {us : List V} {rs : List RoadD} (s : Same H H') (h : Paired (RoadV H) us rs) : Paired (RoadV H') us rs := L2.Paired.mapP h fun _ _ ⟨t, e, ht⟩ => ⟨t, e, s _ _ ht⟩
def GateV (H : Hp) (v : V) (q : Str × Bool) : Prop := ∃ t, v = .ref t ∧ H t = some (.tup [.str q.1, .bl q.2])
theorem gatesV_same {H H' : Hp} {us : List V} {gs : List (Str × Bool)} (s : Same H H') (h : Paired (GateV H) us gs) : Paired (GateV H') us gs := L2.Paired.mapP h fun _ _ ⟨t, e, ht⟩ => ⟨t, e, s _ _ ht⟩
/-- the numbers of the open roads from a gate -/
def leavingF (rs : List RoadD) (nm : Str) : Nat → List Int
  | 0 => []
  | i + 1 => leavingF rs nm i ++ (match rs[i]? with
    | some r => if r.one = nm ∧ r.op = true then [(i : Int)] else []
    | none => [])
theorem leavingF_len (rs : List RoadD) (nm : Str) : ∀ i, (leavingF rs nm i).length ≤ i
  | 0 => Nat.le_refl _
  | i + 1 => by
    have := leavingF_len rs nm i
    unfold leavingF
    rw [List.length_append]
    split
    · split <;> simp <;> omega
    · simp; omega
theorem gates_paired {H : Hp} : ∀ {ts : List Addr} {gs : List (Str × Bool)}, Paired (fun (t : Addr) (q : Key × V) => H t = some (.tup [kV q.1, q.2])) ts (gatesK gs) → Paired (GateV H) (ts.map V.ref) gs
  | _, [], .nil => .nil
  | _, q :: gs, .cons h r => .cons ⟨_, rfl, h⟩ (gates_paired (gs := gs) r)
end Toll

set_option Elab.async false
set_option maxRecDepth 100000
set_option maxHeartbeats 4000000
namespace Toll
open PySem L2
/-! ### deeds, and what they come to -/
inductive Deed where
  | gate (nm : Str) (b : Bool)
  | road (one other : Str) (mi tl : Int)
  | turn (b : Bool) (nm : Str)
  | lane (b : Bool) (n : Int)
def deedVs : Deed → List V
  | .gate nm b => [.str "gate", .str nm, .bl b]
  | .road one other mi tl => [.str "road", .str one, .str other, .int mi, .int tl]
  | .turn false nm => [.str "blind", .str nm]
  | .turn true nm => [.str "mend", .str nm]
  | .lane false n => [.str "close", .int n]
  | .lane true n => [.str "reopen", .int n]
def NameOk (nm : Str) : Prop := nm.length ≤ 8 ∧ PyData.strOk nm = true ∧ isName nm.cps.toList = true
def Deed.ok : Deed → Prop
  | .gate nm _ => NameOk nm
  | .road one other _ _ => NameOk one ∧ NameOk other
  | .turn _ nm => NameOk nm
  | .lane _ _ => True
theorem nameOk_of {b t : Int} (h0 : 0 ≤ t) (h1 : t ≤ 999) : NameOk (nameOf b t) := ⟨nameOf_len h0 h1, nameOf_ok b t, isName_nameOf h0 h1⟩
def DeedV (H : Hp) (v : V) (d : Deed) : Prop := ∃ t, v = .ref t ∧ H t = some (.tup (deedVs d))
theorem DeedV.same {H H' : Hp} {v : V} {d : Deed} (s : Same H H') (h : DeedV H v d) : DeedV H' v d := by
  obtain ⟨t, e, h⟩ := h
  exact ⟨t, e, s _ _ h⟩
def refusal (N : NetD) : Deed → Option Str
  | .gate nm _ => if seesOf N.gates nm ≠ none then some "SameGate" else if 59 < N.gates.length then some "FullNet" else none
  | .road one other mi tl =>
    if seesOf N.gates one = none ∨ seesOf N.gates other = none then some "NoGate"
    else if one = other then some "SameGate"
    else if ¬ (0 < mi ∧ mi < 1000001) ∨ ¬ (0 ≤ tl ∧ tl < 1000001) then some "NoNumber"
    else if 199 < N.roads.length then some "FullNet" else none
  | .turn b nm => match seesOf N.gates nm with
    | none => some "NoGate"
    | some c => if c = b then some "Already" else none
  | .lane b n => if 0 ≤ n ∧ n < (N.roads.length : Int) then
      match N.roads[n.toNat]? with
      | none => some "NoRoad"
      | some r => if r.op = b then some "Already" else none
    else some "NoRoad"
def done (N : NetD) : Deed → NetD
  | .gate nm b => { N with gates := N.gates ++ [(nm, b)] }
  | .road one other mi tl => { N with roads := N.roads ++ [⟨one, other, mi, tl, true⟩] }
  | .turn b nm => { N with gates := setSees N.gates nm b }
  | .lane b n => match N.roads[n.toNat]? with
    | none => N
    | some r => { N with roads := N.roads.set n.toNat { r with op := b } }
def doneV (N : NetD) : Deed → V
  | .road _ _ _ _ => .int (N.roads.length : Int)
  | _ => .non
theorem refusal_turn (N : NetD) (b : Bool) (nm : Str) : refusal N (.turn b nm) = (match seesOf N.gates nm with
    | none => some ("NoGate" : Str)
    | some c => if c = b then some ("Already" : Str) else none) := rfl
theorem refusal_turn0 {N : NetD} {b : Bool} {nm : Str} (h : seesOf N.gates nm = none) : refusal N (.turn b nm) = some ("NoGate" : Str) := by
  rw [refusal_turn, h]
theorem refusal_turn1 {N : NetD} {b : Bool} {nm : Str} (h : seesOf N.gates nm = some b) : refusal N (.turn b nm) = some ("Already" : Str) := by
  rw [refusal_turn, h]
  exact if_pos rfl
theorem refusal_turn2 {N : NetD} {b : Bool} {nm : Str} (h : seesOf N.gates nm = some (!b)) : refusal N (.turn b nm) = none := by
  rw [refusal_turn, h]
  exact if_neg (by cases b <;> simp)
theorem refusal_lane (N : NetD) (b : Bool) (n : Int) : refusal N (.lane b n) = (if 0 ≤ n ∧ n < (N.roads.length : Int) then
      match N.roads[n.toNat]? with
      | none => some ("NoRoad" : Str)
      | some r => if r.op = b then some ("Already" : Str) else none
    else some ("NoRoad" : Str)) := rfl
theorem refusal_lane0 {N : NetD} {b : Bool} {n : Int} (h : ¬ (0 ≤ n ∧ n < (N.roads.length : Int))) : refusal N (.lane b n) = some ("NoRoad" : Str) := by
  rw [refusal_lane, if_neg h]
theorem lane_in {N : NetD} {n : Int} {r : RoadD} (h0 : 0 ≤ n) (h : N.roads[n.toNat]? = some r) : 0 ≤ n ∧ n < (N.roads.length : Int) := ⟨h0, by have := (List.getElem?_eq_some_iff.mp h).1; omega⟩
theorem refusal_lane1 {N : NetD} {b : Bool} {n : Int} {r : RoadD} (h0 : 0 ≤ n) (h : N.roads[n.toNat]? = some r) (e : r.op = b) : refusal N (.lane b n) = some ("Already" : Str) := by
  rw [refusal_lane, if_pos (lane_in h0 h), h]
  exact if_pos e
theorem refusal_lane2 {N : NetD} {b : Bool} {n : Int} {r : RoadD} (h0 : 0 ≤ n) (h : N.roads[n.toNat]? = some r) (e : r.op = !b) : refusal N (.lane b n) = none := by
  rw [refusal_lane, if_pos (lane_in h0 h), h]
  exact if_neg (by rw [e]; cases b <;> simp)
theorem done_lane {N : NetD} {b : Bool} {n : Int} {r : RoadD} (h : N.roads[n.toNat]? = some r) : done N (.lane b n) = { N with roads := N.roads.set n.toNat { r with op := b } } := by
  show (match N.roads[n.toNat]? with | none => N | some r => { N with roads := N.roads.set n.toNat { r with op := b } }) = _
  rw [h]
/-! ### the law's own account -/
structure OwnAt (H : Hp) (o og orr : Addr) (gts rts : List Addr) (N : NetD) : Prop where
  ho : H o = some (.lst [.ref og, .ref orr])
  hg : H og = some (.lst (gts.map V.ref))
  hr : H orr = some (.lst (rts.map V.ref))
  pg : Paired (fun (t : Addr) (q : Str × Bool) => H t = some (.lst [.str q.1, .bl q.2])) gts N.gates
  pr : Paired (fun (t : Addr) (r : RoadD) => H t = some (.lst (roadVs r))) rts N.roads
  nd : (o :: og :: orr :: (gts ++ rts)).Nodup
theorem paired_mem {α β : Type} {F G : α → β → Prop} : ∀ {l : List α} {m : List β}, Paired F l m → (∀ a ∈ l, ∀ b, F a b → G a b) → Paired G l m
  | _, _, .nil, _ => .nil
  | _, _, .cons r t, h => .cons (h _ (List.mem_cons_self ..) _ r) (paired_mem t fun a ha => h a (List.mem_cons_of_mem _ ha))
theorem OwnAt.keep {S : List Addr} {H H' : Hp} {o og orr : Addr} {gts rts : List Addr} {N : NetD} (a : OwnAt H o og orr gts rts N) (k : Keep S H H') (hS : ∀ x ∈ S, x ∉ o :: og :: orr :: (gts ++ rts)) : OwnAt H' o og orr gts rts N := by
  have q : ∀ x ∈ o :: og :: orr :: (gts ++ rts), ∀ u, H x = some u → H' x = some u := fun x hx u e => k x u e fun m => hS x m hx
  obtain ⟨ho, hg, hr, pg, pr, nd⟩ := a
  exact ⟨q _ (by simp) _ ho, q _ (by simp) _ hg, q _ (by simp) _ hr, paired_mem pg fun t ht _ e => q t (by simp [ht]) _ e, paired_mem pr fun t ht _ e => q t (by simp [ht]) _ e, nd⟩
theorem OwnAt.same {H H' : Hp} {o og orr : Addr} {gts rts : List Addr} {N : NetD} (a : OwnAt H o og orr gts rts N) (s : Same H H') : OwnAt H' o og orr gts rts N :=
  a.keep (S := []) (Keep.of_same s) fun x hx => by cases hx
/-! ### the list of the names -/
def namesV (gs : List (Str × Bool)) : List V := gs.map fun q => V.str q.1
theorem namesV_flat (gs : List (Str × Bool)) : (namesV gs).all flatV = true := by
  rw [List.all_eq_true]
  intro x hx
  obtain ⟨q, _, rfl⟩ := List.mem_map.mp hx
  rfl
theorem eqV_str (a b : Str) : eqV (V.str a) (V.str b) = decide (a = b) := by
  show (a == b) = _
  rfl
theorem inV_names (nm : Str) (gs : List (Str × Bool)) : inV (V.str nm) (namesV gs) = (seesOf gs nm).isSome := by
  induction gs with
  | nil => rfl
  | cons q gs ih =>
    unfold inV namesV seesOf at *
    rw [List.map_cons, List.any_cons, eqV_str, ih]
    by_cases h : q.1 = nm
    · rw [decide_eq_true h, List.find?_cons_of_pos (by simpa using h)]
      rfl
    · rw [decide_eq_false h, List.find?_cons_of_neg (by simpa using h)]
      rfl
theorem seesOf_at {gs : List (Str × Bool)} {nm : Str} {c : Bool} (h : seesOf gs nm = some c) : ∃ j : Nat, gs[j]? = some (nm, c) ∧ ∀ (m : Nat) (q : Str × Bool), m < j → gs[m]? = some q → q.1 ≠ nm := by
  induction gs with
  | nil => cases h
  | cons q gs ih =>
    by_cases e : q.1 = nm
    · refine ⟨0, ?_, fun m q hm => by omega⟩
      unfold seesOf at h
      rw [List.find?_cons_of_pos (by simpa using e)] at h
      have h2 : q.2 = c := by simpa using h
      rw [← e, ← h2]
      rfl
    · have h2 : seesOf gs nm = some c := by
        unfold seesOf at h ⊢
        rw [List.find?_cons_of_neg (by simpa using e)] at h
        exact h
      obtain ⟨j, hj, hn⟩ := ih h2
      refine ⟨j + 1, by simpa using hj, fun m q' hm hq => ?_⟩
      cases m with
      | zero =>
        have : q = q' := by simpa using hq
        subst this
        exact e
      | succ m => exact hn m q' (by omega) (by simpa using hq)
theorem rep_one (v : V) (b : Bool) : (List.replicate (if b = true then (1 : Int) else 0).toNat [v]).flatten = if b = true then [v] else [] := by
  cases b <;> rfl
def refV : Option Str → List V
  | none => []
  | some c => [.str c]
/-! ### the account changes -/
theorem OwnAt.addGate {H : Hp} {o og orr t : Addr} {gts rts : List Addr} {N : NetD} (a : OwnAt H o og orr gts rts N) {nm : Str} {b : Bool} (ht : H t = some (.lst [.str nm, .bl b])) (hn : t ∉ o :: og :: orr :: (gts ++ rts)) :
    OwnAt (upd H og (.lst (gts.map V.ref ++ [.ref t]))) o og orr (gts ++ [t]) rts { N with gates := N.gates ++ [(nm, b)] } := by
  obtain ⟨ho, hg, hr, pg, pr, nd⟩ := a
  have nd' := nd
  simp only [List.nodup_cons, List.mem_cons, List.mem_append, not_or] at nd hn
  have e : ∀ x, x ≠ og → ∀ u, H x = some u → (upd H og (.lst (gts.map V.ref ++ [.ref t]))) x = some u := fun x hx u h => by rw [upd_ne hx]; exact h
  refine ⟨e o nd.1.1 _ ho, by rw [upd_same]; simp, e orr (fun z => nd.2.1.1 z.symm) _ hr, Paired.snoc (paired_mem pg fun x hx _ h => e x (fun z => nd.2.1.2.1 (z ▸ hx)) _ h) (e t hn.2.1 _ ht), paired_mem pr fun x hx _ h => e x (fun z => nd.2.1.2.2 (z ▸ hx)) _ h, ?_⟩
  have p : (o :: og :: orr :: (gts ++ [t] ++ rts)).Perm (t :: o :: og :: orr :: (gts ++ rts)) := by
    have h1 : (gts ++ [t] ++ rts).Perm (t :: (gts ++ rts)) := by
      rw [List.append_assoc]
      exact List.perm_middle
    exact ((h1.cons orr).cons og |>.cons o).trans (((List.Perm.swap t orr _).cons og |>.cons o).trans (((List.Perm.swap t og _).cons o).trans (List.Perm.swap t o _)))
  refine p.nodup_iff.mpr (List.nodup_cons.mpr ⟨?_, nd'⟩)
  simp only [List.mem_cons, List.mem_append, not_or]
  exact hn
theorem OwnAt.addRoad {H : Hp} {o og orr t : Addr} {gts rts : List Addr} {N : NetD} (a : OwnAt H o og orr gts rts N) {r : RoadD} (ht : H t = some (.lst (roadVs r))) (hn : t ∉ o :: og :: orr :: (gts ++ rts)) :
    OwnAt (upd H orr (.lst (rts.map V.ref ++ [.ref t]))) o og orr gts (rts ++ [t]) { N with roads := N.roads ++ [r] } := by
  obtain ⟨ho, hg, hr, pg, pr, nd⟩ := a
  have nd' := nd
  simp only [List.nodup_cons, List.mem_cons, List.mem_append, not_or] at nd hn
  have e : ∀ x, x ≠ orr → ∀ u, H x = some u → (upd H orr (.lst (rts.map V.ref ++ [.ref t]))) x = some u := fun x hx u h => by rw [upd_ne hx]; exact h
  refine ⟨e o nd.1.2.1 _ ho, e og nd.2.1.1 _ hg, by rw [upd_same]; simp, paired_mem pg fun x hx _ h => e x (fun z => nd.2.2.1.1 (z ▸ hx)) _ h, Paired.snoc (paired_mem pr fun x hx _ h => e x (fun z => nd.2.2.1.2 (z ▸ hx)) _ h) (e t hn.2.2.1 _ ht), ?_⟩
  have p : (o :: og :: orr :: (gts ++ (rts ++ [t]))).Perm (t :: o :: og :: orr :: (gts ++ rts)) := by
    have h1 : (gts ++ (rts ++ [t])).Perm (t :: (gts ++ rts)) := by
      rw [← List.append_assoc]
      exact List.perm_append_singleton t (gts ++ rts)
    exact ((h1.cons orr).cons og |>.cons o).trans (((List.Perm.swap t orr _).cons og |>.cons o).trans (((List.Perm.swap t og _).cons o).trans (List.Perm.swap t o _)))
  refine p.nodup_iff.mpr (List.nodup_cons.mpr ⟨?_, nd'⟩)
  simp only [List.mem_cons, List.mem_append, not_or]
  exact hn
theorem paired_upd {α : Type} {H : Hp} {g : α → List V} {c : Addr} {y : α} : ∀ {l : List Addr} {m : List α} {j : Nat}, Paired (fun (t : Addr) (q : α) => H t = some (.lst (g q))) l m → l.Nodup → l[j]? = some c → Paired (fun (t : Addr) (q : α) => (upd H c (.lst (g y))) t = some (.lst (g q))) l (m.set j y)
  | _, _, _, .nil, _, e => by simp at e
  | a :: l, x :: m, 0, .cons r t, nd, e => by
    have e : a = c := by simpa using e
    subst e
    exact .cons upd_same (paired_mem t fun b hb q h => by rw [upd_ne (show b ≠ a from fun z => (List.nodup_cons.mp nd).1 (by rw [← z]; exact hb))]; exact h)
  | a :: l, x :: m, j + 1, .cons r t, nd, e => by
    have e2 : l[j]? = some c := by simpa using e
    have hc : c ∈ l := List.mem_of_getElem? e2
    exact .cons (by rw [upd_ne (show a ≠ c from fun z => (List.nodup_cons.mp nd).1 (by rw [z]; exact hc))]; exact r) (paired_upd t (List.nodup_cons.mp nd).2 e2)
theorem OwnAt.setGate {H : Hp} {o og orr t : Addr} {gts rts : List Addr} {N : NetD} (a : OwnAt H o og orr gts rts N) {j : Nat} {nm : Str} {b : Bool} (hj : gts[j]? = some t) :
    OwnAt (upd H t (.lst [.str nm, .bl b])) o og orr gts rts { N with gates := N.gates.set j (nm, b) } := by
  obtain ⟨ho, hg, hr, pg, pr, nd⟩ := a
  have nd' := nd
  have hm := List.mem_of_getElem? hj
  simp only [List.nodup_cons, List.mem_cons, List.mem_append, not_or] at nd
  have nda := List.nodup_append.mp nd.2.2.2
  have e : ∀ x, x ≠ t → ∀ u, H x = some u → (upd H t (.lst [.str nm, .bl b])) x = some u := fun x hx u h => by rw [upd_ne hx]; exact h
  refine ⟨e o (fun z => nd.1.2.2.1 (z ▸ hm)) _ ho, e og (fun z => nd.2.1.2.1 (z ▸ hm)) _ hg, e orr (fun z => nd.2.2.1.1 (z ▸ hm)) _ hr, ?_, paired_mem pr fun x hx _ h => e x (fun z => nda.2.2 t hm x hx z.symm) _ h, nd'⟩
  exact paired_upd (g := fun q : Str × Bool => [V.str q.1, V.bl q.2]) (y := (nm, b)) pg nda.1 hj
theorem OwnAt.setRoad {H : Hp} {o og orr t : Addr} {gts rts : List Addr} {N : NetD} (a : OwnAt H o og orr gts rts N) {j : Nat} {r : RoadD} (hj : rts[j]? = some t) :
    OwnAt (upd H t (.lst (roadVs r))) o og orr gts rts { N with roads := N.roads.set j r } := by
  obtain ⟨ho, hg, hr, pg, pr, nd⟩ := a
  have nd' := nd
  have hm := List.mem_of_getElem? hj
  simp only [List.nodup_cons, List.mem_cons, List.mem_append, not_or] at nd
  have nda := List.nodup_append.mp nd.2.2.2
  have e : ∀ x, x ≠ t → ∀ u, H x = some u → (upd H t (.lst (roadVs r))) x = some u := fun x hx u h => by rw [upd_ne hx]; exact h
  refine ⟨e o (fun z => nd.1.2.2.2 (z ▸ hm)) _ ho, e og (fun z => nd.2.1.2.2 (z ▸ hm)) _ hg, e orr (fun z => nd.2.2.1.2 (z ▸ hm)) _ hr, paired_mem pg fun x hx _ h => e x (fun z => nda.2.2 x hx t hm z) _ h, ?_, nd'⟩
  exact paired_upd (g := roadVs) (y := r) pr nda.2.1 hj
theorem setSees_at {nm : Str} {b c : Bool} : ∀ {gs : List (Str × Bool)} {j : Nat}, (gs.map (·.1)).Nodup → gs[j]? = some (nm, c) → setSees gs nm b = gs.set j (nm, b)
  | [], _, _, h => by simp at h
  | q :: gs, 0, nd, h => by
    have h : q = (nm, c) := by simpa using h
    subst h
    have hn := (List.nodup_cons.mp nd).1
    unfold setSees
    rw [List.map_cons, if_pos rfl, List.set_cons_zero]
    congr 1
    conv => rhs; rw [← List.map_id gs]
    apply List.map_congr_left
    intro p hp
    rw [if_neg]
    · rfl
    · intro z
      exact hn (List.mem_map.mpr ⟨p, hp, z⟩)
  | q :: gs, j + 1, nd, h => by
    have h2 : gs[j]? = some (nm, c) := by simpa using h
    have ih := setSees_at (gs := gs) (j := j) (nm := nm) (b := b) (c := c) (List.nodup_cons.mp nd).2 h2
    have hq : q.1 ≠ nm := by
      intro z
      refine (List.nodup_cons.mp nd).1 (List.mem_map.mpr ⟨(nm, c), List.mem_of_getElem? h2, z.symm⟩)
    unfold setSees at *
    rw [List.map_cons, if_neg hq, List.set_cons_succ, ih]
theorem paired_some {α : Type} {H : Hp} {g : α → List V} {x : Addr} : ∀ {l : List Addr} {m : List α}, Paired (fun (t : Addr) (q : α) => H t = some (.lst (g q))) l m → x ∈ l → ∃ xs, H x = some (.lst xs)
  | _, _, .nil, h => by cases h
  | _, _, .cons r t, h => by
    rcases List.mem_cons.mp h with e | e
    · exact ⟨_, by rw [e]; exact r⟩
    · exact paired_some t e
theorem OwnAt.lists {H : Hp} {o og orr : Addr} {gts rts : List Addr} {N : NetD} (a : OwnAt H o og orr gts rts N) : ∀ x ∈ o :: og :: orr :: (gts ++ rts), ∃ xs, H x = some (.lst xs) := by
  intro x hx
  obtain ⟨ho, hg, hr, pg, pr, nd⟩ := a
  simp only [List.mem_cons, List.mem_append] at hx
  rcases hx with e | e | e | e | e
  · exact ⟨_, by rw [e]; exact ho⟩
  · exact ⟨_, by rw [e]; exact hg⟩
  · exact ⟨_, by rw [e]; exact hr⟩
  · exact paired_some (g := fun q : Str × Bool => [V.str q.1, V.bl q.2]) pg e
  · exact paired_some (g := roadVs) pr e
theorem OwnAt.fresh {H : Hp} {o og orr p : Addr} {gts rts : List Addr} {N : NetD} (a : OwnAt H o og orr gts rts N) (hp : H p = none) : p ∉ o :: og :: orr :: (gts ++ rts) := fun m => by
  obtain ⟨xs, e⟩ := a.lists p m
  rw [hp] at e
  cases e
end Toll

set_option Elab.async false
set_option maxRecDepth 100000
set_option maxHeartbeats 4000000
namespace Toll
open PySem L2
/-! ### lists told ahead, and their copies -/
def flatD : V → Option PyData
  | .int i => some (.int i)
  | .bl b => some (.bool b)
  | .str x => if PyData.strOk x = true then some (.str x) else none
  | _ => none
theorem flatD_str (x : Str) : flatD (.str x) = if PyData.strOk x = true then some (.str x) else none := rfl
/-- an item of a told list: an int, or a tuple of flat values -/
def ItemV (H : Hp) (v : V) (d : PyData) : Prop := (∃ i, v = .int i ∧ d = .int i) ∨ ∃ t xs ds, v = .ref t ∧ H t = some (.tup xs) ∧ Paired (fun x e => flatD x = some e) xs ds ∧ d = .tuple ds
theorem flatD_ok {v : V} {d : PyData} (h : flatD v = some d) : okD 0 d := by
  cases v with
  | int i => injection h with h; subst h; exact okD_int i
  | bl b => injection h with h; subst h; exact okD_bool b
  | str x =>
    by_cases hx : PyData.strOk x = true
    · rw [flatD_str, if_pos hx] at h
      injection h with h
      subst h
      exact okD_str hx
    · rw [flatD_str, if_neg hx] at h
      cases h
  | non => cases h
  | byt b => cases h
  | flt b => cases h
  | ref a => cases h
  | ty n => cases h
theorem flatD_dp {K : PySem.W.Frag} {H : Hp} {v : V} {d : PyData} (h : flatD v = some d) : Dp K H v d := by
  cases v with
  | int i => injection h with h; subst h; exact .int i
  | bl b => injection h with h; subst h; exact .bl b
  | str x =>
    rw [flatD_str] at h
    by_cases hx : PyData.strOk x = true
    · rw [if_pos hx] at h
      injection h with h
      subst h
      exact .str x
    · rw [if_neg hx] at h
      cases h
  | non => cases h
  | byt b => cases h
  | flt b => cases h
  | ref a => cases h
  | ty n => cases h
theorem flats_dp {K : PySem.W.Frag} {H : Hp} : ∀ {xs : List V} {ds : List PyData}, Paired (fun x e => flatD x = some e) xs ds → DpAll K H xs ds
  | _, _, .nil => .nil
  | _, _, .cons r t => .cons (flatD_dp r) (flats_dp t)
theorem flats_ok : ∀ {xs : List V} {ds : List PyData}, Paired (fun x e => flatD x = some e) xs ds → ∀ d ∈ ds, okD 0 d
  | _, _, .cons r t, d, h => by
    rcases List.mem_cons.mp h with e | e
    · rw [e]; exact flatD_ok r
    · exact flats_ok t d e
theorem ItemV.ok {H : Hp} {v : V} {d : PyData} (h : ItemV H v d) : okD 1 d := by
  rcases h with ⟨i, _, rfl⟩ | ⟨t, xs, ds, _, _, p, rfl⟩
  · exact ⟨(okD_int i).1, by have := (okD_int i).2; omega⟩
  · exact okD_tup (flats_ok p)
theorem ItemV.dp {K : PySem.W.Frag} {H : Hp} {v : V} {d : PyData} (h : ItemV H v d) : Dp K H v d := by
  rcases h with ⟨i, rfl, rfl⟩ | ⟨t, xs, ds, rfl, e, p, rfl⟩
  · exact .int i
  · exact .tup (SqT.of e) (flats_dp p)
theorem items_dp {K : PySem.W.Frag} {H : Hp} : ∀ {vs : List V} {ds : List PyData}, Paired (ItemV H) vs ds → DpAll K H vs ds
  | _, _, .nil => .nil
  | _, _, .cons r t => .cons r.dp (items_dp t)
theorem items_ok {H : Hp} : ∀ {vs : List V} {ds : List PyData}, Paired (ItemV H) vs ds → ∀ d ∈ ds, okD 1 d
  | _, _, .cons r t, d, h => by
    rcases List.mem_cons.mp h with e | e
    · rw [e]; exact r.ok
    · exact items_ok t d e
theorem ItemV.keep {S : List Addr} {H H' : Hp} (k : Keep S H H') (hS : ∀ a ∈ S, ∀ xs, H a ≠ some (.tup xs)) {v : V} {d : PyData} (h : ItemV H v d) : ItemV H' v d := by
  rcases h with h | ⟨t, xs, ds, e1, e2, p, e3⟩
  · exact .inl h
  · exact .inr ⟨t, xs, ds, e1, k t _ e2 fun m => hS t m _ e2, p, e3⟩
/-- one pair: two lists of the same items -/
def PairV (H : Hp) (v : V) : Prop := ∃ (q a b : Addr) (vs : List V) (ds : List PyData), v = .ref q ∧ H q = some (.lst [.ref a, .ref b]) ∧ H a = some (.lst vs) ∧ H b = some (.lst vs) ∧ Paired (ItemV H) vs ds
theorem PairV.keep {S : List Addr} {H H' : Hp} (k : Keep S H H') (hS : ∀ a ∈ S, ∀ xs, H a ≠ some (.tup xs)) {v : V} (h : PairV H v) (hn : ∀ q a b, v = .ref q → H q = some (.lst [.ref a, .ref b]) → q ∉ S ∧ a ∉ S ∧ b ∉ S) : PairV H' v := by
  obtain ⟨q, a, b, vs, ds, rfl, hq, ha, hb, p⟩ := h
  obtain ⟨n1, n2, n3⟩ := hn q a b rfl hq
  exact ⟨q, a, b, vs, ds, rfl, k _ _ hq n1, k _ _ ha n2, k _ _ hb n3, L2.Paired.mapP p fun _ _ h => h.keep k hS⟩
end Toll

set_option Elab.async false
set_option linter.all false
set_option maxRecDepth 100000
set_option maxHeartbeats 4000000
namespace L2
open PySem PySem.Spec PyProof.Rows
/-! xs[::k], k a number from 1 on: some of the items -/
theorem step_count (n : Nat) (st : Int) (h : 1 ≤ st) : (sliceRange 0 (n : Int) st).length ≤ n := by
  unfold sliceRange
  rw [List.length_map, List.length_range, if_pos (by omega)]
  split
  · have : ((n : Int) - 0 + st - 1) / st ≤ (n : Int) := by
      refine Int.ediv_le_of_le_mul (by omega) ?_
      have h1 : (n : Int) * 1 ≤ (n : Int) * st := Int.mul_le_mul_of_nonneg_left h (by omega)
      by_cases hn : n = 0
      · subst hn; omega
      · have : (n : Int) * st = ((n : Int) - 1) * st + st := by rw [Int.sub_mul]; omega
        have h2 : ((n : Int) - 1) * 1 ≤ ((n : Int) - 1) * st := Int.mul_le_mul_of_nonneg_left h (by omega)
        omega
    omega
  · simp
def stepV (xs : List V) (st : Int) : List V := (sliceRange 0 (xs.length : Int) st).filterMap (xs[·]?)
theorem stepV_len (xs : List V) (st : Int) (h : 1 ≤ st) : (stepV xs st).length ≤ xs.length := Nat.le_trans (List.length_filterMap_le _ _) (step_count _ st h)
theorem stepV_mem (xs : List V) (st : Int) : ∀ y ∈ stepV xs st, y ∈ xs := by
  intro y hy
  obtain ⟨i, _, e⟩ := List.mem_filterMap.mp hy
  exact List.mem_of_getElem? e
theorem vals_pick {xs : List V} {us : List Value} (r : Vals xs us) : ∀ (is : List Nat), Vals (is.filterMap (xs[·]?)) (is.filterMap (us[·]?))
  | [] => .nil
  | i :: is => by
    have ih := vals_pick r is
    cases e : xs[i]? with
    | none =>
      have e2 : us[i]? = none := by
        rw [List.getElem?_eq_none_iff] at e ⊢
        rw [← r.length]
        exact e
      rw [List.filterMap_cons_none e, List.filterMap_cons_none e2]
      exact ih
    | some x =>
      obtain ⟨u, e2, rx⟩ : ∃ u, us[i]? = some u ∧ RelV x u := Toll.paired_getL r e
      rw [List.filterMap_cons_some e, List.filterMap_cons_some e2]
      exact .cons rx ih
def rTupOf (K : PySem.W.Frag) : List V → Hp → VK → Prop := fun xs H Q => ∃ p ys, xs = [.ref p] ∧ ((SqL K H p ys ∧ ∀ l, H l = none → Q (.ref l) (upd H l (.tup ys))) ∨ (SqT K H p ys ∧ Q (.ref p) H))
def rListOf (K : PySem.W.Frag) : List V → Hp → VK → Prop := fun xs H Q => ∃ p ys, xs = [.ref p] ∧ (SqL K H p ys ∨ SqT K H p ys) ∧ ∀ l, H l = none → Q (.ref l) (upd H l (.lst ys))
def tStepL (K : PySem.W.Frag) (te ts : TE) : TE := fun σ H Q => te σ H fun x H1 => ts σ H1 fun y H2 => ∃ a xs st, x = .ref a ∧ y = .int st ∧ 1 ≤ st ∧ SqL K H2 a xs ∧ ∀ p, H2 p = none → Q (.ref p) (upd H2 p (.lst (stepV xs st)))
section
variable {X : Cx}
theorem pe_stepL {e es : Expr} {te ts : TE} {p3 pos : Pos} (he : PE X e te) (hs : PE X es ts) : PE X (.Subscript e (.Slice none none (some es) p3) pos) (tStepL X.K te ts) := by
  refine ⟨fun pins s σ H Q I h => ?_⟩
  refine Subscript_ (thn (he.run pins s σ H _ I h) fun v s1 ⟨x, H1, I1, r1, q1⟩ => ?_)
  refine wpAny_Slice (thn (po_none.run pins s1 σ H1 (fun o H2 => o = none ∧ H2 = H1) I1 ⟨rfl, rfl⟩) fun vl s2 ⟨l, H2, I2, pl, el, e2⟩ => ?_)
  subst el e2
  refine thn (po_none.run pins s2 σ H2 (fun o H3 => o = none ∧ H3 = H2) I2 ⟨rfl, rfl⟩) fun vu s3 ⟨u, H3, I3, pu, eu, e3⟩ => ?_
  subst eu e3
  rw [evalPart_some]
  refine thn (hs.run pins s3 σ H3 _ I3 q1) fun vs s4 ⟨y, H4, I4, ry, q4⟩ => ?_
  obtain ⟨a, xs, st, ex, ey, h1, hx, q⟩ := q4
  subst ex ey
  cases r1
  obtain ⟨tk, rfl⟩ := ry
  have I5 : Inv X pins σ H4 { s4 with heap := s4.heap.push { cls := .type "slice", data := .fields #[vl, vu, .int st tk] } } := I4.kept (t' := s4.toks) fun b ob q => Heap.get?_push_of_some _ q
  obtain ⟨its, r, ht, hz⟩ := I5.list hx
  have hlen := r.length
  show wpAny (model X.prog X.w) X.A (subscriptTail e (.Slice none none (some es) p3) (.ref a) (.ref s4.heap.objs.size)) (EP X pins σ Q) X.xe { s4 with heap := s4.heap.push { cls := .type "slice", data := .fields #[vl, vu, .int st tk] } }
  refine tail_any (ops := [.ref a, .ref s4.heap.objs.size]) ht.isList.typeIs (PySem.slot_list_getitem.lookup) ?_ (by with_unfolding_all rfl)
  refine wpAny_getItem_list_slice ht.isList (Heap.IsSliceOf.new _ vl vu (.int st tk)) pl pu (.int st tk) (by intro z; injection z with z; omega) ?_ (by rw [List.size_toArray]; omega)
  have hp : slicePick its.toArray none none (some st) = ((sliceRange 0 (xs.length : Int) st).filterMap (its[·]?)).toArray := by
    unfold slicePick
    have hb : sliceBounds none none (some st) its.toArray.size = (0, ((its.length : Nat) : Int), st) := by
      unfold sliceBounds
      simp only [Option.getD_some, List.size_toArray]
      rw [if_pos (by omega), if_pos (by omega)]
    rw [hb, hlen]
    simp only [List.getElem?_toArray]
  rw [hp]
  refine ⟨.ref _, _, I5.laid (t' := s4.toks) (o := .lst (stepV xs st)) (fun b ob q => Heap.get?_push_of_some _ q) (Nat.le_refl _) ?_, rfl, q _ (I5.hok.fresh (Nat.le_refl _))⟩
  exact ⟨Nat.le_trans (stepV_len xs st h1) hz, _, 0, vals_pick r _, Heap.get?_push_size _ rfl⟩
end
end L2

set_option Elab.async false
set_option linter.all false
set_option maxRecDepth 100000
set_option maxHeartbeats 4000000
namespace Toll
open PySem L2
theorem up_same {H H' : Hp} {a : Addr} {o : HO} (e : Same H H') (h : H a = some o) : H' a = some o := e a o h
theorem upd_at {H : Hp} {p a : Addr} {o u : HO} (n : a ≠ p) (h : H a = some u) : upd H p o a = some u := by rw [upd_ne n]; exact h
theorem passF {P : Program} {w : World} {X : Cx} : Passes (L2.CX P w) X E0 := fun _ _ _ _ _ _ _ h => by
  obtain ⟨_, _, _, _, _, _, _, _, _, _, _, _, h⟩ := h
  exact h.elim
theorem ixL_step {K : PySem.W.Frag} {H : Hp} {p : Addr} {xs : List V} {i : Int} {v : V} {Q : VK} (h : H p = some (.lst xs)) (a : atI xs i = some v) (q : Q v H) : rIxL K (.ref p) (.int i) H Q := ⟨p, xs, i, v, rfl, rfl, SqL.of h, a, q⟩
theorem ixT_step {K : PySem.W.Frag} {H : Hp} {p : Addr} {xs : List V} {i : Int} {v : V} {Q : VK} (h : H p = some (.tup xs)) (a : atI xs i = some v) (q : Q v H) : rIxT K (.ref p) (.int i) H Q := ⟨p, xs, i, v, rfl, rfl, SqT.of h, a, q⟩
theorem lenL_step {K : PySem.W.Frag} {H : Hp} {p : Addr} {xs : List V} {Q : VK} (h : H p = some (.lst xs)) (q : Q (.int xs.length) H) : (fun (vs : List V) H Q => ∃ p ys, vs = [V.ref p] ∧ (SqL K H p ys ∨ SqT K H p ys) ∧ Q (.int ys.length) H) [V.ref p] H Q := ⟨p, xs, rfl, .inl (SqL.of h), q⟩
theorem isi_step {K : PySem.W.Frag} {H : Hp} {x : V} {n t : String} {Q : VK} (b : Bool) (h : TyOf K H x (.type t)) (k : kitB t n = some b) (q : Q (.bl b) H) : rIsi K [x, V.ty n] H Q := ⟨x, .ty n, .type t, .type n, b, rfl, ClsV.ty _, TyX.base h, kit_ty k, q⟩
theorem gates_upd {H : Hp} {L : Addr} {xs : List V} {o : HO} {us : List V} {gs : List (Str × Bool)} (hL : H L = some (.lst xs)) (h : Paired (GateV H) us gs) : Paired (GateV (upd H L o)) us gs := L2.Paired.mapP h fun _ _ ⟨t, e, ht⟩ => ⟨t, e, by rw [upd_ne (ne_of ht hL (by intro z; cases z))]; exact ht⟩
theorem roads_upd {H : Hp} {L : Addr} {xs : List V} {o : HO} {us : List V} {rs : List RoadD} (hL : H L = some (.lst xs)) (h : Paired (RoadV H) us rs) : Paired (RoadV (upd H L o)) us rs := L2.Paired.mapP h fun _ _ ⟨t, e, ht⟩ => ⟨t, e, by rw [upd_ne (ne_of ht hL (by intro z; cases z))]; exact ht⟩
theorem map_ref_get {l : List Addr} {i : Nat} {x : V} (h : (l.map V.ref)[i]? = some x) : ∃ t, l[i]? = some t ∧ x = .ref t := by
  rw [List.getElem?_map] at h
  cases e : l[i]? with
  | none => rw [e] at h; cases h
  | some t => rw [e] at h; exact ⟨t, rfl, (Option.some.inj h).symm⟩
theorem Keep.free1 {c x : Addr} {H H' : Hp} (k : Keep [c] H H') (hc : H' c ≠ none) (h : H' x = none) : H x = none := by
  cases e : H x with
  | none => rfl
  | some o =>
    have hx : x ≠ c := fun z => hc (by rw [← z]; exact h)
    have := k x o e (by simpa using hx)
    rw [h] at this
    cases this
theorem sees_mem {gs : List (Str × Bool)} {q : Str × Bool} (h : q ∈ gs) : seesOf gs q.1 ≠ none := fun z => seesOf_none.mp z (List.mem_map.mpr ⟨q, h, rfl⟩)
theorem list_ne_tup {H : Hp} {k : Addr} {ps : List V} (hk : H k = some (.lst ps)) : ∀ a ∈ [k], ∀ xs, H a ≠ some (.tup xs) := fun a ha xs e => by
  rw [List.mem_singleton] at ha
  subst ha
  rw [hk] at e
  cases e
theorem DefOk.mono {P : Program} {w : World} {K : PySem.W.Frag} {mg : Str → Option Value} {base : Heap} {CX : CXT} {k : Nat} {f : Addr} {ps : List Str} {sp sp' : Sp} (h : DefOk P w K mg base CX k f ps sp) (m : ∀ vs H Q E, sp' vs H Q E → sp vs H Q E) : DefOk P w K mg base CX k f ps sp' := by
  obtain ⟨fd, F, B, kp⟩ := h
  exact ⟨fd, ⟨fun vs H Q E z => F.len _ _ _ _ (m _ _ _ _ z), fun A outer s H args us vs Q E hr e0 hb r z => F.run A outer s H args us vs Q E hr e0 hb r (m _ _ _ _ z)⟩, B, kp⟩
/-- a test's answer, new things made on the way -/
def AnsS (t : TT) (σ : L2.St) (H : Hp) (b : Bool) : Prop := ∀ Q : Bool → Hp → Prop, (∀ H', Same H H' → Q b H') → t σ H Q
theorem anS_of {t : TT} {σ : L2.St} {H : Hp} {b : Bool} (h : Ans t σ H b) : AnsS t σ H b := fun Q q => h Q (q H (Same.refl H))
theorem anS_or {t u : TT} {σ : L2.St} {H : Hp} {a b : Bool} (h1 : AnsS t σ H a) (h2 : a = false → ∀ H1, Same H H1 → AnsS u σ H1 b) : AnsS (tOr t u) σ H (a || b) := fun Q q => by
  refine h1 _ fun H1 s1 => ?_
  cases a with
  | true => exact q H1 s1
  | false => exact h2 rfl H1 s1 _ fun H2 s2 => q H2 (s1.trans s2)
theorem anS_and {t u : TT} {σ : L2.St} {H : Hp} {a b : Bool} (h1 : AnsS t σ H a) (h2 : a = true → ∀ H1, Same H H1 → AnsS u σ H1 b) : AnsS (tAnd t u) σ H (a && b) := fun Q q => by
  refine h1 _ fun H1 s1 => ?_
  cases a with
  | true => exact h2 rfl H1 s1 _ fun H2 s2 => q H2 (s1.trans s2)
  | false => exact q H1 s1
theorem seqS_if1 {c : TT} {t1 r : TS} {D : Ends} {σ : L2.St} {H : Hp} (b : Bool) (hc : AnsS c σ H b) (hT : b = true → ∀ H', Same H H' → t1 { D with nx := r D } σ H') (hF : b = false → ∀ H', Same H H' → r D σ H') : tSeq (tIfS c t1 tNext) r D σ H := by
  refine hc _ fun H' s => ?_
  cases b with
  | true => exact hT rfl H' s
  | false => exact hF rfl H' s
theorem doS_if1 {c : TT} {t1 : TS} {D : Ends} {σ : L2.St} {H : Hp} (b : Bool) (hc : AnsS c σ H b) (hT : b = true → ∀ H', Same H H' → t1 D σ H') (hF : b = false → ∀ H', Same H H' → D.nx σ H') : tIfS c t1 tNext D σ H := by
  refine hc _ fun H' s => ?_
  cases b with
  | true => exact hT rfl H' s
  | false => exact hF rfl H' s
theorem doS_if {c : TT} {t1 t2 : TS} {D : Ends} {σ : L2.St} {H : Hp} (b : Bool) (hc : AnsS c σ H b) (hT : b = true → ∀ H', Same H H' → t1 D σ H') (hF : b = false → ∀ H', Same H H' → t2 D σ H') : tIfS c t1 t2 D σ H := by
  refine hc _ fun H' s => ?_
  cases b with
  | true => exact hT rfl H' s
  | false => exact hF rfl H' s
end Toll

set_option Elab.async false
set_option linter.all false
set_option maxRecDepth 100000
set_option maxHeartbeats 4000000
namespace Toll
open PySem L2
/-! ### what is told, and kept: data -/
def gateD (q : Str × Bool) : PyData := .tuple [.str q.1, .bool q.2]
def roadD (r : RoadD) : PyData := .tuple [.str r.one, .str r.other, .int r.mi, .int r.tl, .bool r.op]
def NamesOk (N : NetD) : Prop := (∀ q ∈ N.gates, NameOk q.1) ∧ ∀ r ∈ N.roads, NameOk r.one ∧ NameOk r.other
theorem flatD_ok1 {x : Str} (h : NameOk x) : flatD (.str x) = some (.str x) := by
  rw [flatD_str, if_pos h.2.1]
theorem gates_items {H : Hp} : ∀ {us : List V} {gs : List (Str × Bool)}, Paired (GateV H) us gs → (∀ q ∈ gs, NameOk q.1) → Paired (ItemV H) us (gs.map gateD)
  | _, _, .nil, _ => .nil
  | _, q :: _, .cons ⟨t, e, ht⟩ r, h => .cons (.inr ⟨t, _, _, e, ht, .cons (flatD_ok1 (h q (List.mem_cons_self ..))) (.cons rfl .nil), rfl⟩) (gates_items r fun x hx => h x (List.mem_cons_of_mem _ hx))
theorem roads_items {H : Hp} : ∀ {us : List V} {rs : List RoadD}, Paired (RoadV H) us rs → (∀ r ∈ rs, NameOk r.one ∧ NameOk r.other) → Paired (ItemV H) us (rs.map roadD)
  | _, _, .nil, _ => .nil
  | _, q :: _, .cons ⟨t, e, ht⟩ r, h => .cons (.inr ⟨t, _, _, e, ht, .cons (flatD_ok1 (h q (List.mem_cons_self ..)).1) (.cons (flatD_ok1 (h q (List.mem_cons_self ..)).2) (.cons rfl (.cons rfl (.cons rfl .nil)))), rfl⟩) (roads_items r fun x hx => h x (List.mem_cons_of_mem _ hx))
theorem ints_items {H : Hp} : ∀ (ns : List Int), Paired (ItemV H) (ns.map V.int) (ns.map PyData.int)
  | [] => .nil
  | n :: ns => .cons (.inl ⟨n, rfl, rfl⟩) (ints_items ns)
/-- asked: two new lists of what the net holds -/
def AskedV (H H' : Hp) (N : NetD) (L1 L2 : Addr) : Prop := ∃ us1 us2, H L1 = none ∧ H L2 = none ∧ L1 ≠ L2 ∧ H' L1 = some (.lst us1) ∧ H' L2 = some (.lst us2) ∧ Paired (GateV H') us1 N.gates ∧ Paired (RoadV H') us2 N.roads
theorem AskedV.same {H H1 H2 : Hp} {N : NetD} {L1 L2 : Addr} (a : AskedV H H1 N L1 L2) (s : Same H1 H2) : AskedV H H2 N L1 L2 := by
  obtain ⟨us1, us2, n1, n2, ne, h1, h2, p1, p2⟩ := a
  exact ⟨us1, us2, n1, n2, ne, s _ _ h1, s _ _ h2, gatesV_same s p1, roads_same s p2⟩
/-- a pair that is new since H -/
def NewPair (H H' : Hp) (v : V) : Prop := ∃ (q a b : Addr) (vs : List V) (ds : List PyData), v = .ref q ∧ H q = none ∧ H a = none ∧ H b = none ∧ H' q = some (.lst [.ref a, .ref b]) ∧ H' a = some (.lst vs) ∧ H' b = some (.lst vs) ∧ Paired (ItemV H') vs ds
theorem ItemV.same {H H' : Hp} (s : Same H H') {v : V} {d : PyData} (h : ItemV H v d) : ItemV H' v d := by
  rcases h with h | ⟨t, xs, ds, e1, e2, p, e3⟩
  · exact .inl h
  · exact .inr ⟨t, xs, ds, e1, s _ _ e2, p, e3⟩
theorem items_same {H H' : Hp} (s : Same H H') {vs : List V} {ds : List PyData} (h : Paired (ItemV H) vs ds) : Paired (ItemV H') vs ds := L2.Paired.mapP h fun _ _ z => z.same s
theorem items_upd {H : Hp} {L : Addr} {xs : List V} {o : HO} {vs : List V} {ds : List PyData} (hL : H L = some (.lst xs)) (h : Paired (ItemV H) vs ds) : Paired (ItemV (upd H L o)) vs ds :=
  L2.Paired.mapP h fun v d z => by
    rcases z with z | ⟨t, ys, es, e1, e2, p, e3⟩
    · exact .inl z
    · exact .inr ⟨t, ys, es, e1, by rw [upd_ne (ne_of e2 hL (by intro z; cases z))]; exact e2, p, e3⟩
theorem NewPair.same {H H1 H2 : Hp} {v : V} (h : NewPair H H1 v) (s : Same H1 H2) : NewPair H H2 v := by
  obtain ⟨q, a, b, vs, ds, e, n1, n2, n3, h1, h2, h3, p⟩ := h
  exact ⟨q, a, b, vs, ds, e, n1, n2, n3, s _ _ h1, s _ _ h2, s _ _ h3, items_same s p⟩
/-- .. also while a list that was there, or that is none of the pair's, is written -/
theorem NewPair.upd {H H1 : Hp} {v : V} {L : Addr} {xs : List V} {o : HO} (h : NewPair H H1 v) (hL : H1 L = some (.lst xs)) (hn : H L ≠ none) : NewPair H (upd H1 L o) v := by
  obtain ⟨q, a, b, vs, ds, e, n1, n2, n3, h1, h2, h3, p⟩ := h
  have ne : ∀ x, H x = none → x ≠ L := fun x hx z => hn (by rw [← z]; exact hx)
  exact ⟨q, a, b, vs, ds, e, n1, n2, n3, by rw [upd_ne (ne q n1)]; exact h1, by rw [upd_ne (ne a n2)]; exact h2, by rw [upd_ne (ne b n3)]; exact h3, items_upd hL p⟩
/-! ### the lists told, apart from F -/
def KF (H : Hp) (F : List Addr) (ps : List V) : Prop := ∀ v ∈ ps, ∃ (q a b : Addr) (vs : List V) (ds : List PyData), v = .ref q ∧ H q = some (.lst [.ref a, .ref b]) ∧ H a = some (.lst vs) ∧ H b = some (.lst vs) ∧ Paired (ItemV H) vs ds ∧ q ∉ F ∧ a ∉ F ∧ b ∉ F
theorem KF.keep {H H' : Hp} {F S : List Addr} {ps : List V} (h : KF H F ps) (k : Keep S H H') (hs : ∀ x ∈ S, x ∈ F) (hS : ∀ a ∈ S, ∀ xs, H a ≠ some (.tup xs)) : KF H' F ps := fun v hv => by
  obtain ⟨q, a, b, vs, ds, e, h1, h2, h3, p, n1, n2, n3⟩ := h v hv
  exact ⟨q, a, b, vs, ds, e, k _ _ h1 fun m => n1 (hs _ m), k _ _ h2 fun m => n2 (hs _ m), k _ _ h3 fun m => n3 (hs _ m), L2.Paired.mapP p fun _ _ z => z.keep k hS, n1, n2, n3⟩
theorem KF.same {H H' : Hp} {F : List Addr} {ps : List V} (h : KF H F ps) (s : Same H H') : KF H' F ps := h.keep (S := []) (Keep.of_same s) (by simp) (by simp)
theorem KF.grow {H : Hp} {F F' : List Addr} {ps : List V} (h : KF H F ps) (hF : ∀ x ∈ F', x ∈ F ∨ H x = none) : KF H F' ps := fun v hv => by
  obtain ⟨q, a, b, vs, ds, e, h1, h2, h3, p, n1, n2, n3⟩ := h v hv
  have z : ∀ x o, H x = some o → x ∉ F → x ∉ F' := fun x o hx n m => by
    rcases hF x m with m | m
    · exact n m
    · rw [hx] at m
      cases m
  exact ⟨q, a, b, vs, ds, e, h1, h2, h3, p, z _ _ h1 n1, z _ _ h2 n2, z _ _ h3 n3⟩
theorem KF.app {H : Hp} {F : List Addr} {ps qs : List V} (h : KF H F ps) (h2 : KF H F qs) : KF H F (ps ++ qs) := fun v hv => by
  rcases List.mem_append.mp hv with hv | hv
  · exact h v hv
  · exact h2 v hv
theorem KF.new {H H' : Hp} {F : List Addr} {ps : List V} (h : ∀ v ∈ ps, NewPair H H' v) (hF : ∀ x ∈ F, H x ≠ none) : KF H' F ps := fun v hv => by
  obtain ⟨q, a, b, vs, ds, e, n1, n2, n3, h1, h2, h3, p⟩ := h v hv
  exact ⟨q, a, b, vs, ds, e, h1, h2, h3, p, fun m => hF _ m n1, fun m => hF _ m n2, fun m => hF _ m n3⟩
theorem KF.pairs {H : Hp} {F : List Addr} {ps : List V} (h : KF H F ps) : ∀ v ∈ ps, PairV H v := fun v hv => by
  obtain ⟨q, a, b, vs, ds, e, h1, h2, h3, p, _⟩ := h v hv
  exact ⟨q, a, b, vs, ds, e, h1, h2, h3, p⟩
/-! ### a net and the account of it, apart -/
def foot (g r o og orr : Addr) (gts rts : List Addr) : List Addr := g :: r :: o :: og :: orr :: (gts ++ rts)
structure Side (C : Addr) (H : Hp) (p g r o og orr : Addr) (gts rts : List Addr) (N : NetD) : Prop where
  net : NetAt C H p g r N
  own : OwnAt H o og orr gts rts N
  nm : NamesOk N
  ap : r ∉ o :: og :: orr :: (gts ++ rts)
section
variable {C : Addr} {H H' : Hp} {p g r o og orr : Addr} {gts rts : List Addr} {N : NetD}
theorem Side.known (s : Side C H p g r o og orr gts rts N) : ∀ x ∈ foot g r o og orr gts rts, ∃ u, H x = some u ∧ (∀ xs, u ≠ .tup xs) ∧ (∀ c d f, u ≠ .ins c d f) := by
  intro x hx
  unfold foot at hx
  rcases List.mem_cons.mp hx with e | hx
  · subst e
    exact ⟨_, s.net.gt, (by intro xs z; cases z), (by intro c d f z; cases z)⟩
  rcases List.mem_cons.mp hx with e | hx
  · subst e
    obtain ⟨us, h, _⟩ := s.net.rt
    exact ⟨_, h, (by intro xs z; cases z), (by intro c d f z; cases z)⟩
  obtain ⟨xs, h⟩ := s.own.lists x hx
  exact ⟨_, h, (by intro xs z; cases z), (by intro c d f z; cases z)⟩
theorem Side.noTup (s : Side C H p g r o og orr gts rts N) : ∀ a ∈ foot g r o og orr gts rts, ∀ xs, H a ≠ some (.tup xs) := fun a ha xs e => by
  obtain ⟨u, h, n, _⟩ := s.known a ha
  rw [e] at h
  exact n xs (Option.some.inj h).symm
theorem Side.there (s : Side C H p g r o og orr gts rts N) : ∀ x ∈ foot g r o og orr gts rts, H x ≠ none := fun x hx e => by
  obtain ⟨u, h, _⟩ := s.known x hx
  rw [e] at h
  cases h
theorem Side.pno (s : Side C H p g r o og orr gts rts N) {S : List Addr} (hS : ∀ x ∈ S, ∃ u, H x = some u ∧ ∀ c d f, u ≠ .ins c d f) : p ∉ S := fun m => by
  obtain ⟨u, h, n⟩ := hS p m
  obtain ⟨⟨dx, e⟩, _⟩ := s.net
  rw [e] at h
  exact n _ _ _ (Option.some.inj h).symm
/-- a side stands while what changes is none of its own, and no tuple, no instance -/
theorem Side.keep (s : Side C H p g r o og orr gts rts N) {S : List Addr} (k : Keep S H H') (hd : ∀ x ∈ S, x ∉ foot g r o og orr gts rts) (hS : ∀ x ∈ S, ∃ u, H x = some u ∧ (∀ xs, u ≠ .tup xs) ∧ ∀ c d f, u ≠ .ins c d f) : Side C H' p g r o og orr gts rts N := by
  have hp : p ∉ S := s.pno fun x hx => by obtain ⟨u, a, _, b⟩ := hS x hx; exact ⟨u, a, b⟩
  have ht : ∀ a ∈ S, ∀ xs, H a ≠ some (.tup xs) := fun a ha xs e => by
    obtain ⟨u, h, n, _⟩ := hS a ha
    rw [e] at h
    exact n xs (Option.some.inj h).symm
  refine ⟨s.net.keep k hp (fun m => hd _ m (by simp [foot])) (fun m => hd _ m (by simp [foot])) ht, s.own.keep k fun x hx m => hd x hx (by unfold foot; exact List.mem_cons_of_mem _ (List.mem_cons_of_mem _ m)), s.nm, s.ap⟩
theorem Side.same (s : Side C H p g r o og orr gts rts N) (e : Same H H') : Side C H' p g r o og orr gts rts N := s.keep (S := []) (Keep.of_same e) (by simp) (by simp)
/-- a deed at the net, then at the account -/
theorem Side.deed {H1 H2 : Hp} {gts' rts' : List Addr} {d : Deed} (s : Side C H p g r o og orr gts rts N) (hd : d.ok) (n1 : NetAt C H1 p g r (done N d)) (k1 : Keep [g, r] H H1)
    (o2 : OwnAt H2 o og orr gts' rts' (done N d)) (k2 : Keep (o :: og :: orr :: (gts ++ rts)) H1 H2) (f2 : ∀ x ∈ gts' ++ rts', x ∈ gts ++ rts ∨ H1 x = none) :
    Side C H2 p g r o og orr gts' rts' (done N d) ∧ Keep (foot g r o og orr gts rts) H H2 ∧ ∀ x ∈ foot g r o og orr gts' rts', x ∈ foot g r o og orr gts rts ∨ H x = none := by
  have kk : ∀ x ∈ o :: og :: orr :: (gts ++ rts), x ∉ [g, r] := fun x hx m => by
    rcases List.mem_cons.mp m with e | m
    · subst e
      obtain ⟨xs, h⟩ := s.own.lists x hx
      rw [s.net.gt] at h
      cases h
    · rw [List.mem_singleton] at m
      subst m
      exact s.ap hx
  have o1 : OwnAt H1 o og orr gts rts N := s.own.keep k1 fun x hx m => kk x m hx
  have hL : ∀ x ∈ o :: og :: orr :: (gts ++ rts), ∃ xs, H1 x = some (.lst xs) := o1.lists
  have fr : ∀ x, H1 x = none → H x = none := fun x hx => by
    cases e : H x with
    | none => rfl
    | some u =>
      by_cases m : x ∈ [g, r]
      · rcases List.mem_cons.mp m with z | m
        · subst z
          rw [n1.gt] at hx
          cases hx
        · rw [List.mem_singleton] at m
          subst m
          obtain ⟨us, h, _⟩ := n1.rt
          rw [h] at hx
          cases hx
      · have := k1 x u e m
        rw [hx] at this
        cases this
  refine ⟨⟨n1.keep k2 (fun m => ?_) (fun m => ?_) s.ap (fun a ha xs e => ?_), o2, ?_, fun m => ?_⟩, ?_, fun x hx => ?_⟩
  · obtain ⟨xs, h⟩ := hL p m
    obtain ⟨dx, e⟩ := n1.ob
    rw [e] at h
    cases h
  · obtain ⟨xs, h⟩ := hL g m
    rw [n1.gt] at h
    cases h
  · obtain ⟨ys, h⟩ := hL a ha
    rw [e] at h
    cases h
  · obtain ⟨a1, a2⟩ := s.nm
    cases d with
    | gate nm b =>
      refine ⟨fun q hq => ?_, a2⟩
      rcases List.mem_append.mp hq with hq | hq
      · exact a1 q hq
      · rw [List.mem_singleton] at hq
        subst hq
        exact hd
    | road one other mi tl =>
      refine ⟨a1, fun q hq => ?_⟩
      rcases List.mem_append.mp hq with hq | hq
      · exact a2 q hq
      · rw [List.mem_singleton] at hq
        subst hq
        exact hd
    | turn b nm =>
      refine ⟨fun q hq => ?_, a2⟩
      obtain ⟨q0, h0, e⟩ := List.mem_map.mp (show q ∈ setSees N.gates nm b from hq)
      have := a1 q0 h0
      split at e <;> (subst e; exact this)
    | lane b n =>
      show NamesOk (match N.roads[n.toNat]? with | none => N | some r => { N with roads := N.roads.set n.toNat { r with op := b } })
      cases e : N.roads[n.toNat]? with
      | none => exact ⟨a1, a2⟩
      | some rd =>
        refine ⟨a1, fun q hq => ?_⟩
        rcases List.mem_or_eq_of_mem_set hq with h | h
        · exact a2 q h
        · subst h
          exact a2 rd (List.mem_of_getElem? e)
  · have hr1 : H1 r ≠ none := by
      obtain ⟨us, h, _⟩ := n1.rt
      rw [h]
      simp
    have hap := s.ap
    simp only [List.mem_cons, not_or] at m hap
    rcases m with e | e | e | m
    · exact hap.1 e
    · exact hap.2.1 e
    · exact hap.2.2.1 e
    · rcases f2 r m with h | h
      · exact hap.2.2.2 h
      · exact hr1 h
  · refine (k1.mono fun x hx => ?_).trans (k2.mono fun x hx => ?_)
    · unfold foot
      simp only [List.mem_cons, List.not_mem_nil, or_false] at hx ⊢
      rcases hx with e | e <;> simp [e]
    · unfold foot
      exact List.mem_cons_of_mem _ (List.mem_cons_of_mem _ hx)
  · unfold foot at hx ⊢
    simp only [List.mem_cons] at hx ⊢
    rcases hx with e | e | e | e | e | m
    · exact .inl (.inl e)
    · exact .inl (.inr (.inl e))
    · exact .inl (.inr (.inr (.inl e)))
    · exact .inl (.inr (.inr (.inr (.inl e))))
    · exact .inl (.inr (.inr (.inr (.inr (.inl e)))))
    · rcases f2 x m with h | h
      · exact .inl (.inr (.inr (.inr (.inr (.inr h)))))
      · exact .inr (fr x h)
end
theorem Keep.trans2 {S T : List Addr} {H H1 H2 : Hp} (a : Keep S H H1) (b : Keep T H1 H2) (h : ∀ x ∈ T, x ∈ S ∨ H x = none) : Keep S H H2 := fun c o e n => b c o (a c o e n) fun m => by
  rcases h c m with z | z
  · exact n z
  · rw [e] at z
    cases z
theorem foot_fresh {S T : List Addr} {H H1 : Hp} {F : List Addr} (a : Keep S H H1) (hS : ∀ x ∈ S, H1 x ≠ none) (f1 : ∀ x ∈ T, x ∈ S ∨ H x = none) (f2 : ∀ x ∈ F, x ∈ T ∨ H1 x = none) : ∀ x ∈ F, x ∈ S ∨ H x = none := fun x hx => by
  rcases f2 x hx with h | h
  · exact f1 x h
  · refine .inr ?_
    cases e : H x with
    | none => rfl
    | some u =>
      by_cases m : x ∈ S
      · exact absurd h (hS x m)
      · have := a x u e m
        rw [h] at this
        cases this
theorem DeedV.keep {S : List Addr} {H H' : Hp} {v : V} {d : Deed} (k : Keep S H H') (hS : ∀ a ∈ S, ∀ xs, H a ≠ some (.tup xs)) (h : DeedV H v d) : DeedV H' v d := by
  obtain ⟨t, e, h⟩ := h
  exact ⟨t, e, k t _ h fun m => hS t m _ h⟩
/-! ### names that differ by a number -/
theorem nameOf_inj {b s t : Int} (hb : b % 3 = 1) (hs : 0 ≤ s) (ht : 0 ≤ t) (h : nameOf b s = nameOf b t) : s = t := by
  rw [nameOf_def, nameOf_def] at h
  have h := sx_inj h
  have e : ∀ u, nameL b u = (sg b).take (1 + b / 3 % 5).toNat ++ digs u := fun u => by
    unfold nameL
    rw [if_neg (by omega), if_pos (by omega)]
  rw [e, e, List.append_cancel_left_eq, digs_def, digs_def] at h
  have := TL.numL_inj h
  omega
def gatesF (b : Int) (n : Nat) : List (Str × Bool) := (List.range n).map fun k : Nat => (nameOf b (k : Int), decide ((k : Int) % 2 = 0))
def otherF (k : Int) : Int := k % 49 + 1 + (if k % 49 + 1 = k % 50 then 1 else 0)
def roadsF2 (b : Int) (n : Nat) : List RoadD := (List.range n).map fun k : Nat => ⟨nameOf b ((k : Int) % 50), nameOf b (otherF (k : Int)), 1 + (k : Int), (k : Int), true⟩
theorem gatesF_len (b : Int) (n : Nat) : (gatesF b n).length = n := by simp [gatesF]
theorem roadsF2_len (b : Int) (n : Nat) : (roadsF2 b n).length = n := by simp [roadsF2]
theorem gatesF_succ (b : Int) (n : Nat) : gatesF b (n + 1) = gatesF b n ++ [(nameOf b (n : Int), decide ((n : Int) % 2 = 0))] := by simp [gatesF, List.range_succ]
theorem roadsF2_succ (b : Int) (n : Nat) : roadsF2 b (n + 1) = roadsF2 b n ++ [⟨nameOf b ((n : Int) % 50), nameOf b (otherF (n : Int)), 1 + (n : Int), (n : Int), true⟩] := by simp [roadsF2, List.range_succ]
theorem gatesF_no {b : Int} (hb : b % 3 = 1) (n : Nat) : seesOf (gatesF b n) (nameOf b (n : Int)) = none := by
  rw [seesOf_none]
  intro m
  obtain ⟨q, hq, e⟩ := List.mem_map.mp m
  obtain ⟨k, hk, rfl⟩ := List.mem_map.mp hq
  have hk := List.mem_range.mp hk
  have := nameOf_inj hb (by omega) (by omega) e
  omega
theorem gatesF_yes (b : Int) (n : Nat) (t : Int) (h0 : 0 ≤ t) (h1 : t < n) : seesOf (gatesF b n) (nameOf b t) ≠ none := by
  intro z
  refine seesOf_none.mp z (List.mem_map.mpr ⟨(nameOf b t, decide (t % 2 = 0)), List.mem_map.mpr ⟨t.toNat, List.mem_range.mpr (by omega), ?_⟩, rfl⟩)
  rw [Int.toNat_of_nonneg h0]
/-- the deeds that fill a net -/
def fillDeed (b : Int) (n i : Nat) : Deed := if i < n then .gate (nameOf b (i : Int)) (decide ((i : Int) % 2 = 0)) else .road (nameOf b (((i - n : Nat) : Int) % 50)) (nameOf b (otherF ((i - n : Nat) : Int))) (1 + ((i - n : Nat) : Int)) ((i - n : Nat) : Int)
def fillNet (b : Int) (n i : Nat) : NetD := ⟨gatesF b (min i n), roadsF2 b (i - n)⟩
theorem fill_ok {b : Int} {n i : Nat} (hi : i < n + 200) (hn : n < 200) : (fillDeed b n i).ok := by
  unfold fillDeed
  split
  · exact nameOk_of (by omega) (by omega)
  · exact ⟨nameOk_of (by omega) (by omega), nameOk_of (by unfold otherF; split <;> omega) (by unfold otherF; split <;> omega)⟩
theorem fill_done {b : Int} {n i : Nat} : done (fillNet b n i) (fillDeed b n i) = fillNet b n (i + 1) := by
  unfold fillNet fillDeed
  by_cases h : i < n
  · rw [if_pos h, Nat.min_eq_left (by omega), Nat.min_eq_left (by omega), show i - n = 0 by omega, show i + 1 - n = 0 by omega, gatesF_succ]
    rfl
  · rw [if_neg h, Nat.min_eq_right (by omega), Nat.min_eq_right (by omega), show i + 1 - n = (i - n) + 1 by omega, roadsF2_succ]
    rfl
theorem fill_free {b : Int} {n i : Nat} (hb : b % 3 = 1) (hn : 55 ≤ n) (hn2 : n ≤ 60) (hi : i < n + 200) : refusal (fillNet b n i) (fillDeed b n i) = none := by
  unfold fillNet fillDeed
  by_cases h : i < n
  · rw [if_pos h, Nat.min_eq_left (by omega)]
    show (if seesOf (gatesF b i) _ ≠ none then some ("SameGate" : Str) else if 59 < (gatesF b i).length then some ("FullNet" : Str) else none) = none
    rw [if_neg (by rw [gatesF_no hb]; simp), if_neg (by rw [gatesF_len]; omega)]
  · rw [if_neg h, Nat.min_eq_right (by omega)]
    have hm : i - n < 200 := by omega
    generalize i - n = m at hm
    have h1 := gatesF_yes b n ((m : Int) % 50) (by omega) (by omega)
    have h2 := gatesF_yes b n (otherF (m : Int)) (by unfold otherF; split <;> omega) (by unfold otherF; split <;> omega)
    have h3 : ¬ nameOf b ((m : Int) % 50) = nameOf b (otherF (m : Int)) := fun e => by
      have := nameOf_inj hb (by omega) (by unfold otherF; split <;> omega) e
      unfold otherF at this
      split at this <;> omega
    show (if seesOf (gatesF b n) _ = none ∨ seesOf (gatesF b n) _ = none then some ("NoGate" : Str) else if _ = _ then some ("SameGate" : Str) else if ¬ (0 < _ ∧ _ < 1000001) ∨ ¬ (0 ≤ _ ∧ _ < 1000001) then some ("NoNumber" : Str) else if 199 < (roadsF2 b m).length then some ("FullNet" : Str) else none) = none
    rw [if_neg (by intro z; rcases z with z | z; exact h1 z; exact h2 z), if_neg h3, if_neg (by omega), if_neg (by rw [roadsF2_len]; omega)]
end Toll

set_option Elab.async false
set_option linter.all false
set_option maxRecDepth 100000
set_option maxHeartbeats 4000000
namespace Toll
open PySem L2
structure SD where
  p : Addr
  g : Addr
  r : Addr
  o : Addr
  og : Addr
  orr : Addr
  gts : List Addr
  rts : List Addr
  N : NetD
def SD.at (s : SD) (C : Addr) (H : Hp) : Prop := Side C H s.p s.g s.r s.o s.og s.orr s.gts s.rts s.N
def SD.foot (s : SD) : List Addr := Toll.foot s.g s.r s.o s.og s.orr s.gts s.rts
/-- two nets and their accounts, the lists told: all apart, all new since H0, none of it in W -/
structure Two (C : Addr) (H0 : Hp) (W : List Addr) (H : Hp) (k : Addr) (ps : List V) (s t : SD) : Prop where
  s1 : s.at C H
  t1 : t.at C H
  ap : ∀ x ∈ s.foot, x ∉ t.foot
  ks : k ∉ s.foot
  kt : k ∉ t.foot
  kl : H k = some (.lst ps)
  kf : KF H (k :: (s.foot ++ t.foot)) ps
  sm : Same H0 H
  nw : ∀ x ∈ k :: (s.foot ++ t.foot), H0 x = none ∧ x ∉ W
  wt : ∀ x ∈ W, H x ≠ none
section
variable {C k : Addr} {H0 H H2 : Hp} {W : List Addr} {ps : List V} {s t : SD}
theorem Two.swap (h : Two C H0 W H k ps s t) : Two C H0 W H k ps t s :=
  ⟨h.t1, h.s1, fun x hx m => h.ap x m hx, h.kt, h.ks, h.kl, h.kf.grow fun x hx => .inl (by simp only [List.mem_cons, List.mem_append] at hx ⊢; rcases hx with e | e | e <;> simp [e]), h.sm,
    fun x hx => h.nw x (by simp only [List.mem_cons, List.mem_append] at hx ⊢; rcases hx with e | e | e <;> simp [e]), h.wt⟩
theorem SD.listOrDict (h : s.at C H) : ∀ x ∈ s.foot, ∃ u, H x = some u ∧ (∀ xs, u ≠ .tup xs) ∧ ∀ c d f, u ≠ .ins c d f := Side.known h
theorem Two.same (h : Two C H0 W H k ps s t) (e : Same H H2) : Two C H0 W H2 k ps s t :=
  ⟨Side.same h.s1 e, Side.same h.t1 e, h.ap, h.ks, h.kt, e _ _ h.kl, h.kf.same e, h.sm.trans e, h.nw, fun x hx z => h.wt x hx (e.free z)⟩
theorem same_keep {S : List Addr} (a : Same H0 H) (b : Keep S H H2) (h : ∀ x ∈ S, H0 x = none) : Same H0 H2 := fun x o e => b x o (a x o e) fun m => by
  rw [h x m] at e
  cases e
theorem Two.deed (h : Two C H0 W H k ps s t) {s' : SD} (h2 : s'.at C H2) (kp : Keep s.foot H H2) (fr : ∀ x ∈ s'.foot, x ∈ s.foot ∨ H x = none) : Two C H0 W H2 k ps s' t := by
  have hs := SD.listOrDict h.s1
  have hkn : ∀ x, H x = none → H0 x = none ∧ x ∉ W := fun x hx => ⟨h.sm.free hx, fun m => h.wt x m hx⟩
  refine ⟨h2, Side.keep h.t1 kp h.ap hs, fun x hx m => ?_, fun m => ?_, h.kt, kp _ _ h.kl h.ks, ?_, same_keep h.sm kp fun x hx => (h.nw x (by simp [hx])).1, fun x hx => ?_, fun x hx z => ?_⟩
  · rcases fr x hx with e | e
    · exact h.ap x e m
    · exact Side.there h.t1 x m e
  · rcases fr k m with e | e
    · exact h.ks e
    · have := h.kl
      rw [e] at this
      cases this
  · have big : KF H (k :: (s.foot ++ s'.foot ++ t.foot)) ps := h.kf.grow fun x hx => by
      simp only [List.mem_cons, List.mem_append] at hx ⊢
      rcases hx with e | (e | e) | e
      · exact .inl (.inl e)
      · exact .inl (.inr (.inl e))
      · rcases fr x e with z | z
        · exact .inl (.inr (.inl z))
        · exact .inr z
      · exact .inl (.inr (.inr e))
    have big2 := big.keep kp (fun x hx => by simp [hx]) fun a ha xs e => by
      obtain ⟨u, hu, n, _⟩ := hs a ha
      rw [e] at hu
      exact n xs (Option.some.inj hu).symm
    exact big2.grow fun x hx => .inl (by simp only [List.mem_cons, List.mem_append] at hx ⊢; rcases hx with e | e | e <;> simp [e])
  · simp only [List.mem_cons, List.mem_append] at hx
    rcases hx with e | e | e
    · exact h.nw x (by simp [e])
    · rcases fr x e with z | z
      · exact h.nw x (by simp [z])
      · exact hkn x z
    · exact h.nw x (by simp [e])
  · obtain ⟨o, ho⟩ : ∃ o, H x = some o := by
      cases e : H x with
      | none => exact absurd e (h.wt x hx)
      | some o => exact ⟨o, rfl⟩
    have := kp x o ho fun m => (h.nw x (by simp [m])).2 hx
    rw [z] at this
    cases this
theorem Two.told (h : Two C H0 W H k ps s t) {news : List V} (kp : Keep [k] H H2) (e : H2 k = some (.lst (ps ++ news))) (hn : ∀ v ∈ news, NewPair H H2 v) : Two C H0 W H2 k (ps ++ news) s t := by
  have hk : ∀ x ∈ [k], ∃ u, H x = some u ∧ (∀ xs, u ≠ .tup xs) ∧ ∀ c d f, u ≠ .ins c d f := fun x hx => by
    rw [List.mem_singleton] at hx
    subst hx
    exact ⟨_, h.kl, (by intro xs z; cases z), (by intro c d f z; cases z)⟩
  refine ⟨Side.keep h.s1 kp (fun x hx => ?_) hk, Side.keep h.t1 kp (fun x hx => ?_) hk, h.ap, h.ks, h.kt, e, ?_, same_keep h.sm kp fun x hx => ?_, h.nw, fun x hx z => ?_⟩
  · rw [List.mem_singleton] at hx
    subst hx
    exact h.ks
  · rw [List.mem_singleton] at hx
    subst hx
    exact h.kt
  · refine (h.kf.keep kp (fun x hx => ?_) (list_ne_tup h.kl)).app (KF.new hn fun x hx z => ?_)
    · rw [List.mem_singleton] at hx
      simp [hx]
    · simp only [List.mem_cons, List.mem_append] at hx
      rcases hx with q | q | q
      · subst q
        rw [h.kl] at z
        cases z
      · exact Side.there h.s1 x q z
      · exact Side.there h.t1 x q z
  · rw [List.mem_singleton] at hx
    subst hx
    exact (h.nw _ (List.mem_cons_self ..)).1
  · obtain ⟨o, ho⟩ : ∃ o, H x = some o := by
      cases e : H x with
      | none => exact absurd e (h.wt x hx)
      | some o => exact ⟨o, rfl⟩
    have := kp x o ho fun m => by
      rw [List.mem_singleton] at m
      subst m
      exact (h.nw _ (List.mem_cons_self ..)).2 hx
    rw [z] at this
    cases this
theorem Two.watch (h : Two C H0 W H k ps s t) {S : List Addr} (kp : Keep S H H2) (hS : ∀ x ∈ S, x ∈ k :: (s.foot ++ t.foot)) {x : Addr} {o : HO} (hx : x ∈ W) (e : H x = some o) : H2 x = some o := kp x o e fun m => (h.nw x (hS x m)).2 hx
end
theorem refusal_ok {N : NetD} {d : Deed} {c : Str} (h : refusal N d = some c) : PyData.strOk c = true := by
  have l1 : PyData.strOk ("SameGate" : Str) = true := by decide +kernel
  have l2 : PyData.strOk ("FullNet" : Str) = true := by decide +kernel
  have l3 : PyData.strOk ("NoGate" : Str) = true := by decide +kernel
  have l4 : PyData.strOk ("NoNumber" : Str) = true := by decide +kernel
  have l5 : PyData.strOk ("Already" : Str) = true := by decide +kernel
  have l6 : PyData.strOk ("NoRoad" : Str) = true := by decide +kernel
  have z : ∀ {x : Str}, PyData.strOk x = true → some x = some c → PyData.strOk c = true := fun hx e => by
    rw [← Option.some.inj e]
    exact hx
  cases d with
  | gate nm b =>
    have h : (if seesOf N.gates nm ≠ none then some ("SameGate" : Str) else if 59 < N.gates.length then some ("FullNet" : Str) else none) = some c := h
    split at h
    · exact z l1 h
    · split at h
      · exact z l2 h
      · cases h
  | road one other mi tl =>
    have h : (if seesOf N.gates one = none ∨ seesOf N.gates other = none then some ("NoGate" : Str)
      else if one = other then some ("SameGate" : Str)
      else if ¬ (0 < mi ∧ mi < 1000001) ∨ ¬ (0 ≤ tl ∧ tl < 1000001) then some ("NoNumber" : Str)
      else if 199 < N.roads.length then some ("FullNet" : Str) else none) = some c := h
    split at h
    · exact z l3 h
    · split at h
      · exact z l1 h
      · split at h
        · exact z l4 h
        · split at h
          · exact z l2 h
          · cases h
  | turn b nm =>
    rw [refusal_turn] at h
    split at h
    · exact z l3 h
    · split at h
      · exact z l5 h
      · cases h
  | lane b n =>
    rw [refusal_lane] at h
    split at h
    · split at h
      · exact z l6 h
      · split at h
        · exact z l5 h
        · cases h
    · exact z l6 h
/-- what is due and what is found: alike -/
def Alike (H : Hp) (u v : V) : Prop := (∃ (L M : Addr) (c : Str), u = .ref L ∧ v = .ref M ∧ H L = some (.lst [.str c]) ∧ H M = some (.lst [.str c]) ∧ PyData.strOk c = true) ∨ (u = .non ∧ v = .non) ∨ ∃ i, u = .int i ∧ v = .int i
theorem Alike.dp {K : PySem.W.Frag} {H : Hp} {u v : V} (h : Alike H u v) : ∃ d, Dp K H u d ∧ Dp K H v d ∧ okD 1 d := by
  rcases h with ⟨L, M, c, rfl, rfl, h1, h2, ok⟩ | ⟨rfl, rfl⟩ | ⟨i, rfl, rfl⟩
  · refine ⟨.list [.str c], .lst (SqL.of h1) (.cons (.str _) .nil), .lst (SqL.of h2) (.cons (.str _) .nil), okD_list fun d hd => ?_⟩
    rw [List.mem_singleton] at hd
    rw [hd]
    exact okD_str ok
  · exact ⟨.none, .non, .non, ⟨by simp [PyData.canLay0], by simp [PyData.depth]⟩⟩
  · exact ⟨.int i, .int i, .int i, ⟨(okD_int i).1, by have := (okD_int i).2; omega⟩⟩
theorem Two.mk0 {C k : Addr} {H0 Hb H : Hp} {W : List Addr} {p0 g0 r0 o0 a0 b0 : Addr} {gts rts : List Addr} {N : NetD} {t : SD} (sb : Same H0 Hb) (f0 : ∀ y ∈ foot g0 r0 o0 a0 b0 [] [], H0 y = none) (f1 : ∀ y ∈ t.foot, H0 y = none) (hd : ∀ y ∈ foot g0 r0 o0 a0 b0 [] [], y ∉ t.foot)
    (w0 : ∀ y ∈ W, y ∉ foot g0 r0 o0 a0 b0 [] [] ∧ y ∉ t.foot ∧ Hb y ≠ none) (S0b : Side C Hb p0 g0 r0 o0 a0 b0 [] [] ⟨[], []⟩) (S1 : t.at C Hb) (S0 : Side C H p0 g0 r0 o0 a0 b0 gts rts N) (kp : Keep (foot g0 r0 o0 a0 b0 [] []) Hb H)
    (fr : ∀ x ∈ foot g0 r0 o0 a0 b0 gts rts, x ∈ foot g0 r0 o0 a0 b0 [] [] ∨ Hb x = none) (nk : H k = none) : Two C H0 W (upd H k (.lst [])) k [] ⟨p0, g0, r0, o0, a0, b0, gts, rts, N⟩ t := by
  have S1' : t.at C H := Side.keep S1 kp hd (Side.known S0b)
  have sm : Same H0 H := same_keep sb kp f0
  have wk : ∀ y ∈ W, H y ≠ none := fun y hy z => by
    obtain ⟨n0, n1, ny⟩ := w0 y hy
    cases e : Hb y with
    | none => exact ny e
    | some o =>
      have := kp y o e n0
      rw [z] at this
      cases this
  refine ⟨Side.same S0 (same_up nk), Side.same S1' (same_up nk), fun x hx m => ?_, fun m => Side.there S0 k m nk, fun m => Side.there S1' k m nk, upd_same, (by intro v hv; cases hv), sm.trans (same_up nk), fun x hx => ?_, fun x hx z => wk x hx ((same_up nk).free z)⟩
  · rcases fr x hx with e | e
    · exact hd x e m
    · exact Side.there S1 x m e
  · rcases List.mem_cons.mp hx with e | hx
    · subst e
      exact ⟨sm.free nk, fun m => wk _ m nk⟩
    · rcases List.mem_append.mp hx with hx | hx
      · rcases fr x hx with e | e
        · exact ⟨f0 x e, fun m => (w0 x m).1 e⟩
        · exact ⟨sb.free e, fun m => (w0 x m).2.2 e⟩
      · exact ⟨f1 x hx, fun m => (w0 x m).2.1 hx⟩
end Toll

set_option Elab.async false
set_option maxRecDepth 100000
set_option maxHeartbeats 4000000
namespace Toll
open PySem L2
local macro_rules | `(tactic| walk_at "go1") => `(tactic| first
  | refine ⟨_, rfl, ?_⟩
  | refine ⟨rfl, ?_⟩
  | refine ⟨_, _, rfl, rfl, ?_⟩
  | refine ⟨_, _, rfl, ?_⟩
  | (with_reducible refine' ⟨log_small ?k1 ?k2, ?_⟩; (case k1 => omega); (case k2 => omega))
  | (refine' ⟨?k1, ?_⟩; (case k1 => ((with_reducible show (_ : Int) < _); omega)))
  | (refine' ⟨⟨?k1, ?k2⟩, ?_⟩; (case k1 => omega); (case k2 => omega))
  | (refine' ⟨⟨?k1, ?k2, ?k3, ?k4⟩, ?_⟩; (case k1 => omega); (case k2 => omega); (case k3 => omega); (case k4 => omega))
  | (refine' ⟨.inl ⟨?k1, ?k2⟩, ?_⟩; (case k1 => omega); (case k2 => omega))
  | (refine' ⟨.inr ⟨?k1, ?k2⟩, ?_⟩; (case k1 => omega); (case k2 => omega))
  | (refine' ⟨Evl.sz_of ?k1, ?_⟩; (case k1 => omega))
  | (refine' ⟨?k1, ?_⟩; (case k1 => ((with_reducible show (_ : Int) ≤ _); omega)))
  | refine ⟨⟨_, rfl⟩, ?_⟩
  | refine .inl ⟨_, rfl, ?_⟩ | refine .inr ⟨_, rfl, ?_⟩
  | refine iteT ?_ | refine iteF ?_)
local macro_rules | `(tactic| walk_at "go") => `(tactic| repeat (walk_at "go1"))
local macro_rules | `(tactic| walk_at "ans") => `(tactic| (intro Q' q'; walk_at "go"; (try rw [dec_int]); (try rw [dec_str]); exact q'))
def top (i : Nat) : Stmt := PySem.Challenge.pw_tollguess_k02_net_deed_by_deed.main.body.getD i (.Pass ⟨0, 0, 0, 0⟩)
def k_SMALL_SIGNS : Str := "abcdefghijklmnopqrstuvwxyz"
def k_NAME_SIGNS : Str := "abcdefghijklmnopqrstuvwxyz0123456789"
abbrev s_is_name : Stmt := top 17
abbrev n_is_name : List Str := ["text", "sign"]
theorem sc_is_name : FnScope n_is_name ["text"] (defScope s_is_name) := ⟨rfl, rfl, rfl, by decide +kernel, rfl, by decide +kernel, by decide +kernel⟩
abbrev s_N_init : Stmt := inClass (top 18) 0
abbrev n_N_init : List Str := ["self"]
theorem sc_N_init : FnScope n_N_init ["self"] (defScope s_N_init) := ⟨rfl, rfl, rfl, by decide +kernel, rfl, by decide +kernel, by decide +kernel⟩
abbrev s_N_gate : Stmt := inClass (top 18) 1
abbrev n_N_gate : List Str := ["self", "name", "sees"]
theorem sc_N_gate : FnScope n_N_gate ["self", "name", "sees"] (defScope s_N_gate) := ⟨rfl, rfl, rfl, by decide +kernel, rfl, by decide +kernel, by decide +kernel⟩
abbrev s_N_road : Stmt := inClass (top 18) 2
abbrev n_N_road : List Str := ["self", "one", "other", "minutes", "toll"]
theorem sc_N_road : FnScope n_N_road ["self", "one", "other", "minutes", "toll"] (defScope s_N_road) := ⟨rfl, rfl, rfl, by decide +kernel, rfl, by decide +kernel, by decide +kernel⟩
abbrev s_N_blind : Stmt := inClass (top 18) 3
abbrev n_N_blind : List Str := ["self", "name"]
theorem sc_N_blind : FnScope n_N_blind ["self", "name"] (defScope s_N_blind) := ⟨rfl, rfl, rfl, by decide +kernel, rfl, by decide +kernel, by decide +kernel⟩
abbrev s_N_mend : Stmt := inClass (top 18) 4
abbrev n_N_mend : List Str := ["self", "name"]
theorem sc_N_mend : FnScope n_N_mend ["self", "name"] (defScope s_N_mend) := ⟨rfl, rfl, rfl, by decide +kernel, rfl, by decide +kernel, by decide +kernel⟩
abbrev s_N_close : Stmt := inClass (top 18) 5
abbrev n_N_close : List Str := ["self", "number"]
theorem sc_N_close : FnScope n_N_close ["self", "number"] (defScope s_N_close) := ⟨rfl, rfl, rfl, by decide +kernel, rfl, by decide +kernel, by decide +kernel⟩
abbrev s_N_reopen : Stmt := inClass (top 18) 6
abbrev n_N_reopen : List Str := ["self", "number"]
theorem sc_N_reopen : FnScope n_N_reopen ["self", "number"] (defScope s_N_reopen) := ⟨rfl, rfl, rfl, by decide +kernel, rfl, by decide +kernel, by decide +kernel⟩
abbrev s_N_gates : Stmt := inClass (top 18) 7
abbrev n_N_gates : List Str := ["self"]
theorem sc_N_gates : FnScope n_N_gates ["self"] (defScope s_N_gates) := ⟨rfl, rfl, rfl, by decide +kernel, rfl, by decide +kernel, by decide +kernel⟩
abbrev s_N_roads : Stmt := inClass (top 18) 8
abbrev n_N_roads : List Str := ["self"]
theorem sc_N_roads : FnScope n_N_roads ["self"] (defScope s_N_roads) := ⟨rfl, rfl, rfl, by decide +kernel, rfl, by decide +kernel, by decide +kernel⟩
abbrev s_N_leaving : Stmt := inClass (top 18) 9
abbrev n_N_leaving : List Str := ["self", "name", "numbers", "number", "one", "other", "minutes", "toll", "is_open"]
theorem sc_N_leaving : FnScope n_N_leaving ["self", "name"] (defScope s_N_leaving) := ⟨rfl, rfl, rfl, by decide +kernel, rfl, by decide +kernel, by decide +kernel⟩
abbrev s_N_need_gate : Stmt := inClass (top 18) 10
abbrev n_N_need_gate : List Str := ["self", "name"]
theorem sc_N_need_gate : FnScope n_N_need_gate ["self", "name"] (defScope s_N_need_gate) := ⟨rfl, rfl, rfl, by decide +kernel, rfl, by decide +kernel, by decide +kernel⟩
abbrev s_N__turn_gate : Stmt := inClass (top 18) 11
abbrev n_N__turn_gate : List Str := ["self", "name", "sees"]
theorem sc_N__turn_gate : FnScope n_N__turn_gate ["self", "name", "sees"] (defScope s_N__turn_gate) := ⟨rfl, rfl, rfl, by decide +kernel, rfl, by decide +kernel, by decide +kernel⟩
abbrev s_N__turn_road : Stmt := inClass (top 18) 12
abbrev n_N__turn_road : List Str := ["self", "number", "is_open", "one", "other", "minutes", "toll", "was_open"]
theorem sc_N__turn_road : FnScope n_N__turn_road ["self", "number", "is_open"] (defScope s_N__turn_road) := ⟨rfl, rfl, rfl, by decide +kernel, rfl, by decide +kernel, by decide +kernel⟩
abbrev s_l_cell_at : Stmt := top 20
abbrev n_l_cell_at : List Str := ["_law_script", "_law_k"]
theorem sc_l_cell_at : FnScope n_l_cell_at ["_law_script", "_law_k"] (defScope s_l_cell_at) := ⟨rfl, rfl, rfl, by decide +kernel, rfl, by decide +kernel, by decide +kernel⟩
abbrev s_l_whole : Stmt := top 21
abbrev n_l_whole : List Str := ["_law_found"]
theorem sc_l_whole : FnScope n_l_whole ["_law_found"] (defScope s_l_whole) := ⟨rfl, rfl, rfl, by decide +kernel, rfl, by decide +kernel, by decide +kernel⟩
abbrev s_l_mixed : Stmt := top 22
abbrev n_l_mixed : List Str := ["_law_script", "_law_k", "_law_cell", "_law_more"]
theorem sc_l_mixed : FnScope n_l_mixed ["_law_script", "_law_k"] (defScope s_l_mixed) := ⟨rfl, rfl, rfl, by decide +kernel, rfl, by decide +kernel, by decide +kernel⟩
abbrev s_l_name : Stmt := top 23
abbrev n_l_name : List Str := ["_law_base", "_law_turn", "_law_some", "_law_signs", "_law_size", "_law_at", "_law_k"]
theorem sc_l_name : FnScope n_l_name ["_law_base", "_law_turn"] (defScope s_l_name) := ⟨rfl, rfl, rfl, by decide +kernel, rfl, by decide +kernel, by decide +kernel⟩
abbrev s_l_some_number : Stmt := top 24
abbrev n_l_some_number : List Str := ["_law_number", "_law_low", "_law_high", "_law_way"]
theorem sc_l_some_number : FnScope n_l_some_number ["_law_number", "_law_low", "_law_high"] (defScope s_l_some_number) := ⟨rfl, rfl, rfl, by decide +kernel, rfl, by decide +kernel, by decide +kernel⟩
abbrev s_l_net_deed : Stmt := top 25
abbrev n_l_net_deed : List Str := ["_law_number", "_law_other", "_law_base", "_law_own", "_law_word", "_law_size", "_law_names", "_law_minutes"]
theorem sc_l_net_deed : FnScope n_l_net_deed ["_law_number", "_law_other", "_law_base", "_law_own"] (defScope s_l_net_deed) := ⟨rfl, rfl, rfl, by decide +kernel, rfl, by decide +kernel, by decide +kernel⟩
abbrev s_l_refusal : Stmt := top 26
abbrev n_l_refusal : List Str := ["_law_own", "_law_deed", "_law_names", "_law_gate"]
theorem sc_l_refusal : FnScope n_l_refusal ["_law_own", "_law_deed"] (defScope s_l_refusal) := ⟨rfl, rfl, rfl, by decide +kernel, rfl, by decide +kernel, by decide +kernel⟩
abbrev s_l_done : Stmt := top 27
abbrev n_l_done : List Str := ["_law_own", "_law_deed", "_law_names", "_law_gate"]
theorem sc_l_done : FnScope n_l_done ["_law_own", "_law_deed"] (defScope s_l_done) := ⟨rfl, rfl, rfl, by decide +kernel, rfl, by decide +kernel, by decide +kernel⟩
abbrev s_l_tried : Stmt := top 28
abbrev n_l_tried : List Str := ["_law_net", "_law_deed"]
theorem sc_l_tried : FnScope n_l_tried ["_law_net", "_law_deed"] (defScope s_l_tried) := ⟨rfl, rfl, rfl, by decide +kernel, rfl, by decide +kernel, by decide +kernel⟩
abbrev s_l_net_stands : Stmt := top 29
abbrev n_l_net_stands : List Str := ["_law_net", "_law_own", "_law_kept", "_law_asked", "_law_gate", "_law_line", "_law_numbers", "_law_due", "_law_one", "_law_k"]
theorem sc_l_net_stands : FnScope n_l_net_stands ["_law_net", "_law_own", "_law_kept"] (defScope s_l_net_stands) := ⟨rfl, rfl, rfl, by decide +kernel, rfl, by decide +kernel, by decide +kernel⟩
abbrev s_l_kept_well : Stmt := top 30
abbrev n_l_kept_well : List Str := ["_law_kept", "_law_pair"]
theorem sc_l_kept_well : FnScope n_l_kept_well ["_law_kept"] (defScope s_l_kept_well) := ⟨rfl, rfl, rfl, by decide +kernel, rfl, by decide +kernel, by decide +kernel⟩
abbrev s_l_filled : Stmt := top 31
abbrev n_l_filled : List Str := ["_law_net", "_law_own", "_law_base", "_law_deeds", "_law_k", "_law_other", "_law_deed"]
theorem sc_l_filled : FnScope n_l_filled ["_law_net", "_law_own", "_law_base"] (defScope s_l_filled) := ⟨rfl, rfl, rfl, by decide +kernel, rfl, by decide +kernel, by decide +kernel⟩
abbrev s_law : Stmt := top 32
abbrev n_law : List Str := ["_law_script", "_law_nets", "_law_owns", "_law_base", "_law_kept", "_law_k", "_law_at", "_law_deed", "_law_due", "_law_found"]
theorem sc_law : FnScope n_law ["_law_script"] (defScope s_law) := ⟨rfl, rfl, rfl, by decide +kernel, rfl, by decide +kernel, by decide +kernel⟩
structure Ads where
  is_name : Addr
  N_init : Addr
  N_gate : Addr
  N_road : Addr
  N_blind : Addr
  N_mend : Addr
  N_close : Addr
  N_reopen : Addr
  N_gates : Addr
  N_roads : Addr
  N_leaving : Addr
  N_need_gate : Addr
  N__turn_gate : Addr
  N__turn_road : Addr
  l_cell_at : Addr
  l_whole : Addr
  l_mixed : Addr
  l_name : Addr
  l_some_number : Addr
  l_net_deed : Addr
  l_refusal : Addr
  l_done : Addr
  l_tried : Addr
  l_net_stands : Addr
  l_kept_well : Addr
  l_filled : Addr
  law : Addr
  C_Net : Addr
  C_NoName : Addr
  C_SameGate : Addr
  C_FullNet : Addr
  C_NoGate : Addr
  C_NoNumber : Addr
  C_NoRoad : Addr
  C_Already : Addr
  tSMALL_SIGNS : Tok
  tMOST_SIGNS : Tok
  tNAME_SIGNS : Tok
  tMOST_GATES : Tok
  tMOST_ROADS : Tok
  tMOST_MINUTES : Tok
  tMOST_TOLL : Tok
structure Txt (K : PySem.W.Frag) (mg : Str → Option Value) (A : Ads) : Prop where
  m_is_name : mg "is_name" = some (.ref A.is_name)
  F_is_name : ∃ fd, Fun K "is_name" "is_name" s_is_name A.is_name fd
  M_N_init : Meth K A.C_Net "__init__" A.N_init
  F_N_init : ∃ fd, Fun K "__init__" "Net.__init__" s_N_init A.N_init fd
  M_N_gate : Meth K A.C_Net "gate" A.N_gate
  F_N_gate : ∃ fd, Fun K "gate" "Net.gate" s_N_gate A.N_gate fd
  M_N_road : Meth K A.C_Net "road" A.N_road
  F_N_road : ∃ fd, Fun K "road" "Net.road" s_N_road A.N_road fd
  M_N_blind : Meth K A.C_Net "blind" A.N_blind
  F_N_blind : ∃ fd, Fun K "blind" "Net.blind" s_N_blind A.N_blind fd
  M_N_mend : Meth K A.C_Net "mend" A.N_mend
  F_N_mend : ∃ fd, Fun K "mend" "Net.mend" s_N_mend A.N_mend fd
  M_N_close : Meth K A.C_Net "close" A.N_close
  F_N_close : ∃ fd, Fun K "close" "Net.close" s_N_close A.N_close fd
  M_N_reopen : Meth K A.C_Net "reopen" A.N_reopen
  F_N_reopen : ∃ fd, Fun K "reopen" "Net.reopen" s_N_reopen A.N_reopen fd
  M_N_gates : Meth K A.C_Net "gates" A.N_gates
  F_N_gates : ∃ fd, Fun K "gates" "Net.gates" s_N_gates A.N_gates fd
  M_N_roads : Meth K A.C_Net "roads" A.N_roads
  F_N_roads : ∃ fd, Fun K "roads" "Net.roads" s_N_roads A.N_roads fd
  M_N_leaving : Meth K A.C_Net "leaving" A.N_leaving
  F_N_leaving : ∃ fd, Fun K "leaving" "Net.leaving" s_N_leaving A.N_leaving fd
  M_N_need_gate : Meth K A.C_Net "need_gate" A.N_need_gate
  F_N_need_gate : ∃ fd, Fun K "need_gate" "Net.need_gate" s_N_need_gate A.N_need_gate fd
  M_N__turn_gate : Meth K A.C_Net "_turn_gate" A.N__turn_gate
  F_N__turn_gate : ∃ fd, Fun K "_turn_gate" "Net._turn_gate" s_N__turn_gate A.N__turn_gate fd
  M_N__turn_road : Meth K A.C_Net "_turn_road" A.N__turn_road
  F_N__turn_road : ∃ fd, Fun K "_turn_road" "Net._turn_road" s_N__turn_road A.N__turn_road fd
  m_l_cell_at : mg "_law_cell_at" = some (.ref A.l_cell_at)
  F_l_cell_at : ∃ fd, Fun K "_law_cell_at" "_law_cell_at" s_l_cell_at A.l_cell_at fd
  m_l_whole : mg "_law_whole" = some (.ref A.l_whole)
  F_l_whole : ∃ fd, Fun K "_law_whole" "_law_whole" s_l_whole A.l_whole fd
  m_l_mixed : mg "_law_mixed" = some (.ref A.l_mixed)
  F_l_mixed : ∃ fd, Fun K "_law_mixed" "_law_mixed" s_l_mixed A.l_mixed fd
  m_l_name : mg "_law_name" = some (.ref A.l_name)
  F_l_name : ∃ fd, Fun K "_law_name" "_law_name" s_l_name A.l_name fd
  m_l_some_number : mg "_law_some_number" = some (.ref A.l_some_number)
  F_l_some_number : ∃ fd, Fun K "_law_some_number" "_law_some_number" s_l_some_number A.l_some_number fd
  m_l_net_deed : mg "_law_net_deed" = some (.ref A.l_net_deed)
  F_l_net_deed : ∃ fd, Fun K "_law_net_deed" "_law_net_deed" s_l_net_deed A.l_net_deed fd
  m_l_refusal : mg "_law_refusal" = some (.ref A.l_refusal)
  F_l_refusal : ∃ fd, Fun K "_law_refusal" "_law_refusal" s_l_refusal A.l_refusal fd
  m_l_done : mg "_law_done" = some (.ref A.l_done)
  F_l_done : ∃ fd, Fun K "_law_done" "_law_done" s_l_done A.l_done fd
  m_l_tried : mg "_law_tried" = some (.ref A.l_tried)
  F_l_tried : ∃ fd, Fun K "_law_tried" "_law_tried" s_l_tried A.l_tried fd
  m_l_net_stands : mg "_law_net_stands" = some (.ref A.l_net_stands)
  F_l_net_stands : ∃ fd, Fun K "_law_net_stands" "_law_net_stands" s_l_net_stands A.l_net_stands fd
  m_l_kept_well : mg "_law_kept_well" = some (.ref A.l_kept_well)
  F_l_kept_well : ∃ fd, Fun K "_law_kept_well" "_law_kept_well" s_l_kept_well A.l_kept_well fd
  m_l_filled : mg "_law_filled" = some (.ref A.l_filled)
  F_l_filled : ∃ fd, Fun K "_law_filled" "_law_filled" s_l_filled A.l_filled fd
  m_law : mg "law" = some (.ref A.law)
  F_law : ∃ fd, Fun K "law" "law" s_law A.law fd
  g_Net : mg "Net" = some (.ref A.C_Net)
  c_Net : Cls K A.C_Net
  M_Net : Mk K A.C_Net A.N_init
  na_Net__gates : NoAttr K A.C_Net "_gates"
  na_Net__roads : NoAttr K A.C_Net "_roads"
  e_NoName : ErrC K mg "NoName" A.C_NoName
  e_SameGate : ErrC K mg "SameGate" A.C_SameGate
  e_FullNet : ErrC K mg "FullNet" A.C_FullNet
  e_NoGate : ErrC K mg "NoGate" A.C_NoGate
  e_NoNumber : ErrC K mg "NoNumber" A.C_NoNumber
  e_NoRoad : ErrC K mg "NoRoad" A.C_NoRoad
  e_Already : ErrC K mg "Already" A.C_Already
  v_NoName_NoName : PySem.W.subIn K (.ref A.C_NoName) (.ref A.C_NoName) = some true
  v_NoName_SameGate : PySem.W.subIn K (.ref A.C_NoName) (.ref A.C_SameGate) = some false
  v_NoName_FullNet : PySem.W.subIn K (.ref A.C_NoName) (.ref A.C_FullNet) = some false
  v_NoName_NoGate : PySem.W.subIn K (.ref A.C_NoName) (.ref A.C_NoGate) = some false
  v_NoName_NoNumber : PySem.W.subIn K (.ref A.C_NoName) (.ref A.C_NoNumber) = some false
  v_NoName_NoRoad : PySem.W.subIn K (.ref A.C_NoName) (.ref A.C_NoRoad) = some false
  v_NoName_Already : PySem.W.subIn K (.ref A.C_NoName) (.ref A.C_Already) = some false
  v_SameGate_NoName : PySem.W.subIn K (.ref A.C_SameGate) (.ref A.C_NoName) = some false
  v_SameGate_SameGate : PySem.W.subIn K (.ref A.C_SameGate) (.ref A.C_SameGate) = some true
  v_SameGate_FullNet : PySem.W.subIn K (.ref A.C_SameGate) (.ref A.C_FullNet) = some false
  v_SameGate_NoGate : PySem.W.subIn K (.ref A.C_SameGate) (.ref A.C_NoGate) = some false
  v_SameGate_NoNumber : PySem.W.subIn K (.ref A.C_SameGate) (.ref A.C_NoNumber) = some false
  v_SameGate_NoRoad : PySem.W.subIn K (.ref A.C_SameGate) (.ref A.C_NoRoad) = some false
  v_SameGate_Already : PySem.W.subIn K (.ref A.C_SameGate) (.ref A.C_Already) = some false
  v_FullNet_NoName : PySem.W.subIn K (.ref A.C_FullNet) (.ref A.C_NoName) = some false
  v_FullNet_SameGate : PySem.W.subIn K (.ref A.C_FullNet) (.ref A.C_SameGate) = some false
  v_FullNet_FullNet : PySem.W.subIn K (.ref A.C_FullNet) (.ref A.C_FullNet) = some true
  v_FullNet_NoGate : PySem.W.subIn K (.ref A.C_FullNet) (.ref A.C_NoGate) = some false
  v_FullNet_NoNumber : PySem.W.subIn K (.ref A.C_FullNet) (.ref A.C_NoNumber) = some false
  v_FullNet_NoRoad : PySem.W.subIn K (.ref A.C_FullNet) (.ref A.C_NoRoad) = some false
  v_FullNet_Already : PySem.W.subIn K (.ref A.C_FullNet) (.ref A.C_Already) = some false
  v_NoGate_NoName : PySem.W.subIn K (.ref A.C_NoGate) (.ref A.C_NoName) = some false
  v_NoGate_SameGate : PySem.W.subIn K (.ref A.C_NoGate) (.ref A.C_SameGate) = some false
  v_NoGate_FullNet : PySem.W.subIn K (.ref A.C_NoGate) (.ref A.C_FullNet) = some false
  v_NoGate_NoGate : PySem.W.subIn K (.ref A.C_NoGate) (.ref A.C_NoGate) = some true
  v_NoGate_NoNumber : PySem.W.subIn K (.ref A.C_NoGate) (.ref A.C_NoNumber) = some false
  v_NoGate_NoRoad : PySem.W.subIn K (.ref A.C_NoGate) (.ref A.C_NoRoad) = some false
  v_NoGate_Already : PySem.W.subIn K (.ref A.C_NoGate) (.ref A.C_Already) = some false
  v_NoNumber_NoName : PySem.W.subIn K (.ref A.C_NoNumber) (.ref A.C_NoName) = some false
  v_NoNumber_SameGate : PySem.W.subIn K (.ref A.C_NoNumber) (.ref A.C_SameGate) = some false
  v_NoNumber_FullNet : PySem.W.subIn K (.ref A.C_NoNumber) (.ref A.C_FullNet) = some false
  v_NoNumber_NoGate : PySem.W.subIn K (.ref A.C_NoNumber) (.ref A.C_NoGate) = some false
  v_NoNumber_NoNumber : PySem.W.subIn K (.ref A.C_NoNumber) (.ref A.C_NoNumber) = some true
  v_NoNumber_NoRoad : PySem.W.subIn K (.ref A.C_NoNumber) (.ref A.C_NoRoad) = some false
  v_NoNumber_Already : PySem.W.subIn K (.ref A.C_NoNumber) (.ref A.C_Already) = some false
  v_NoRoad_NoName : PySem.W.subIn K (.ref A.C_NoRoad) (.ref A.C_NoName) = some false
  v_NoRoad_SameGate : PySem.W.subIn K (.ref A.C_NoRoad) (.ref A.C_SameGate) = some false
  v_NoRoad_FullNet : PySem.W.subIn K (.ref A.C_NoRoad) (.ref A.C_FullNet) = some false
  v_NoRoad_NoGate : PySem.W.subIn K (.ref A.C_NoRoad) (.ref A.C_NoGate) = some false
  v_NoRoad_NoNumber : PySem.W.subIn K (.ref A.C_NoRoad) (.ref A.C_NoNumber) = some false
  v_NoRoad_NoRoad : PySem.W.subIn K (.ref A.C_NoRoad) (.ref A.C_NoRoad) = some true
  v_NoRoad_Already : PySem.W.subIn K (.ref A.C_NoRoad) (.ref A.C_Already) = some false
  v_Already_NoName : PySem.W.subIn K (.ref A.C_Already) (.ref A.C_NoName) = some false
  v_Already_SameGate : PySem.W.subIn K (.ref A.C_Already) (.ref A.C_SameGate) = some false
  v_Already_FullNet : PySem.W.subIn K (.ref A.C_Already) (.ref A.C_FullNet) = some false
  v_Already_NoGate : PySem.W.subIn K (.ref A.C_Already) (.ref A.C_NoGate) = some false
  v_Already_NoNumber : PySem.W.subIn K (.ref A.C_Already) (.ref A.C_NoNumber) = some false
  v_Already_NoRoad : PySem.W.subIn K (.ref A.C_Already) (.ref A.C_NoRoad) = some false
  v_Already_Already : PySem.W.subIn K (.ref A.C_Already) (.ref A.C_Already) = some true
  m_SMALL_SIGNS : mg "SMALL_SIGNS" = some (.str k_SMALL_SIGNS A.tSMALL_SIGNS)
  m_MOST_SIGNS : mg "MOST_SIGNS" = some (.int 8 A.tMOST_SIGNS)
  m_NAME_SIGNS : mg "NAME_SIGNS" = some (.str k_NAME_SIGNS A.tNAME_SIGNS)
  m_MOST_GATES : mg "MOST_GATES" = some (.int 60 A.tMOST_GATES)
  m_MOST_ROADS : mg "MOST_ROADS" = some (.int 200 A.tMOST_ROADS)
  m_MOST_MINUTES : mg "MOST_MINUTES" = some (.int 1000000 A.tMOST_MINUTES)
  m_MOST_TOLL : mg "MOST_TOLL" = some (.int 1000000 A.tMOST_TOLL)
  b_all : mg "all" = none
  b_len : mg "len" = none
  b_list : mg "list" = none
  b_enumerate : mg "enumerate" = none
  b_isinstance : mg "isinstance" = none
  b_int : mg "int" = none
  b_bool : mg "bool" = none
  b_range : mg "range" = none
  b_str : mg "str" = none
  b_max : mg "max" = none
  b_tuple : mg "tuple" = none
section
variable {P : Program} {w : World} {K : PySem.W.Frag} {mg : Str → Option Value} {base : Heap} {A : Ads}
def spCell (K : PySem.W.Frag) : Sp := fun vs H Q _ => ∃ (a : Addr) (ns : List Int) (k : Int), vs = [.ref a, .int k] ∧ SqL K H a (ns.map V.int) ∧ 0 ≤ k ∧ Q (.int (cellAt ns k)) H
theorem ok_l_cell_at (T : Txt K mg A) : DefOk P w K mg base CX0 1 A.l_cell_at ["_law_script", "_law_k"] (spCell K) := by
  obtain ⟨fd, F⟩ := T.F_l_cell_at
  refine ⟨fd, ?_, F.binds (ps := ["_law_script", "_law_k"]) fun _ _ _ _ _ _ us hl => match us, hl with | [_, _], _ => rfl, F.kp⟩
  refine F.ok sc_l_cell_at (fun vs H Q E h => ?_) (fun cdv A outer s H vs Q E hr h => ?_)
  · obtain ⟨a, ns, k, rfl, _⟩ := h
    rfl
  · obtain ⟨a, ns, k, rfl, hS, hk, q⟩ := h
    refine ⟨_, (pss_cons (ps_if (pt_cmpR op_lt (pv 1) (pe_callB call_len_seq (by rfl) T.b_len PySem.boot_len (pa_cons (pv 0) pa_nil)) (nomark _)) (pss_one (ps_ret (pe_ix (r := rIxL K) ix_list (pv 0) (pv 1) (fun _ _ => rfl)))) pss_nil)
      (pss_one (ps_ret pe_int))), ?_⟩
    walk_at "go"
    refine ⟨_, _, rfl, .inl hS, ?_⟩
    walk_at "go"
    rw [List.length_map]
    unfold cellAt at q
    refine ite2 (fun h => ?_) (fun h => ?_)
    · have h1 : k < (ns.length : Int) := of_decide_eq_true h
      rw [if_pos h1] at q
      walk_at "go"
      refine ⟨_, _, _, _, rfl, rfl, hS, ?_, q⟩
      obtain ⟨j, rfl⟩ := Int.eq_ofNat_of_zero_le hk
      exact atI_nat (map_int_get (by omega))
    · have h1 : ¬ k < (ns.length : Int) := fun z => h (decide_eq_true z)
      rw [if_neg h1] at q
      exact q
def spMixed (K : PySem.W.Frag) : Sp := fun vs H Q _ => ∃ (a : Addr) (ns : List Int) (k : Int), vs = [.ref a, .int k] ∧ SqL K H a (ns.map V.int) ∧ 0 ≤ k ∧ k ≤ 1000000 ∧ Q (.int (mixed ns k)) H
theorem ok_l_mixed (T : Txt K mg A) : DefOk P w K mg base CX0 1 A.l_mixed ["_law_script", "_law_k"] (spMixed K) := by
  obtain ⟨fd, F⟩ := T.F_l_mixed
  refine ⟨fd, ?_, F.binds (ps := ["_law_script", "_law_k"]) fun _ _ _ _ _ _ us hl => match us, hl with | [_, _], _ => rfl, F.kp⟩
  refine F.ok sc_l_mixed (fun vs H Q E h => ?_) (fun cdv A outer s H vs Q E hr h => ?_)
  · obtain ⟨a, ns, k, rfl, _⟩ := h
    rfl
  · obtain ⟨a, ns, k, rfl, hS, hk, hk2, q⟩ := h
    refine ⟨_, (pss_cons (ps_set (i := 2) sc_l_mixed.nd rfl (by first | exact Or.inl rfl | exact Or.inr rfl) pe_int)
      (C8.pss_cut (ps_if (pt_cmpR op_gt (pe_callB call_len_seq (by rfl) T.b_len PySem.boot_len (pa_cons (pv 0) pa_nil)) pe_int (nomark _)) (pss_one (ps_set (i := 2) sc_l_mixed.nd rfl (by first | exact Or.inl rfl | exact Or.inr rfl) (pe_ix (r := rIxL K) ix_list (pv 0) (pe_op op_mod (pv 1) (pe_callB call_len_seq (by rfl) T.b_len PySem.boot_len (pa_cons (pv 0) pa_nil))) (fun _ _ => rfl)))) pss_nil)
      (pss_cons (ps_set (i := 3) sc_l_mixed.nd rfl (by first | exact Or.inl rfl | exact Or.inr rfl) (pe_op op_mod (pe_op op_mul (pe_op op_add (pv 2) (pe_op op_mul pe_int (pv 1))) pe_int) pe_int))
      (pss_one (ps_ret (pe_op op_mod (pe_op op_add (pe_op op_mul (pv 3) (pv 3)) (pe_op op_mul pe_int (pv 3))) pe_int)))))), ?_⟩
    walk_at "go"
    refine ⟨fun σ' H' => σ' = [some (.ref a), some (.int k), some (.int (mixCell ns k)), none] ∧ H = H', ?_, ?_⟩
    · walk_at "go"
      refine ⟨_, _, rfl, .inl hS, ?_⟩
      walk_at "go"
      rw [List.length_map]
      refine ite2 (fun h => ?_) (fun h => ?_)
      · have h1 : (0 : Int) < (ns.length : Int) := of_decide_eq_true h
        walk_at "go"
        refine ⟨_, _, rfl, .inl hS, ?_⟩
        rw [List.length_map]
        walk_at "go"
        have h2 := Int.emod_nonneg k (b := (ns.length : Int)) (by omega)
        have h3 := Int.emod_lt_of_pos k (b := (ns.length : Int)) (by omega)
        refine ⟨_, _, _, _, rfl, rfl, hS, atI_of (j := (k % (ns.length : Int)).toNat) (by omega) (map_int_get (by omega)), ?_⟩
        refine ⟨?_, rfl⟩
        unfold mixCell
        rw [if_pos (by omega)]
        rfl
      · have h1 : ¬ (0 : Int) < (ns.length : Int) := fun z => h (decide_eq_true z)
        refine ⟨?_, rfl⟩
        unfold mixCell
        rw [if_neg (by omega)]
        rfl
    rintro σ' H' ⟨rfl, rfl⟩
    have m0 := Int.emod_nonneg ((mixCell ns k + 7919 * k) * 48271) (b := 2147483647) (by decide)
    have m1 := Int.emod_lt_of_pos ((mixCell ns k + 7919 * k) * 48271) (b := 2147483647) (by decide)
    walk_at "go"
    rw [mixed_def] at q
    exact q
end
end Toll

set_option Elab.async false
set_option maxRecDepth 100000
set_option maxHeartbeats 4000000
namespace Toll
open PySem L2
local macro_rules | `(tactic| walk_at "go1") => `(tactic| first
  | refine ⟨_, rfl, ?_⟩
  | refine ⟨rfl, ?_⟩
  | refine ⟨_, _, rfl, rfl, ?_⟩
  | refine ⟨_, _, rfl, ?_⟩
  | (with_reducible refine' ⟨log_small ?k1 ?k2, ?_⟩; (case k1 => omega); (case k2 => omega))
  | (refine' ⟨?k1, ?_⟩; (case k1 => ((with_reducible show (_ : Int) < _); omega)))
  | (refine' ⟨⟨?k1, ?k2⟩, ?_⟩; (case k1 => omega); (case k2 => omega))
  | (refine' ⟨⟨?k1, ?k2, ?k3, ?k4⟩, ?_⟩; (case k1 => omega); (case k2 => omega); (case k3 => omega); (case k4 => omega))
  | (refine' ⟨.inl ⟨?k1, ?k2⟩, ?_⟩; (case k1 => omega); (case k2 => omega))
  | (refine' ⟨.inr ⟨?k1, ?k2⟩, ?_⟩; (case k1 => omega); (case k2 => omega))
  | (refine' ⟨Evl.sz_of ?k1, ?_⟩; (case k1 => omega))
  | (refine' ⟨?k1, ?_⟩; (case k1 => ((with_reducible show (_ : Int) ≤ _); omega)))
  | refine ⟨⟨_, rfl⟩, ?_⟩
  | refine .inl ⟨_, rfl, ?_⟩ | refine .inr ⟨_, rfl, ?_⟩
  | refine iteT ?_ | refine iteF ?_)
local macro_rules | `(tactic| walk_at "go") => `(tactic| repeat (walk_at "go1"))
local macro_rules | `(tactic| walk_at "ans") => `(tactic| (intro Q' q'; walk_at "go"; (try rw [dec_int]); (try rw [dec_str]); exact q'))
section
variable {P : Program} {w : World} {K : PySem.W.Frag} {mg : Str → Option Value} {base : Heap} {A : Ads}
def spName : Sp := fun vs H Q _ => ∃ (b t : Int), vs = [.int b, .int t] ∧ 0 ≤ b ∧ 0 ≤ t ∧ t ≤ 1000 ∧ ∀ H', Same H H' → Q (.str (nameOf b t)) H'
theorem ok_l_name (T : Txt K mg A) : DefOk P w K mg base CX0 1 A.l_name ["_law_base", "_law_turn"] spName := by
  obtain ⟨fd, F⟩ := T.F_l_name
  refine ⟨fd, ?_, F.binds (ps := ["_law_base", "_law_turn"]) fun _ _ _ _ _ _ us hl => match us, hl with | [_, _], _ => rfl, F.kp⟩
  refine F.ok sc_l_name (fun vs H Q E h => ?_) (fun cdv A outer s H vs Q E hr h => ?_)
  · obtain ⟨b, t, rfl, _⟩ := h
    rfl
  · obtain ⟨b, t, rfl, hb, ht, ht2, q⟩ := h
    refine ⟨_, (pss_cons (ps_set (i := 2) sc_l_name.nd rfl (by first | exact Or.inl rfl | exact Or.inr rfl) pe_str)
      (pss_cons (ps_setLc (i := 3) (own := [("_law_k", 6)]) rfl sc_l_name.nd rfl rfl (sw_true rfl rfl rfl (by decide +kernel)) (pi_range1 (by rfl) T.b_range (pa_cons pe_int pa_nil)) (blkOk_by (own := [("_law_k", 6)]) (N := n_l_name) (sc := defScope s_l_name) (by decide +kernel)) (fun _ _ _ _ _ => (pg_name (i := 6) sc_l_name.nd rfl (by first | exact Or.inl rfl | exact Or.inr rfl))) (fun _ _ _ _ _ => pts_nil) (fun _ _ _ _ _ => (pe_ix ix_str (pv 2) (pe_op op_mod (pe_op op_add (pe_op op_add (pe_op op_fdiv (pv 0) pe_int) (pe_op op_mul pe_int (pv 6))) (pe_op op_mul (pe_op op_fdiv (pv 0) pe_int) (pv 6))) pe_int) (fun _ _ => rfl))))
      (pss_cons (ps_asg (pe_ix ix_str (pv 2) (pe_op op_mod (pe_op op_fdiv (pv 0) pe_int) pe_int) (fun _ _ => rfl)) (pg_sub (pv 3) pe_int set_list))
      (pss_cons (ps_if (PW.pt (pw_and (pt_cmpR op_eq (pe_op op_mod (pv 0) pe_int) pe_int (nomark _)) (pw_and1 (pt_cmpR op_lt (pv 1) pe_int (nomark _))))) (pss_one (ps_ret (pe_join pe_str (pe_slice sl_list (pv 3) po_none (po_some (pe_op op_add pe_int (pv 1))))))) pss_nil)
      (pss_cons (ps_if (PW.pt (pw_or (pt_cmpR op_lt (pe_op op_mod (pv 0) pe_int) pe_int (nomark _)) (pw_or1 (pt_cmpR op_gt (pv 1) pe_int (nomark _))))) (pss_one (ps_ret (pe_op op_add_str (pe_join pe_str (pe_slice sl_list (pv 3) po_none (po_some (pe_op op_add pe_int (pe_op op_mod (pe_op op_fdiv (pv 0) pe_int) pe_int))))) (pe_callTy call_str_int (by rfl) T.b_str (by decide +kernel) (pa_cons (pv 1) pa_nil))))) pss_nil)
      (pss_cons (ps_set (i := 4) sc_l_name.nd rfl (by first | exact Or.inl rfl | exact Or.inr rfl) (pe_op op_add pe_int (pe_op op_mod (pe_op op_fdiv (pv 0) pe_int) pe_int)))
      (pss_cons (ps_set (i := 5) sc_l_name.nd rfl (by first | exact Or.inl rfl | exact Or.inr rfl) (pe_op op_mod (pe_op op_fdiv (pv 0) pe_int) (pv 4)))
      (pss_cons (ps_asg (pe_ix ix_str (pv 2) (pe_op op_mod (pe_op op_add (pe_op op_fdiv (pv 0) pe_int) (pv 1)) (pe_ix (r := rIxL K) ix_list (pe_lst (pa_cons pe_int (pa_cons pe_int pa_nil))) (pe_callTy call_int1 (by rfl) T.b_int (by decide +kernel) (pa_cons (pe_cmpR op_eq (pv 5) pe_int (nomark _)) pa_nil)) (fun _ _ => rfl))) (fun _ _ => rfl)) (pg_sub (pv 3) (pv 5) set_list))
      (pss_one (ps_ret (pe_join pe_str (pe_slice sl_list (pv 3) po_none (po_some (pv 4)))))))))))))), ?_⟩
    walk_at "go"
    intro D hD
    rw [← someS_def]
    refine lc_range (lo := 0) (n := 8) (fun i H' => Same H H' ∧ H' D = some (.lst (onesV ((List.range i).map fun (k : Nat) => sgn ((b / 64 + 7 * (k : Int) + b / 99991 * (k : Int)) % 36)))))
      ⟨same_up hD, upd_same⟩ ?_ ?_
    · rintro i H1 hi ⟨s1, hL⟩
      walk_at "go"
      refine ⟨someS, _, _, rfl, rfl, (by have := someS_len; exact Evl.sz_of (by show someS.cps.toList.length ≤ _; omega)), ix36 _, ?_⟩
      walk_at "go"
      refine ⟨_, hL, by rw [onesV_len]; simp; exact Evl.sz_lt (by omega), same_new s1 hD, ?_⟩
      rw [upd_same, List.range_succ, List.map_append, Int.zero_add]
      unfold onesV
      rw [List.map_append, List.map_append]
      rfl
    rintro H1 ⟨s1, hL⟩
    rw [← sg0_def] at hL
    walk_at "go"
    refine ⟨someS, _, _, rfl, rfl, (by have := someS_len; exact Evl.sz_of (by show someS.cps.toList.length ≤ _; omega)), ix26 _, ?_⟩
    walk_at "go"
    refine ⟨D, _, 0, 0, rfl, rfl, hL, ixN_of rfl (by rw [onesV_len, sg0_len]; decide), ?_⟩
    rw [onesV_set, ← sg_def]
    have s2 : Same H (upd H1 D (HO.lst (onesV (sg b)))) := same_new s1 hD
    have hL2 : (upd H1 D (HO.lst (onesV (sg b)))) D = some (.lst (onesV (sg b))) := upd_same
    generalize upd H1 D (HO.lst (onesV (sg b))) = H2 at s2 hL2
    have sl := sg_len b
    dsimp only
    refine seq_if1 (decide (b % 3 = 0) && decide (t < 8)) (an_and (by walk_at "ans") (fun _ => by walk_at "ans")) (fun h => ?_) (fun h => ?_)
    · simp only [Bool.and_eq_true, decide_eq_true_eq] at h
      have e : nameOf b t = sx ((sg b).take (1 + t).toNat) := by
        rw [nameOf_def, nameL, if_pos h]
      walk_at "go"
      refine ⟨D, _, rfl, SqL.of hL2, fun p hp => ?_⟩
      walk_at "go"
      rw [cut_to _ (by omega), onesV_take]
      refine ⟨_, p, ((sg b).take (1 + t).toNat).map one, rfl, rfl, .inl (SqL.of upd_same), ?_, ?_⟩
      · rw [sum_ones]
        show _ + _ * 0 ≤ _
        rw [List.length_take]
        omega
      rw [join_ones, ← e]
      exact q _ (same_new s2 (s2.free hp))
    have h3 : ¬ (b % 3 = 0 ∧ t < 8) := fun z => by simp [z.1, z.2] at h
    refine seq_if1 (decide (b % 3 < 2) || decide (25 < t)) (an_or (by walk_at "ans") (fun _ => by walk_at "ans")) (fun h => ?_) (fun h => ?_)
    · simp only [Bool.or_eq_true, decide_eq_true_eq] at h
      have e : nameOf b t = sx ((sg b).take (1 + b / 3 % 5).toNat) ++ sx (digs t) := by
        rw [nameOf_def, nameL, if_neg h3, if_pos h, sx_app]
      walk_at "go"
      refine ⟨D, _, rfl, SqL.of hL2, fun p hp => ?_⟩
      walk_at "go"
      rw [cut_to _ (by omega), onesV_take]
      refine ⟨_, p, ((sg b).take (1 + b / 3 % 5).toNat).map one, rfl, rfl, .inl (SqL.of upd_same), ?_, ?_⟩
      · rw [sum_ones]
        show _ + _ * 0 ≤ _
        rw [List.length_take]
        omega
      rw [join_ones]
      walk_at "go"
      rw [digs_sx ht]
      refine ⟨Evl.sz_of (by rw [sx_len, sx_len, List.length_take]; have := digs_len ht2; omega), ?_⟩
      rw [← e]
      exact q _ (same_new s2 (s2.free hp))
    · have h4 : ¬ (b % 3 < 2 ∨ 25 < t) := fun z => by rcases z with z | z <;> simp [z] at h
      have d0 := Int.emod_nonneg (b / 24) (b := 1 + b / 3 % 8) (by omega)
      have d1 := Int.emod_lt_of_pos (b / 24) (b := 1 + b / 3 % 8) (by omega)
      walk_at "go"
      refine ⟨by decide, fun p hp => ?_⟩
      walk_at "go"
      have e : nameOf b t = sx (((sg b).set (b / 24 % (1 + b / 3 % 8)).toNat (sgn ((b / 2311 + t) % (if b / 24 % (1 + b / 3 % 8) = 0 then 26 else 36)))).take (1 + b / 3 % 8).toNat) := by
        rw [nameOf_def, nameL, if_neg h3, if_neg h4]
      have hm : ∃ m : Int, (m = 26 ∨ m = 36) ∧ (if b / 24 % (1 + b / 3 % 8) = 0 then 26 else 36) = m ∧ atI [V.int 36, V.int 26] (if decide (V.int (b / 24 % (1 + b / 3 % 8)) = V.int 0) = true then 1 else 0) = some (V.int m) := by
        rw [dec_int]
        by_cases z : b / 24 % (1 + b / 3 % 8) = 0
        · rw [if_pos z, if_pos (decide_eq_true z)]
          exact ⟨26, .inl rfl, rfl, rfl⟩
        · rw [if_neg z, if_neg (by simpa using z)]
          exact ⟨36, .inr rfl, rfl, rfl⟩
      obtain ⟨m, hm1, hm2, hm3⟩ := hm
      rw [hm2] at e
      have c26 := someS_len
      have hx : atI someS.cps.toList ((b / 2311 + t) % m) = some (sgn ((b / 2311 + t) % m)) := by
        rcases hm1 with rfl | rfl
        · exact ix26 _
        · exact ix36 _
      refine ⟨p, _, _, _, rfl, rfl, SqL.of upd_same, hm3, ?_⟩
      walk_at "go"
      refine ⟨someS, _, _, rfl, rfl, Evl.sz_of (by show someS.cps.toList.length ≤ _; omega), hx, ?_⟩
      walk_at "go"
      have hpD : D ≠ p := ne_of_none hL2 hp
      refine ⟨D, _, _, (b / 24 % (1 + b / 3 % 8)).toNat, rfl, rfl, (by rw [upd_ne hpD]; exact hL2), ixN_of (by omega) (by rw [onesV_len, sl]; omega), ?_⟩
      rw [onesV_set]
      walk_at "go"
      refine ⟨D, _, rfl, SqL.of upd_same, fun r hr2 => ?_⟩
      walk_at "go"
      rw [cut_to _ (by omega), onesV_take]
      refine ⟨_, r, (((sg b).set (b / 24 % (1 + b / 3 % 8)).toNat (sgn ((b / 2311 + t) % m))).take (1 + b / 3 % 8).toNat).map one, rfl, rfl, .inl (SqL.of upd_same), ?_, ?_⟩
      · rw [sum_ones]
        show _ + _ * 0 ≤ _
        rw [List.length_take, List.length_set]
        omega
      rw [join_ones, ← e]
      have s3 : Same H (upd (upd H2 p (HO.lst [V.int 36, V.int 26])) D (HO.lst (onesV ((sg b).set (b / 24 % (1 + b / 3 % 8)).toNat (sgn ((b / 2311 + t) % m)))))) := same_new (same_new s2 (s2.free hp)) hD
      exact q _ (same_new s3 (s3.free hr2))
end
end Toll

set_option Elab.async false
set_option maxRecDepth 100000
set_option maxHeartbeats 4000000
namespace Toll
open PySem L2
local macro_rules | `(tactic| walk_at "go1") => `(tactic| first
  | refine ⟨_, rfl, ?_⟩
  | refine ⟨rfl, ?_⟩
  | refine ⟨_, _, rfl, rfl, ?_⟩
  | refine ⟨_, _, rfl, ?_⟩
  | (with_reducible refine' ⟨log_small ?k1 ?k2, ?_⟩; (case k1 => omega); (case k2 => omega))
  | (refine' ⟨?k1, ?_⟩; (case k1 => ((with_reducible show (_ : Int) < _); omega)))
  | (refine' ⟨⟨?k1, ?k2⟩, ?_⟩; (case k1 => omega); (case k2 => omega))
  | (refine' ⟨⟨?k1, ?k2, ?k3, ?k4⟩, ?_⟩; (case k1 => omega); (case k2 => omega); (case k3 => omega); (case k4 => omega))
  | (refine' ⟨.inl ⟨?k1, ?k2⟩, ?_⟩; (case k1 => omega); (case k2 => omega))
  | (refine' ⟨.inr ⟨?k1, ?k2⟩, ?_⟩; (case k1 => omega); (case k2 => omega))
  | (refine' ⟨Evl.sz_of ?k1, ?_⟩; (case k1 => omega))
  | (refine' ⟨?k1, ?_⟩; (case k1 => ((with_reducible show (_ : Int) ≤ _); omega)))
  | refine ⟨⟨_, rfl⟩, ?_⟩
  | refine .inl ⟨_, rfl, ?_⟩ | refine .inr ⟨_, rfl, ?_⟩
  | refine iteT ?_ | refine iteF ?_)
local macro_rules | `(tactic| walk_at "go") => `(tactic| repeat (walk_at "go1"))
local macro_rules | `(tactic| walk_at "ans") => `(tactic| (intro Q' q'; walk_at "go"; (try rw [dec_int]); (try rw [dec_str]); exact q'))
section
variable {P : Program} {w : World} {K : PySem.W.Frag} {mg : Str → Option Value} {base : Heap} {A : Ads}
theorem k_small : k_SMALL_SIGNS.cps.toList = List.range' 97 26 := by decide +kernel
theorem k_sign : k_NAME_SIGNS.cps.toList = List.range' 97 26 ++ List.range' 48 10 := by decide +kernel
def spNeed (A : Ads) : Sp := fun vs H Q E => ∃ (p g r : Addr) (N : NetD) (nm : Str), vs = [.ref p, .str nm] ∧ NetAt A.C_Net H p g r N ∧ nm.length ≤ 1000 ∧ PyData.strOk nm = true ∧
  (seesOf N.gates nm = none → E (.ref A.C_NoGate) none H) ∧ (∀ b, seesOf N.gates nm = some b → Q .non H)
theorem ok_N_need_gate (T : Txt K mg A) : DefOk P w K mg base (L2.CX P w) 1 A.N_need_gate ["self", "name"] (spNeed A) := by
  obtain ⟨fd, F⟩ := T.F_N_need_gate
  refine ⟨fd, ?_, F.binds (ps := ["self", "name"]) fun _ _ _ _ _ _ us hl => match us, hl with | [_, _], _ => rfl, F.kp⟩
  refine F.okX sc_N_need_gate (fun vs H Q E h => ?_) (fun cdv A' outer s H vs Q E hr h => ?_)
  · obtain ⟨p, g, r, N, nm, rfl, _⟩ := h
    rfl
  · obtain ⟨p, g, r, N, nm, rfl, hN, hl, ho, kE, kQ⟩ := h
    have hu := hu_of hr
    obtain ⟨⟨dx, hob⟩, hgt, _, _, _, _⟩ := id hN
    refine ⟨_, (pss_one (ps_if (pt_cmp (pc_dnotin hu (pv 1) (pe_fld (pv 0) rfl))) (pss_one (ps_raise rfl (takes_of rfl rfl rfl rfl) (SkE.pmk_own1 PySem.F.excBase_ValueError T.e_NoGate.x T.e_NoGate.g T.e_NoGate.k (raises_own T.e_NoGate.b T.e_NoGate.t) rfl (pe_joined (.cons pe_str (.cons (pe_fmtR (pv 1)) .nil)))))) pss_nil)), ?_⟩
    walk_at "go"
    refine ⟨p, _, dx, _, _, rfl, hob, T.c_Net, T.na_Net__gates, netF_gates _ _, g, _, rfl, DGet.k (k := Sum.inr nm) hgt, _, rfl, ?_⟩
    rw [valV_gates]
    cases e : seesOf N.gates nm with
    | some b =>
      refine iteF ?_
      exact kQ b e
    | none =>
      refine iteT ?_
      walk_at "go"
      refine ⟨by decide +kernel, ?_⟩
      walk_at "go"
      refine ⟨repr_ok hl ho, ?_⟩
      walk_at "go"
      refine ⟨cat_sz (by decide +kernel) (by have := repr_sz hl ho; omega), ?_⟩
      exact kE e
def spTurnGate (A : Ads) : Sp := fun vs H Q E => ∃ (p g r : Addr) (N : NetD) (nm : Str) (b : Bool), vs = [.ref p, .str nm, .bl b] ∧ NetAt A.C_Net H p g r N ∧ nm.length ≤ 1000 ∧ PyData.strOk nm = true ∧
  (seesOf N.gates nm = none → E (.ref A.C_NoGate) none H) ∧ (seesOf N.gates nm = some b → E (.ref A.C_Already) none H) ∧
  (seesOf N.gates nm = some (!b) → ∀ H', NetAt A.C_Net H' p g r { N with gates := setSees N.gates nm b } → Keep [g] H H' → Q .non H')
theorem ok_N__turn_gate (T : Txt K mg A) : DefOk P w K mg base (L2.CX P w) 2 A.N__turn_gate ["self", "name", "sees"] (spTurnGate A) := by
  obtain ⟨_, G_N_need_gate, B_N_need_gate, K_N_need_gate⟩ := ok_N_need_gate (P := P) (w := w) (base := base) T
  obtain ⟨fd, F⟩ := T.F_N__turn_gate
  refine ⟨fd, ?_, F.binds (ps := ["self", "name", "sees"]) fun _ _ _ _ _ _ us hl => match us, hl with | [_, _, _], _ => rfl, F.kp⟩
  refine F.okX sc_N__turn_gate (fun vs H Q E h => ?_) (fun cdv A' outer s H vs Q E hr h => ?_)
  · obtain ⟨p, g, r, N, nm, b, rfl, _⟩ := h
    rfl
  · obtain ⟨p, g, r, N, nm, b, rfl, hN, hl, ho, kE, kA, kQ⟩ := h
    have hu := hu_of hr
    obtain ⟨⟨dx, hob⟩, hgt, hrt, hnd, l1, l2⟩ := id hN
    refine ⟨_, (pss_cons (ps_expr (pe_meth (pv 0) T.c_Net T.M_N_need_gate G_N_need_gate (hr.mono (by decide)) B_N_need_gate .nil (passes_call (takes_of rfl rfl rfl rfl) fun _ _ _ _ h => h) (pa_cons (pv 1) pa_nil)))
      (pss_cons (ps_if (pt_cmpR op_eq (pe_dget hu (pe_fld (pv 0) rfl) (pv 1) (fun _ _ => rfl)) (pv 2) (nomark _)) (pss_one (ps_raise rfl (takes_of rfl rfl rfl rfl) (SkE.pmk_own1 PySem.F.excBase_ValueError T.e_Already.x T.e_Already.g T.e_Already.k (raises_own T.e_Already.b T.e_Already.t) rfl (pe_joined (.cons pe_str (.cons (pe_fmt (pv 1)) (.cons pe_str .nil))))))) pss_nil)
      (pss_one (ps_dput hu (pe_fld (pv 0) rfl) (pv 1) (pv 2) rfl)))), ?_⟩
    walk_at "go"
    refine ⟨p, dx, _, rfl, hob, netF_no _ _ (by decide +kernel) (by decide +kernel), ?_⟩
    walk_at "go"
    refine ⟨p, g, r, N, nm, rfl, hN, hl, ho, kE, fun c hc => ?_⟩
    walk_at "go"
    refine ⟨p, _, dx, _, _, rfl, hob, T.c_Net, T.na_Net__gates, netF_gates _ _, ?_⟩
    walk_at "go"
    refine ⟨g, .bl c, rfl, (by have := DGet.k (k := Sum.inr nm) hgt; rw [valV_gates, hc] at this; exact this), ?_⟩
    walk_at "go"
    rw [dec_bl]
    refine ite2 (fun h => ?_) (fun h => ?_)
    · have h : c = b := of_decide_eq_true h
      subst h
      walk_at "go"
      refine ⟨by decide +kernel, ?_⟩
      walk_at "go"
      refine ⟨cat_sz (by decide +kernel) (by omega), ?_⟩
      walk_at "go"
      refine ⟨sz3 (by decide +kernel) (by omega) (by decide +kernel), ?_⟩
      exact kA hc
    · have h : seesOf N.gates nm = some (!b) := by
        have h1 : ¬ c = b := fun z => h (decide_eq_true z)
        rw [hc]
        cases c <;> cases b <;> simp_all
      walk_at "go"
      refine ⟨p, _, dx, _, _, rfl, hob, T.c_Net, T.na_Net__gates, netF_gates _ _, ?_⟩
      walk_at "go"
      refine ⟨g, _, rfl, DPut.k (k := Sum.inr nm) hgt (small1000 (by simp [gatesK]; omega)), ?_⟩
      rw [putK_old_gates hc]
      exact kQ h _ (hN.setGates (by rw [setSees_names]; exact hnd) (by rw [setSees_len]; exact l1)) keep1
def spBlind (A : Ads) (b : Bool) : Sp := fun vs H Q E => ∃ (p g r : Addr) (N : NetD) (nm : Str), vs = [.ref p, .str nm] ∧ NetAt A.C_Net H p g r N ∧ nm.length ≤ 1000 ∧ PyData.strOk nm = true ∧
  (seesOf N.gates nm = none → E (.ref A.C_NoGate) none H) ∧ (seesOf N.gates nm = some b → E (.ref A.C_Already) none H) ∧
  (seesOf N.gates nm = some (!b) → ∀ H', NetAt A.C_Net H' p g r { N with gates := setSees N.gates nm b } → Keep [g] H H' → Q .non H')
theorem ok_N_blind (T : Txt K mg A) : DefOk P w K mg base (L2.CX P w) 3 A.N_blind ["self", "name"] (spBlind A false) := by
  obtain ⟨_, G_N__turn_gate, B_N__turn_gate, K_N__turn_gate⟩ := ok_N__turn_gate (P := P) (w := w) (base := base) T
  obtain ⟨fd, F⟩ := T.F_N_blind
  refine ⟨fd, ?_, F.binds (ps := ["self", "name"]) fun _ _ _ _ _ _ us hl => match us, hl with | [_, _], _ => rfl, F.kp⟩
  refine F.okX sc_N_blind (fun vs H Q E h => ?_) (fun cdv A' outer s H vs Q E hr h => ?_)
  · obtain ⟨p, g, r, N, nm, rfl, _⟩ := h
    rfl
  · obtain ⟨p, g, r, N, nm, rfl, hN, hl, ho, kE, kA, kQ⟩ := h
    obtain ⟨⟨dx, hob⟩, _⟩ := id hN
    refine ⟨_, (pss_one (ps_expr (pe_meth (pv 0) T.c_Net T.M_N__turn_gate G_N__turn_gate (hr.mono (by decide)) B_N__turn_gate .nil (passes_call (takes_of rfl rfl rfl rfl) fun _ _ _ _ h => h) (pa_cons (pv 1) (pa_cons pe_bl pa_nil))))), ?_⟩
    walk_at "go"
    refine ⟨p, dx, _, rfl, hob, netF_no _ _ (by decide +kernel) (by decide +kernel), ?_⟩
    walk_at "go"
    exact ⟨p, g, r, N, nm, false, rfl, hN, hl, ho, kE, kA, kQ⟩
theorem ok_N_mend (T : Txt K mg A) : DefOk P w K mg base (L2.CX P w) 3 A.N_mend ["self", "name"] (spBlind A true) := by
  obtain ⟨_, G_N__turn_gate, B_N__turn_gate, K_N__turn_gate⟩ := ok_N__turn_gate (P := P) (w := w) (base := base) T
  obtain ⟨fd, F⟩ := T.F_N_mend
  refine ⟨fd, ?_, F.binds (ps := ["self", "name"]) fun _ _ _ _ _ _ us hl => match us, hl with | [_, _], _ => rfl, F.kp⟩
  refine F.okX sc_N_mend (fun vs H Q E h => ?_) (fun cdv A' outer s H vs Q E hr h => ?_)
  · obtain ⟨p, g, r, N, nm, rfl, _⟩ := h
    rfl
  · obtain ⟨p, g, r, N, nm, rfl, hN, hl, ho, kE, kA, kQ⟩ := h
    obtain ⟨⟨dx, hob⟩, _⟩ := id hN
    refine ⟨_, (pss_one (ps_expr (pe_meth (pv 0) T.c_Net T.M_N__turn_gate G_N__turn_gate (hr.mono (by decide)) B_N__turn_gate .nil (passes_call (takes_of rfl rfl rfl rfl) fun _ _ _ _ h => h) (pa_cons (pv 1) (pa_cons pe_bl pa_nil))))), ?_⟩
    walk_at "go"
    refine ⟨p, dx, _, rfl, hob, netF_no _ _ (by decide +kernel) (by decide +kernel), ?_⟩
    walk_at "go"
    exact ⟨p, g, r, N, nm, true, rfl, hN, hl, ho, kE, kA, kQ⟩
end
end Toll

set_option Elab.async false
set_option maxRecDepth 100000
set_option maxHeartbeats 4000000
namespace Toll
open PySem L2
local macro_rules | `(tactic| walk_at "go1") => `(tactic| first
  | refine ⟨_, rfl, ?_⟩
  | refine ⟨rfl, ?_⟩
  | refine ⟨_, _, rfl, rfl, ?_⟩
  | refine ⟨_, _, rfl, ?_⟩
  | (with_reducible refine' ⟨log_small ?k1 ?k2, ?_⟩; (case k1 => omega); (case k2 => omega))
  | (refine' ⟨?k1, ?_⟩; (case k1 => ((with_reducible show (_ : Int) < _); omega)))
  | (refine' ⟨⟨?k1, ?k2⟩, ?_⟩; (case k1 => omega); (case k2 => omega))
  | (refine' ⟨⟨?k1, ?k2, ?k3, ?k4⟩, ?_⟩; (case k1 => omega); (case k2 => omega); (case k3 => omega); (case k4 => omega))
  | (refine' ⟨.inl ⟨?k1, ?k2⟩, ?_⟩; (case k1 => omega); (case k2 => omega))
  | (refine' ⟨.inr ⟨?k1, ?k2⟩, ?_⟩; (case k1 => omega); (case k2 => omega))
  | (refine' ⟨Evl.sz_of ?k1, ?_⟩; (case k1 => omega))
  | (refine' ⟨?k1, ?_⟩; (case k1 => ((with_reducible show (_ : Int) ≤ _); omega)))
  | refine ⟨⟨_, rfl⟩, ?_⟩
  | refine .inl ⟨_, rfl, ?_⟩ | refine .inr ⟨_, rfl, ?_⟩
  | refine iteT ?_ | refine iteF ?_)
local macro_rules | `(tactic| walk_at "go") => `(tactic| repeat (walk_at "go1"))
local macro_rules | `(tactic| walk_at "ans") => `(tactic| (intro Q' q'; walk_at "go"; (try rw [dec_int]); (try rw [dec_str]); exact q'))
section
variable {P : Program} {w : World} {K : PySem.W.Frag} {mg : Str → Option Value} {base : Heap} {A : Ads}
def spTurnRoad (A : Ads) : Sp := fun vs H Q E => ∃ (p g r : Addr) (N : NetD) (n : Int) (b : Bool), vs = [.ref p, .int n, .bl b] ∧ NetAt A.C_Net H p g r N ∧
  (¬ (0 ≤ n ∧ n < (N.roads.length : Int)) → E (.ref A.C_NoRoad) none H) ∧ (∀ rd, 0 ≤ n → N.roads[n.toNat]? = some rd → rd.op = b → E (.ref A.C_Already) none H) ∧
  (∀ rd, 0 ≤ n → N.roads[n.toNat]? = some rd → rd.op = !b → ∀ H', NetAt A.C_Net H' p g r { N with roads := N.roads.set n.toNat { rd with op := b } } → Keep [r] H H' → Q .non H')
theorem ok_N__turn_road (T : Txt K mg A) : DefOk P w K mg base (L2.CX P w) 1 A.N__turn_road ["self", "number", "is_open"] (spTurnRoad A) := by
  obtain ⟨fd, F⟩ := T.F_N__turn_road
  refine ⟨fd, ?_, F.binds (ps := ["self", "number", "is_open"]) fun _ _ _ _ _ _ us hl => match us, hl with | [_, _, _], _ => rfl, F.kp⟩
  refine F.okX sc_N__turn_road (fun vs H Q E h => ?_) (fun cdv A' outer s H vs Q E hr h => ?_)
  · obtain ⟨p, g, r, N, n, b, rfl, _⟩ := h
    rfl
  · obtain ⟨p, g, r, N, n, b, rfl, hN, kE, kA, kQ⟩ := h
    obtain ⟨⟨dx, hob⟩, hgt, ⟨us, hrt, hP⟩, hnd, l1, l2⟩ := id hN
    have hus := paired_len hP
    have hpr := hN.pr
    refine ⟨_, (pss_cons (ps_if (pt_not (pt_chain op_le op_lt pe_int (pv 1) (pe_callB call_len_seq (by rfl) T.b_len PySem.boot_len (pa_cons (pe_fld (pv 0) rfl) pa_nil)))) (pss_one (ps_raise rfl (takes_of rfl rfl rfl rfl) (SkE.pmk_own1 PySem.F.excBase_ValueError T.e_NoRoad.x T.e_NoRoad.g T.e_NoRoad.k (raises_own T.e_NoRoad.b T.e_NoRoad.t) rfl pe_str))) pss_nil)
      (pss_cons (ps_asg (pe_ix (r := rIxL K) ix_list (pe_fld (pv 0) rfl) (pv 1) (fun _ _ => rfl)) (pg_tup (by rfl) (pgs_cons (pg_name (i := 3) sc_N__turn_road.nd rfl (by first | exact Or.inl rfl | exact Or.inr rfl)) (pgs_cons (pg_name (i := 4) sc_N__turn_road.nd rfl (by first | exact Or.inl rfl | exact Or.inr rfl)) (pgs_cons (pg_name (i := 5) sc_N__turn_road.nd rfl (by first | exact Or.inl rfl | exact Or.inr rfl)) (pgs_cons (pg_name (i := 6) sc_N__turn_road.nd rfl (by first | exact Or.inl rfl | exact Or.inr rfl)) (pgs_cons (pg_name (i := 7) sc_N__turn_road.nd rfl (by first | exact Or.inl rfl | exact Or.inr rfl)) pgs_nil)))))))
      (pss_cons (ps_if (pt_cmpR op_eq (pv 7) (pv 2) (nomark _)) (pss_one (ps_raise rfl (takes_of rfl rfl rfl rfl) (SkE.pmk_own1 PySem.F.excBase_ValueError T.e_Already.x T.e_Already.g T.e_Already.k (raises_own T.e_Already.b T.e_Already.t) rfl pe_str))) pss_nil)
      (pss_one (ps_asg (pe_tup (pa_cons (pv 3) (pa_cons (pv 4) (pa_cons (pv 5) (pa_cons (pv 6) (pa_cons (pv 2) pa_nil)))))) (pg_sub (pe_fld (pv 0) rfl) (pv 1) set_list)))))), ?_⟩
    walk_at "go"
    refine ite2 (fun h0 => ?_) (fun h0 => ?_)
    rotate_left
    · have h0 : ¬ 0 ≤ n := fun z => h0 (decide_eq_true z)
      walk_at "go"
      exact kE fun z => h0 z.1
    have h0 : 0 ≤ n := of_decide_eq_true h0
    walk_at "go"
    refine ⟨p, _, dx, _, _, rfl, hob, T.c_Net, T.na_Net__roads, netF_roads _ _, ?_⟩
    walk_at "go"
    refine ⟨r, us, rfl, .inl (SqL.of hrt), ?_⟩
    walk_at "go"
    refine ite2 (fun h1 => ?_) (fun h1 => ?_)
    · have h1 : ¬ n < (us.length : Int) := by simpa using h1
      walk_at "go"
      exact kE fun z => h1 (by rw [hus]; exact z.2)
    have h1 : n < (us.length : Int) := by simpa using h1
    obtain ⟨rd, hrd⟩ : ∃ rd, N.roads[n.toNat]? = some rd := ⟨_, List.getElem?_eq_getElem (by omega)⟩
    obtain ⟨_, hv, t, rfl, ht⟩ := paired_get hP hrd
    walk_at "go"
    refine ⟨p, _, dx, _, _, rfl, hob, T.c_Net, T.na_Net__roads, netF_roads _ _, ?_⟩
    walk_at "go"
    refine ⟨r, us, _, _, rfl, rfl, SqL.of hrt, atI_of (j := n.toNat) (by omega) hv, ?_⟩
    walk_at "go"
    refine ⟨t, _, rfl, SqT.of ht, rfl, ?_⟩
    walk_at "go"
    rw [dec_bl]
    refine ite2 (fun h2 => ?_) (fun h2 => ?_)
    · have h2 : rd.op = b := of_decide_eq_true h2
      walk_at "go"
      exact kA rd h0 hrd h2
    · have h2 : rd.op = !b := by
        have h2 : ¬ rd.op = b := fun z => h2 (decide_eq_true z)
        cases h3 : rd.op <;> cases b <;> simp_all
      walk_at "go"
      refine ⟨(by show 5 ≤ sizeLine; decide), fun q hq => ?_⟩
      have hqp : p ≠ q := ne_of_none hob hq
      have hqr : r ≠ q := ne_of_none hrt hq
      walk_at "go"
      refine ⟨p, _, dx, _, _, rfl, (by rw [upd_ne hqp]; exact hob), T.c_Net, T.na_Net__roads, netF_roads _ _, ?_⟩
      walk_at "go"
      refine ⟨r, us, _, n.toNat, rfl, rfl, (by rw [upd_ne hqr]; exact hrt), ixN_of (by omega) (by omega), ?_⟩
      have hN2 : NetAt A.C_Net (upd H q (.tup [.str rd.one, .str rd.other, .int rd.mi, .int rd.tl, .bl b])) p g r N := hN.same (same_up hq)
      have hP2 := roads_same (same_up (o := .tup [.str rd.one, .str rd.other, .int rd.mi, .int rd.tl, .bl b]) hq) hP
      refine kQ rd h0 hrd h2 _ (hN2.setRoads (paired_set ⟨q, rfl, upd_same⟩ n.toNat hP2) (by rw [List.length_set]; exact l2)) ?_
      exact (Keep.of_same (same_up hq)).upd (.inl (by simp))
def spClose (A : Ads) (b : Bool) : Sp := fun vs H Q E => ∃ (p g r : Addr) (N : NetD) (n : Int), vs = [.ref p, .int n] ∧ NetAt A.C_Net H p g r N ∧
  (¬ (0 ≤ n ∧ n < (N.roads.length : Int)) → E (.ref A.C_NoRoad) none H) ∧ (∀ rd, 0 ≤ n → N.roads[n.toNat]? = some rd → rd.op = b → E (.ref A.C_Already) none H) ∧
  (∀ rd, 0 ≤ n → N.roads[n.toNat]? = some rd → rd.op = !b → ∀ H', NetAt A.C_Net H' p g r { N with roads := N.roads.set n.toNat { rd with op := b } } → Keep [r] H H' → Q .non H')
theorem ok_N_close (T : Txt K mg A) : DefOk P w K mg base (L2.CX P w) 2 A.N_close ["self", "number"] (spClose A false) := by
  obtain ⟨_, G_N__turn_road, B_N__turn_road, K_N__turn_road⟩ := ok_N__turn_road (P := P) (w := w) (base := base) T
  obtain ⟨fd, F⟩ := T.F_N_close
  refine ⟨fd, ?_, F.binds (ps := ["self", "number"]) fun _ _ _ _ _ _ us hl => match us, hl with | [_, _], _ => rfl, F.kp⟩
  refine F.okX sc_N_close (fun vs H Q E h => ?_) (fun cdv A' outer s H vs Q E hr h => ?_)
  · obtain ⟨p, g, r, N, n, rfl, _⟩ := h
    rfl
  · obtain ⟨p, g, r, N, n, rfl, hN, kE, kA, kQ⟩ := h
    obtain ⟨⟨dx, hob⟩, _⟩ := id hN
    refine ⟨_, (pss_one (ps_expr (pe_meth (pv 0) T.c_Net T.M_N__turn_road G_N__turn_road (hr.mono (by decide)) B_N__turn_road .nil (passes_call (takes_of rfl rfl rfl rfl) fun _ _ _ _ h => h) (pa_cons (pv 1) (pa_cons pe_bl pa_nil))))), ?_⟩
    walk_at "go"
    refine ⟨p, dx, _, rfl, hob, netF_no _ _ (by decide +kernel) (by decide +kernel), ?_⟩
    walk_at "go"
    exact ⟨p, g, r, N, n, false, rfl, hN, kE, kA, kQ⟩
theorem ok_N_reopen (T : Txt K mg A) : DefOk P w K mg base (L2.CX P w) 2 A.N_reopen ["self", "number"] (spClose A true) := by
  obtain ⟨_, G_N__turn_road, B_N__turn_road, K_N__turn_road⟩ := ok_N__turn_road (P := P) (w := w) (base := base) T
  obtain ⟨fd, F⟩ := T.F_N_reopen
  refine ⟨fd, ?_, F.binds (ps := ["self", "number"]) fun _ _ _ _ _ _ us hl => match us, hl with | [_, _], _ => rfl, F.kp⟩
  refine F.okX sc_N_reopen (fun vs H Q E h => ?_) (fun cdv A' outer s H vs Q E hr h => ?_)
  · obtain ⟨p, g, r, N, n, rfl, _⟩ := h
    rfl
  · obtain ⟨p, g, r, N, n, rfl, hN, kE, kA, kQ⟩ := h
    obtain ⟨⟨dx, hob⟩, _⟩ := id hN
    refine ⟨_, (pss_one (ps_expr (pe_meth (pv 0) T.c_Net T.M_N__turn_road G_N__turn_road (hr.mono (by decide)) B_N__turn_road .nil (passes_call (takes_of rfl rfl rfl rfl) fun _ _ _ _ h => h) (pa_cons (pv 1) (pa_cons pe_bl pa_nil))))), ?_⟩
    walk_at "go"
    refine ⟨p, dx, _, rfl, hob, netF_no _ _ (by decide +kernel) (by decide +kernel), ?_⟩
    walk_at "go"
    exact ⟨p, g, r, N, n, true, rfl, hN, kE, kA, kQ⟩
end
end Toll

set_option Elab.async false
set_option maxRecDepth 100000
set_option maxHeartbeats 4000000
namespace Toll
open PySem L2
local macro_rules | `(tactic| walk_at "go1") => `(tactic| first
  | refine ⟨_, rfl, ?_⟩
  | refine ⟨rfl, ?_⟩
  | refine ⟨_, _, rfl, rfl, ?_⟩
  | refine ⟨_, _, rfl, ?_⟩
  | (with_reducible refine' ⟨log_small ?k1 ?k2, ?_⟩; (case k1 => omega); (case k2 => omega))
  | (refine' ⟨?k1, ?_⟩; (case k1 => ((with_reducible show (_ : Int) < _); omega)))
  | (refine' ⟨⟨?k1, ?k2⟩, ?_⟩; (case k1 => omega); (case k2 => omega))
  | (refine' ⟨⟨?k1, ?k2, ?k3, ?k4⟩, ?_⟩; (case k1 => omega); (case k2 => omega); (case k3 => omega); (case k4 => omega))
  | (refine' ⟨.inl ⟨?k1, ?k2⟩, ?_⟩; (case k1 => omega); (case k2 => omega))
  | (refine' ⟨.inr ⟨?k1, ?k2⟩, ?_⟩; (case k1 => omega); (case k2 => omega))
  | (refine' ⟨Evl.sz_of ?k1, ?_⟩; (case k1 => omega))
  | (refine' ⟨?k1, ?_⟩; (case k1 => ((with_reducible show (_ : Int) ≤ _); omega)))
  | refine ⟨⟨_, rfl⟩, ?_⟩
  | refine .inl ⟨_, rfl, ?_⟩ | refine .inr ⟨_, rfl, ?_⟩
  | refine iteT ?_ | refine iteF ?_)
local macro_rules | `(tactic| walk_at "go") => `(tactic| repeat (walk_at "go1"))
local macro_rules | `(tactic| walk_at "ans") => `(tactic| (intro Q' q'; walk_at "go"; (try rw [dec_int]); (try rw [dec_str]); exact q'))
section
variable {P : Program} {w : World} {K : PySem.W.Frag} {mg : Str → Option Value} {base : Heap} {A : Ads}
def spNetInit (A : Ads) : Sp := fun vs H Q _ => ∃ (p dx : Addr), vs = [.ref p] ∧ H p = some (.ins A.C_Net dx []) ∧ ∀ (g r : Addr) (H' : Hp), H g = none → H r = none → NetAt A.C_Net H' p g r ⟨[], []⟩ → Keep [p] H H' → Q .non H'
theorem ok_N_init (T : Txt K mg A) : DefOk P w K mg base CX0 1 A.N_init ["self"] (spNetInit A) := by
  obtain ⟨fd, F⟩ := T.F_N_init
  refine ⟨fd, ?_, F.binds (ps := ["self"]) fun _ _ _ _ _ _ us hl => match us, hl with | [_], _ => rfl, F.kp⟩
  refine F.ok sc_N_init (fun vs H Q E h => ?_) (fun cdv A' outer s H vs Q E hr h => ?_)
  · obtain ⟨p, dx, rfl, _⟩ := h
    rfl
  · obtain ⟨p, dx, rfl, hp, q⟩ := h
    refine ⟨_, (pss_cons (ps_fld (pv 0) pe_dnewK rfl)
      (pss_one (ps_fld (pv 0) (pe_lst pa_nil) rfl))), ?_⟩
    intro g hg
    have hpg : p ≠ g := ne_of_none hp hg
    walk_at "go"
    refine ⟨p, _, dx, [], rfl, (by rw [upd_ne hpg]; exact hp), T.c_Net, T.na_Net__gates, (by show 0 < 1000; decide), ?_⟩
    walk_at "go"
    refine ⟨Nat.zero_le _, fun r hr2 => ?_⟩
    have hpr : p ≠ r := ne_of_none upd_same hr2
    have hrg : r ≠ g := fun z => by
      subst z
      rw [upd_ne hpg.symm, upd_same] at hr2
      cases hr2
    walk_at "go"
    refine ⟨p, _, dx, _, rfl, (by rw [upd_ne hpr]; exact upd_same), T.c_Net, T.na_Net__roads, (by show 1 < 1000; decide), ?_⟩
    have hr0 : H r = none := by
      rw [upd_ne hpr.symm, upd_ne hrg] at hr2
      exact hr2
    refine q g r _ hg hr0 ⟨⟨dx, upd_same⟩, ?_, ⟨[], ?_, .nil⟩, List.nodup_nil, by simp, by simp⟩ ?_
    · rw [upd_ne hpg.symm, upd_ne hrg.symm, upd_ne hpg.symm, upd_same]
      rfl
    · rw [upd_ne hpr.symm, upd_same]
    · exact ((((Keep.of_same (Same.refl H)).upd (.inr hg)).upd (.inl (by simp))).upd (.inr hr0)).upd (.inl (by simp))
def spIsName : Sp := fun vs H Q _ => ∃ z : Str, vs = [.str z] ∧ z.length ≤ 1000 ∧ ∀ H', Same H H' → Q (.bl (isName z.cps.toList)) H'
theorem ok_is_name (T : Txt K mg A) : DefOk P w K mg base CX0 1 A.is_name ["text"] spIsName := by
  obtain ⟨fd, F⟩ := T.F_is_name
  refine ⟨fd, ?_, F.binds (ps := ["text"]) fun _ _ _ _ _ _ us hl => match us, hl with | [_], _ => rfl, F.kp⟩
  refine F.ok sc_is_name (fun vs H Q E h => ?_) (fun cdv A outer s H vs Q E hr h => ?_)
  · obtain ⟨z, rfl, _⟩ := h
    rfl
  · obtain ⟨z, rfl, hz, k⟩ := h
    refine ⟨_, (pss_cons (ps_if (PW.pt (pw_or (pt_cmpR op_eq (pv 0) pe_str (nomark _)) (pw_or1 (pt_cmpR op_gt (pe_callB call_len_str (by rfl) T.b_len PySem.boot_len (pa_cons (pv 0) pa_nil)) (pe_glob (v := .int 8) rfl T.m_MOST_SIGNS ⟨_, rfl⟩) (nomark _))))) (pss_one (ps_ret pe_bl)) pss_nil)
      (pss_cons (ps_if (pt_cmpR op_notIn_sign (pe_ix ix_str (pv 0) pe_int (fun _ _ => rfl)) (pe_glob (v := .str k_SMALL_SIGNS) rfl T.m_SMALL_SIGNS ⟨_, rfl⟩) rfl) (pss_one (ps_ret pe_bl)) pss_nil)
      (pss_one (ps_ret (pe_callB (cr_all rfl) (by rfl) T.b_all (by decide +kernel) (pa_cons (pe_lc (own := [("sign", 1)]) rfl sc_is_name.nd (pi_str (pv 0)) (blkOk_by (own := [("sign", 1)]) (N := n_is_name) (sc := defScope s_is_name) (by decide +kernel)) (fun _ _ _ _ _ => (pg_name (i := 1) sc_is_name.nd rfl (by first | exact Or.inl rfl | exact Or.inr rfl))) (fun _ _ _ _ _ => pts_nil) (fun _ _ _ _ _ => (pe_cmpR op_in_sign (pv 1) (pe_glob (v := .str k_NAME_SIGNS) rfl T.m_NAME_SIGNS ⟨_, rfl⟩) rfl))) pa_nil)))))), ?_⟩
    walk_at "go"
    refine ite2 (fun h => ?_) (fun h => ?_)
    · have e : isName z.cps.toList = false := by
        have h1 := of_decide_eq_true h
        cases h1
        rfl
      rw [← e]
      exact k _ (Same.refl H)
    · have hl : z.length = z.cps.toList.length := rfl
      have hp : 0 < z.cps.toList.length := by
        cases q : z.cps.toList with
        | nil => exact absurd (decide_eq_true (by rw [show z = (Str.ofString "") from (congrArg Str.mk (Array.toList_inj.mp q))])) h
        | cons _ _ => simp
      walk_at "go"
      refine ite2 (fun h2 => ?_) (fun h2 => ?_)
      · have h3 : (8 : Int) < z.length := of_decide_eq_true h2
        have e : isName z.cps.toList = false := by
          unfold isName
          rw [decide_eq_false (show ¬ z.cps.toList.length ≤ 8 by omega)]
          simp
        rw [← e]
        exact k _ (Same.refl H)
      · have h3 : ¬ (8 : Int) < z.length := fun q => h2 (decide_eq_true q)
        obtain ⟨c, cs, hc⟩ : ∃ c cs, z.cps.toList = c :: cs := by
          cases q : z.cps.toList with
          | nil => rw [q] at hp; cases hp
          | cons c cs => exact ⟨c, cs, rfl⟩
        walk_at "go"
        refine ⟨z, 0, c, rfl, rfl, Evl.sz_of (by omega), atI_nat (j := 0) (by rw [hc]; rfl), c, _, rfl, rfl, _, rfl, ?_⟩
        rw [mem_small k_small]
        refine ite2 (fun h4 => ?_) (fun h4 => ?_)
        · have e : isName z.cps.toList = false := by
            unfold isName
            have h5 : smallC c = false := by simpa using h4
            rw [hc, show (c :: cs).getD 0 0 = c from rfl, h5]
            simp
          rw [← e]
          exact k _ (Same.refl H)
        · have h5 : smallC c = true := by simpa using h4
          have e : isName z.cps.toList = ((z.cps.toList.map signC).all id) := by
            unfold isName
            rw [decide_eq_true hp, decide_eq_true (show z.cps.toList.length ≤ 8 by omega), hc, show (c :: cs).getD 0 0 = c from rfl, h5]
            simp
          refine ⟨_, rfl, _, rfl, fun D hD => ?_⟩
          refine lc_it (walk_str (z := z)) (fun i H' => Same H H' ∧ H' D = some (.lst (((z.cps.toList.take i).map signC).map V.bl)))
            ⟨same_up hD, upd_same⟩ (fun _ _ _ _ => trivial) ?_ ?_
          · rintro i x H1 H2 hi ⟨s1, hL⟩ ⟨rfl, c', hc', rfl⟩
            have hc2 : z.cps.toList[i]? = some c' := by rw [← hc']; simp
            refine ⟨rfl, ?_⟩
            walk_at "go"
            rw [mem_sign k_sign]
            refine ⟨_, hL, ?_, same_new s1 hD, ?_⟩
            · have : i < z.cps.size := hi
              simp
              refine Evl.sz_lt (Nat.lt_of_le_of_lt (Nat.min_le_left _ _) ?_)
              have : z.length = z.cps.size := rfl
              omega
            · rw [upd_same, List.take_add_one, hc2]
              simp
          · rintro H1 ⟨s1, hL⟩
            rw [show z.cps.size = z.cps.toList.length from rfl, List.take_length] at hL
            refine ⟨D, _, rfl, SqL.of hL, ?_⟩
            rw [← e]
            exact k _ s1
def spGate (A : Ads) : Sp := fun vs H Q E => ∃ (p g r : Addr) (N : NetD) (nm : Str) (b : Bool), vs = [.ref p, .str nm, .bl b] ∧ NetAt A.C_Net H p g r N ∧ nm.length ≤ 1000 ∧ PyData.strOk nm = true ∧
  (isName nm.cps.toList = false → ∀ H', Same H H' → E (.ref A.C_NoName) none H') ∧
  (isName nm.cps.toList = true → seesOf N.gates nm ≠ none → ∀ H', Same H H' → E (.ref A.C_SameGate) none H') ∧
  (isName nm.cps.toList = true → seesOf N.gates nm = none → 60 ≤ N.gates.length → ∀ H', Same H H' → E (.ref A.C_FullNet) none H') ∧
  (isName nm.cps.toList = true → seesOf N.gates nm = none → N.gates.length < 60 → ∀ H', NetAt A.C_Net H' p g r { N with gates := N.gates ++ [(nm, b)] } → Keep [g] H H' → Q .non H')
theorem ok_N_gate (T : Txt K mg A) : DefOk P w K mg base (L2.CX P w) 2 A.N_gate ["self", "name", "sees"] (spGate A) := by
  obtain ⟨_, G_is_name, B_is_name, K_is_name⟩ := ok_is_name (P := P) (w := w) (base := base) T
  obtain ⟨fd, F⟩ := T.F_N_gate
  refine ⟨fd, ?_, F.binds (ps := ["self", "name", "sees"]) fun _ _ _ _ _ _ us hl => match us, hl with | [_, _, _], _ => rfl, F.kp⟩
  refine F.okX sc_N_gate (fun vs H Q E h => ?_) (fun cdv A' outer s H vs Q E hr h => ?_)
  · obtain ⟨p, g, r, N, nm, b, rfl, _⟩ := h
    rfl
  · obtain ⟨p, g, r, N, nm, b, rfl, hN, hl, ho, kN, kS, kF, kQ⟩ := h
    have hu := hu_of hr
    refine ⟨_, (pss_cons (ps_if (pt_not (pt_val (pe_call G_is_name (hr.mono (by decide)) rfl T.m_is_name K_is_name B_is_name .nil pass0 (pa_cons (pv 1) pa_nil)))) (pss_one (ps_raise rfl (takes_of rfl rfl rfl rfl) (SkE.pmk_own1 PySem.F.excBase_ValueError T.e_NoName.x T.e_NoName.g T.e_NoName.k (raises_own T.e_NoName.b T.e_NoName.t) rfl (pe_joined (.cons (pe_fmtR (pv 1)) (.cons pe_str .nil)))))) pss_nil)
      (pss_cons (ps_if (pt_cmp (pc_din hu (pv 1) (pe_fld (pv 0) rfl))) (pss_one (ps_raise rfl (takes_of rfl rfl rfl rfl) (SkE.pmk_own1 PySem.F.excBase_ValueError T.e_SameGate.x T.e_SameGate.g T.e_SameGate.k (raises_own T.e_SameGate.b T.e_SameGate.t) rfl (pe_joined (.cons pe_str (.cons (pe_fmt (pv 1)) .nil)))))) pss_nil)
      (pss_cons (ps_if (pt_cmpR op_ge (pe_callB call_lenD (by rfl) T.b_len PySem.boot_len (pa_cons (pe_fld (pv 0) rfl) pa_nil)) (pe_glob (v := .int 60) rfl T.m_MOST_GATES ⟨_, rfl⟩) (nomark _)) (pss_one (ps_raise rfl (takes_of rfl rfl rfl rfl) (SkE.pmk_own1 PySem.F.excBase_ValueError T.e_FullNet.x T.e_FullNet.g T.e_FullNet.k (raises_own T.e_FullNet.b T.e_FullNet.t) rfl (pe_joined (.cons pe_str (.cons (pe_fmt (pe_glob (v := .int 60) rfl T.m_MOST_GATES ⟨_, rfl⟩)) (.cons pe_str .nil))))))) pss_nil)
      (pss_one (ps_dput hu (pe_fld (pv 0) rfl) (pv 1) (pv 2) rfl))))), ?_⟩
    walk_at "go"
    refine ⟨hl, fun H1 s1 => ?_⟩
    have hN1 := hN.same s1
    obtain ⟨⟨dx, hob⟩, hgt, ⟨us, hrt, hP⟩, hnd, l1, l2⟩ := id hN1
    cases e : isName nm.cps.toList with
    | false =>
      walk_at "go"
      refine ⟨repr_ok hl ho, ?_⟩
      walk_at "go"
      refine ⟨cat_sz2 (n := 0) (m := 20000) (by decide +kernel) (repr_sz hl ho) (by decide), ?_⟩
      walk_at "go"
      refine ⟨sz3 (by decide +kernel) (by have := repr_sz hl ho; omega) (by decide +kernel), ?_⟩
      exact kN e H1 s1
    | true =>
      walk_at "go"
      refine ⟨p, _, dx, _, _, rfl, hob, T.c_Net, T.na_Net__gates, netF_gates _ _, g, _, rfl, DGet.k (k := Sum.inr nm) hgt, _, rfl, ?_⟩
      rw [valV_gates]
      cases e2 : seesOf N.gates nm with
      | some c =>
        refine iteT ?_
        walk_at "go"
        refine ⟨by decide +kernel, ?_⟩
        walk_at "go"
        refine ⟨cat_sz (by decide +kernel) (by omega), ?_⟩
        exact kS e (by rw [e2]; simp) H1 s1
      | none =>
        refine iteF ?_
        walk_at "go"
        refine ⟨p, _, dx, _, _, rfl, hob, T.c_Net, T.na_Net__gates, netF_gates _ _, ?_⟩
        walk_at "go"
        refine ⟨g, _, rfl, hgt, ?_⟩
        walk_at "go"
        rw [show (gatesK N.gates).length = N.gates.length by simp [gatesK]]
        refine ite2 (fun h => ?_) (fun h => ?_)
        · have h : (60 : Int) ≤ N.gates.length := of_decide_eq_true h
          walk_at "go"
          refine ⟨by decide +kernel, ?_⟩
          walk_at "go"
          refine ⟨by decide +kernel, ?_⟩
          walk_at "go"
          refine ⟨by decide +kernel, ?_⟩
          exact kF e e2 (by omega) H1 s1
        · have h : ¬ (60 : Int) ≤ N.gates.length := fun z => h (decide_eq_true z)
          walk_at "go"
          refine ⟨p, _, dx, _, _, rfl, hob, T.c_Net, T.na_Net__gates, netF_gates _ _, ?_⟩
          walk_at "go"
          refine ⟨g, _, rfl, DPut.k (k := Sum.inr nm) hgt (small1000 (by simp [gatesK]; omega)), ?_⟩
          rw [putK_new_gates e2]
          refine kQ e e2 (by omega) _ (hN1.setGates (gs := N.gates ++ [(nm, b)]) ?_ (by rw [List.length_append]; simp; omega)) ((Keep.of_same s1).upd (.inl (by simp)))
          rw [List.map_append, List.nodup_append]
          refine ⟨hnd, by simp, fun x hx y hy => ?_⟩
          simp at hy
          subst hy
          intro z
          subst z
          exact (seesOf_none.mp e2) hx
end
end Toll

set_option Elab.async false
set_option maxRecDepth 100000
set_option maxHeartbeats 4000000
namespace Toll
open PySem L2
local macro_rules | `(tactic| walk_at "go1") => `(tactic| first
  | refine ⟨_, rfl, ?_⟩
  | refine ⟨rfl, ?_⟩
  | refine ⟨_, _, rfl, rfl, ?_⟩
  | refine ⟨_, _, rfl, ?_⟩
  | (with_reducible refine' ⟨log_small ?k1 ?k2, ?_⟩; (case k1 => omega); (case k2 => omega))
  | (refine' ⟨?k1, ?_⟩; (case k1 => ((with_reducible show (_ : Int) < _); omega)))
  | (refine' ⟨⟨?k1, ?k2⟩, ?_⟩; (case k1 => omega); (case k2 => omega))
  | (refine' ⟨⟨?k1, ?k2, ?k3, ?k4⟩, ?_⟩; (case k1 => omega); (case k2 => omega); (case k3 => omega); (case k4 => omega))
  | (refine' ⟨.inl ⟨?k1, ?k2⟩, ?_⟩; (case k1 => omega); (case k2 => omega))
  | (refine' ⟨.inr ⟨?k1, ?k2⟩, ?_⟩; (case k1 => omega); (case k2 => omega))
  | (refine' ⟨Evl.sz_of ?k1, ?_⟩; (case k1 => omega))
  | (refine' ⟨?k1, ?_⟩; (case k1 => ((with_reducible show (_ : Int) ≤ _); omega)))
  | refine ⟨⟨_, rfl⟩, ?_⟩
  | refine .inl ⟨_, rfl, ?_⟩ | refine .inr ⟨_, rfl, ?_⟩
  | refine iteT ?_ | refine iteF ?_)
local macro_rules | `(tactic| walk_at "go") => `(tactic| repeat (walk_at "go1"))
local macro_rules | `(tactic| walk_at "ans") => `(tactic| (intro Q' q'; walk_at "go"; (try rw [dec_int]); (try rw [dec_str]); exact q'))
section
variable {P : Program} {w : World} {K : PySem.W.Frag} {mg : Str → Option Value} {base : Heap} {A : Ads}
def spRoad (A : Ads) : Sp := fun vs H Q E => ∃ (p g r : Addr) (N : NetD) (one other : Str) (mi tl : Int), vs = [.ref p, .str one, .str other, .int mi, .int tl] ∧ NetAt A.C_Net H p g r N ∧ one.length ≤ 1000 ∧ PyData.strOk one = true ∧ other.length ≤ 1000 ∧ PyData.strOk other = true ∧
  (seesOf N.gates one = none ∨ seesOf N.gates other = none → E (.ref A.C_NoGate) none H) ∧
  (seesOf N.gates one ≠ none → seesOf N.gates other ≠ none → one = other → E (.ref A.C_SameGate) none H) ∧
  (seesOf N.gates one ≠ none → seesOf N.gates other ≠ none → one ≠ other → ¬ ((1 ≤ mi ∧ mi ≤ 1000000) ∧ (0 ≤ tl ∧ tl ≤ 1000000)) → E (.ref A.C_NoNumber) none H) ∧
  (seesOf N.gates one ≠ none → seesOf N.gates other ≠ none → one ≠ other → (1 ≤ mi ∧ mi ≤ 1000000) ∧ (0 ≤ tl ∧ tl ≤ 1000000) → 200 ≤ N.roads.length → E (.ref A.C_FullNet) none H) ∧
  (seesOf N.gates one ≠ none → seesOf N.gates other ≠ none → one ≠ other → (1 ≤ mi ∧ mi ≤ 1000000) ∧ (0 ≤ tl ∧ tl ≤ 1000000) → N.roads.length < 200 →
    ∀ H', NetAt A.C_Net H' p g r { N with roads := N.roads ++ [⟨one, other, mi, tl, true⟩] } → Keep [r] H H' → Q (.int (N.roads.length : Int)) H')
theorem ok_N_road (T : Txt K mg A) : DefOk P w K mg base (L2.CX P w) 2 A.N_road ["self", "one", "other", "minutes", "toll"] (spRoad A) := by
  obtain ⟨_, G_N_need_gate, B_N_need_gate, K_N_need_gate⟩ := ok_N_need_gate (P := P) (w := w) (base := base) T
  obtain ⟨fd, F⟩ := T.F_N_road
  refine ⟨fd, ?_, F.binds (ps := ["self", "one", "other", "minutes", "toll"]) fun _ _ _ _ _ _ us hl => match us, hl with | [_, _, _, _, _], _ => rfl, F.kp⟩
  refine F.okX sc_N_road (fun vs H Q E h => ?_) (fun cdv A' outer s H vs Q E hr h => ?_)
  · obtain ⟨p, g, r, N, one, other, mi, tl, rfl, _⟩ := h
    rfl
  · obtain ⟨p, g, r, N, one, other, mi, tl, rfl, hN, h1, o1, h2, o2, kG, kS, kN, kF, kQ⟩ := h
    obtain ⟨⟨dx, hob⟩, hgt, ⟨us, hrt, hP⟩, hnd, l1, l2⟩ := id hN
    have hus := paired_len hP
    refine ⟨_, (pss_cons (ps_expr (pe_meth (pv 0) T.c_Net T.M_N_need_gate G_N_need_gate (hr.mono (by decide)) B_N_need_gate .nil (passes_call (takes_of rfl rfl rfl rfl) fun _ _ _ _ h => h) (pa_cons (pv 1) pa_nil)))
      (pss_cons (ps_expr (pe_meth (pv 0) T.c_Net T.M_N_need_gate G_N_need_gate (hr.mono (by decide)) B_N_need_gate .nil (passes_call (takes_of rfl rfl rfl rfl) fun _ _ _ _ h => h) (pa_cons (pv 2) pa_nil)))
      (pss_cons (ps_if (pt_cmpR op_eq (pv 1) (pv 2) (nomark _)) (pss_one (ps_raise rfl (takes_of rfl rfl rfl rfl) (SkE.pmk_own1 PySem.F.excBase_ValueError T.e_SameGate.x T.e_SameGate.g T.e_SameGate.k (raises_own T.e_SameGate.b T.e_SameGate.t) rfl pe_str))) pss_nil)
      (pss_cons (ps_if (pt_not (pt_chain op_le op_le pe_int (pv 3) (pe_glob (v := .int 1000000) rfl T.m_MOST_MINUTES ⟨_, rfl⟩))) (pss_one (ps_raise rfl (takes_of rfl rfl rfl rfl) (SkE.pmk_own1 PySem.F.excBase_ValueError T.e_NoNumber.x T.e_NoNumber.g T.e_NoNumber.k (raises_own T.e_NoNumber.b T.e_NoNumber.t) rfl (pe_joined (.cons pe_str (.cons (pe_fmt (pe_glob (v := .int 1000000) rfl T.m_MOST_MINUTES ⟨_, rfl⟩)) .nil)))))) pss_nil)
      (pss_cons (ps_if (pt_not (pt_chain op_le op_le pe_int (pv 4) (pe_glob (v := .int 1000000) rfl T.m_MOST_TOLL ⟨_, rfl⟩))) (pss_one (ps_raise rfl (takes_of rfl rfl rfl rfl) (SkE.pmk_own1 PySem.F.excBase_ValueError T.e_NoNumber.x T.e_NoNumber.g T.e_NoNumber.k (raises_own T.e_NoNumber.b T.e_NoNumber.t) rfl (pe_joined (.cons pe_str (.cons (pe_fmt (pe_glob (v := .int 1000000) rfl T.m_MOST_TOLL ⟨_, rfl⟩)) .nil)))))) pss_nil)
      (pss_cons (ps_if (pt_cmpR op_ge (pe_callB call_len_seq (by rfl) T.b_len PySem.boot_len (pa_cons (pe_fld (pv 0) rfl) pa_nil)) (pe_glob (v := .int 200) rfl T.m_MOST_ROADS ⟨_, rfl⟩) (nomark _)) (pss_one (ps_raise rfl (takes_of rfl rfl rfl rfl) (SkE.pmk_own1 PySem.F.excBase_ValueError T.e_FullNet.x T.e_FullNet.g T.e_FullNet.k (raises_own T.e_FullNet.b T.e_FullNet.t) rfl (pe_joined (.cons pe_str (.cons (pe_fmt (pe_glob (v := .int 200) rfl T.m_MOST_ROADS ⟨_, rfl⟩)) (.cons pe_str .nil))))))) pss_nil)
      (pss_cons (ps_expr (pe_bm PySem.F.plainAttrs_list PySem.F.slot_list_append PySem.F.type_list_append mt_append (pe_fld (pv 0) rfl) (pa_cons (pe_tup (pa_cons (pv 1) (pa_cons (pv 2) (pa_cons (pv 3) (pa_cons (pv 4) (pa_cons pe_bl pa_nil)))))) pa_nil)))
      (pss_one (ps_ret (pe_op op_sub (pe_callB call_len_seq (by rfl) T.b_len PySem.boot_len (pa_cons (pe_fld (pv 0) rfl) pa_nil)) pe_int)))))))))), ?_⟩
    walk_at "go"
    refine ⟨p, dx, _, rfl, hob, netF_no _ _ (by decide +kernel) (by decide +kernel), ?_⟩
    walk_at "go"
    refine ⟨p, g, r, N, one, rfl, hN, h1, o1, fun e => kG (.inl e), fun b1 e1 => ?_⟩
    have e1 : seesOf N.gates one ≠ none := by rw [e1]; simp
    walk_at "go"
    refine ⟨p, dx, _, rfl, hob, netF_no _ _ (by decide +kernel) (by decide +kernel), ?_⟩
    walk_at "go"
    refine ⟨p, g, r, N, other, rfl, hN, h2, o2, fun e => kG (.inr e), fun b2 e2 => ?_⟩
    have e2 : seesOf N.gates other ≠ none := by rw [e2]; simp
    walk_at "go"
    rw [dec_str]
    refine ite2 (fun h => ?_) (fun h => ?_)
    · exact kS e1 e2 (of_decide_eq_true h)
    have e3 : one ≠ other := fun z => h (decide_eq_true z)
    walk_at "go"
    refine ite2 (fun m1 => ?_) (fun m1 => ?_)
    rotate_left
    · have m1 : ¬ 1 ≤ mi := fun z => m1 (decide_eq_true z)
      walk_at "go"
      refine ⟨by decide +kernel, ?_⟩
      walk_at "go"
      refine ⟨by decide +kernel, ?_⟩
      exact kN e1 e2 e3 (by omega)
    have m1 : 1 ≤ mi := of_decide_eq_true m1
    walk_at "go"
    refine ite2 (fun m2 => ?_) (fun m2 => ?_)
    · have m2 : ¬ mi ≤ 1000000 := by simpa using m2
      walk_at "go"
      refine ⟨by decide +kernel, ?_⟩
      walk_at "go"
      refine ⟨by decide +kernel, ?_⟩
      exact kN e1 e2 e3 (by omega)
    have m2 : mi ≤ 1000000 := by simpa using m2
    walk_at "go"
    refine ite2 (fun t1 => ?_) (fun t1 => ?_)
    rotate_left
    · have t1 : ¬ 0 ≤ tl := fun z => t1 (decide_eq_true z)
      walk_at "go"
      refine ⟨by decide +kernel, ?_⟩
      walk_at "go"
      refine ⟨by decide +kernel, ?_⟩
      exact kN e1 e2 e3 (by omega)
    have t1 : 0 ≤ tl := of_decide_eq_true t1
    walk_at "go"
    refine ite2 (fun t2 => ?_) (fun t2 => ?_)
    · have t2 : ¬ tl ≤ 1000000 := by simpa using t2
      walk_at "go"
      refine ⟨by decide +kernel, ?_⟩
      walk_at "go"
      refine ⟨by decide +kernel, ?_⟩
      exact kN e1 e2 e3 (by omega)
    have t2 : tl ≤ 1000000 := by simpa using t2
    walk_at "go"
    refine ⟨p, _, dx, _, _, rfl, hob, T.c_Net, T.na_Net__roads, netF_roads _ _, ?_⟩
    walk_at "go"
    refine ⟨r, us, rfl, .inl (SqL.of hrt), ?_⟩
    walk_at "go"
    refine ite2 (fun h => ?_) (fun h => ?_)
    · have h : (200 : Int) ≤ us.length := of_decide_eq_true h
      walk_at "go"
      refine ⟨by decide +kernel, ?_⟩
      walk_at "go"
      refine ⟨by decide +kernel, ?_⟩
      walk_at "go"
      refine ⟨by decide +kernel, ?_⟩
      exact kF e1 e2 e3 ⟨⟨m1, m2⟩, t1, t2⟩ (by omega)
    · have h : ¬ (200 : Int) ≤ us.length := fun z => h (decide_eq_true z)
      walk_at "go"
      refine ⟨p, _, dx, _, _, rfl, hob, T.c_Net, T.na_Net__roads, netF_roads _ _, ?_⟩
      refine ⟨.inl ⟨rfl, _, SqL.of hrt⟩, ?_⟩
      walk_at "go"
      refine ⟨(by show 5 ≤ sizeLine; decide), fun q hq => ?_⟩
      have hqp : p ≠ q := ne_of_none hob hq
      have hqr : r ≠ q := ne_of_none hrt hq
      walk_at "go"
      refine ⟨r, us, _, rfl, rfl, (by rw [upd_ne hqr]; exact hrt), Evl.sz_lt (by omega), ?_⟩
      walk_at "go"
      have hN2 : NetAt A.C_Net (upd H q (.tup [.str one, .str other, .int mi, .int tl, .bl true])) p g r N := hN.same (same_up hq)
      have hP2 := roads_same (same_up (o := .tup [.str one, .str other, .int mi, .int tl, .bl true]) hq) hP
      have hN3 := hN2.setRoads (us := us ++ [.ref q]) (rs := N.roads ++ [⟨one, other, mi, tl, true⟩]) (Paired.snoc hP2 ⟨q, rfl, upd_same⟩) (by rw [List.length_append]; simp; omega)
      obtain ⟨dx3, hob3⟩ := hN3.ob
      refine ⟨p, _, dx3, _, _, rfl, hob3, T.c_Net, T.na_Net__roads, netF_roads _ _, ?_⟩
      walk_at "go"
      refine ⟨r, _, rfl, .inl (SqL.of upd_same), ?_⟩
      walk_at "go"
      have e : (((us ++ [V.ref q]).length : Nat) : Int) - 1 = (N.roads.length : Int) := by
        rw [List.length_append, hus]
        simp
      show Q (V.int ((((us ++ [V.ref q]).length : Nat) : Int) - 1)) _
      rw [e]
      exact kQ e1 e2 e3 ⟨⟨m1, m2⟩, t1, t2⟩ (by omega) _ hN3 ((Keep.of_same (same_up hq)).upd (.inl (by simp)))
def spGates (A : Ads) : Sp := fun vs H Q _ => ∃ (p g r : Addr) (N : NetD), vs = [.ref p] ∧ NetAt A.C_Net H p g r N ∧ ∀ (H' : Hp) (L : Addr) (us : List V), Same H H' → H L = none → H' L = some (.lst us) → Paired (GateV H') us N.gates → Q (.ref L) H'
theorem ok_N_gates (T : Txt K mg A) : DefOk P w K mg base CX0 1 A.N_gates ["self"] (spGates A) := by
  obtain ⟨fd, F⟩ := T.F_N_gates
  refine ⟨fd, ?_, F.binds (ps := ["self"]) fun _ _ _ _ _ _ us hl => match us, hl with | [_], _ => rfl, F.kp⟩
  refine F.ok sc_N_gates (fun vs H Q E h => ?_) (fun cdv A' outer s H vs Q E hr h => ?_)
  · obtain ⟨p, g, r, N, rfl, _⟩ := h
    rfl
  · obtain ⟨p, g, r, N, rfl, hN, q⟩ := h
    obtain ⟨⟨dx, hob⟩, hgt, ⟨us, hrt, hP⟩, hnd, l1, l2⟩ := id hN
    refine ⟨_, (pss_one (ps_ret (LiI.pe_listItems rfl (pe_fld (pv 0) rfl) (by rfl) T.b_list (by decide +kernel)))), ?_⟩
    walk_at "go"
    refine ⟨p, _, dx, _, _, rfl, hob, T.c_Net, T.na_Net__gates, netF_gates _ _, ?_⟩
    walk_at "go"
    refine ⟨g, _, rfl, hgt, fun H' L ts s hL _ _ hLs hp => ?_⟩
    exact q H' L _ s hL hLs (gates_paired hp)
def spNetRoads (A : Ads) : Sp := fun vs H Q _ => ∃ (p g r : Addr) (N : NetD), vs = [.ref p] ∧ NetAt A.C_Net H p g r N ∧ ∀ (H' : Hp) (L : Addr) (us : List V), Same H H' → H L = none → H' L = some (.lst us) → Paired (RoadV H') us N.roads → Q (.ref L) H'
theorem ok_N_roads (T : Txt K mg A) : DefOk P w K mg base CX0 1 A.N_roads ["self"] (spNetRoads A) := by
  obtain ⟨fd, F⟩ := T.F_N_roads
  refine ⟨fd, ?_, F.binds (ps := ["self"]) fun _ _ _ _ _ _ us hl => match us, hl with | [_], _ => rfl, F.kp⟩
  refine F.ok sc_N_roads (fun vs H Q E h => ?_) (fun cdv A' outer s H vs Q E hr h => ?_)
  · obtain ⟨p, g, r, N, rfl, _⟩ := h
    rfl
  · obtain ⟨p, g, r, N, rfl, hN, q⟩ := h
    obtain ⟨⟨dx, hob⟩, hgt, ⟨us, hrt, hP⟩, hnd, l1, l2⟩ := id hN
    refine ⟨_, (pss_one (ps_ret (pe_callTy call_list_of (by rfl) T.b_list (by decide +kernel) (pa_cons (pe_fld (pv 0) rfl) pa_nil)))), ?_⟩
    walk_at "go"
    refine ⟨p, _, dx, _, _, rfl, hob, T.c_Net, T.na_Net__roads, netF_roads _ _, ?_⟩
    walk_at "go"
    refine ⟨r, us, rfl, .inl (SqL.of hrt), fun L hL => ?_⟩
    exact q _ L us (same_up hL) hL upd_same (roads_same (same_up hL) hP)
theorem leavingF_step {rs : List RoadD} {nm : Str} {i : Nat} {r : RoadD} (h : rs[i]? = some r) : leavingF rs nm (i + 1) = if r.one = nm ∧ r.op = true then leavingF rs nm i ++ [(i : Int)] else leavingF rs nm i := by
  conv => lhs; unfold leavingF
  rw [h]
  show leavingF rs nm i ++ (if r.one = nm ∧ r.op = true then [(i : Int)] else []) = _
  by_cases e : r.one = nm ∧ r.op = true
  · rw [if_pos e, if_pos e]
  · rw [if_neg e, if_neg e, List.append_nil]
def spLeaving (A : Ads) : Sp := fun vs H Q E => ∃ (p g r : Addr) (N : NetD) (nm : Str), vs = [.ref p, .str nm] ∧ NetAt A.C_Net H p g r N ∧ nm.length ≤ 1000 ∧ PyData.strOk nm = true ∧
  (seesOf N.gates nm = none → E (.ref A.C_NoGate) none H) ∧ (seesOf N.gates nm ≠ none → ∀ (H' : Hp) (L : Addr), Same H H' → H L = none → H' L = some (.lst ((leavingF N.roads nm N.roads.length).map V.int)) → Q (.ref L) H')
theorem ok_N_leaving (T : Txt K mg A) : DefOk P w K mg base (L2.CX P w) 2 A.N_leaving ["self", "name"] (spLeaving A) := by
  obtain ⟨_, G_N_need_gate, B_N_need_gate, K_N_need_gate⟩ := ok_N_need_gate (P := P) (w := w) (base := base) T
  obtain ⟨fd, F⟩ := T.F_N_leaving
  refine ⟨fd, ?_, F.binds (ps := ["self", "name"]) fun _ _ _ _ _ _ us hl => match us, hl with | [_, _], _ => rfl, F.kp⟩
  refine F.okX sc_N_leaving (fun vs H Q E h => ?_) (fun cdv A' outer s H vs Q E hr h => ?_)
  · obtain ⟨p, g, r, N, nm, rfl, _⟩ := h
    rfl
  · obtain ⟨p, g, r, N, nm, rfl, hN, hl, ho, kE, kQ⟩ := h
    obtain ⟨⟨dx, hob⟩, hgt, ⟨us, hrt, hP⟩, hnd, l1, l2⟩ := id hN
    have hus := paired_len hP
    refine ⟨_, (pss_cons (ps_expr (pe_meth (pv 0) T.c_Net T.M_N_need_gate G_N_need_gate (hr.mono (by decide)) B_N_need_gate .nil (passes_call (takes_of rfl rfl rfl rfl) fun _ _ _ _ h => h) (pa_cons (pv 1) pa_nil)))
      (pss_cons (ps_set (i := 2) sc_N_leaving.nd rfl (by first | exact Or.inl rfl | exact Or.inr rfl) (pe_lst pa_nil))
      (pss_cons (ps_for (passes_of rfl) rfl (pi_enum (by rfl) T.b_enumerate (pa_cons (pe_fld (pv 0) rfl) pa_nil)) (pg_tup (by rfl) (pgs_cons (pg_name (i := 3) sc_N_leaving.nd rfl (by first | exact Or.inl rfl | exact Or.inr rfl)) (pgs_cons (pg_tup (by rfl) (pgs_cons (pg_name (i := 4) sc_N_leaving.nd rfl (by first | exact Or.inl rfl | exact Or.inr rfl)) (pgs_cons (pg_name (i := 5) sc_N_leaving.nd rfl (by first | exact Or.inl rfl | exact Or.inr rfl)) (pgs_cons (pg_name (i := 6) sc_N_leaving.nd rfl (by first | exact Or.inl rfl | exact Or.inr rfl)) (pgs_cons (pg_name (i := 7) sc_N_leaving.nd rfl (by first | exact Or.inl rfl | exact Or.inr rfl)) (pgs_cons (pg_name (i := 8) sc_N_leaving.nd rfl (by first | exact Or.inl rfl | exact Or.inr rfl)) pgs_nil)))))) pgs_nil))) (pss_one (ps_if (PW.pt (pw_and (pt_cmpR op_eq (pv 4) (pv 1) (nomark _)) (pw_and1 (pt_val (pv 8))))) (pss_one (ps_expr (pe_bm PySem.F.plainAttrs_list PySem.F.slot_list_append PySem.F.type_list_append mt_append (pv 2) (pa_cons (pv 3) pa_nil)))) pss_nil)))
      (pss_one (ps_ret (pv 2)))))), ?_⟩
    walk_at "go"
    refine ⟨p, dx, _, rfl, hob, netF_no _ _ (by decide +kernel) (by decide +kernel), ?_⟩
    walk_at "go"
    refine ⟨p, g, r, N, nm, rfl, hN, hl, ho, kE, fun b1 e1 => ?_⟩
    have e1 : seesOf N.gates nm ≠ none := by rw [e1]; simp
    walk_at "go"
    refine ⟨Nat.zero_le _, fun L hL => ?_⟩
    have hpL : p ≠ L := ne_of_none hob hL
    walk_at "go"
    refine ⟨p, _, dx, _, _, rfl, (by rw [upd_ne hpL]; exact hob), T.c_Net, T.na_Net__roads, netF_roads _ _, ?_⟩
    walk_at "go"
    refine ⟨r, us, rfl, SqL.of (same_up hL _ _ hrt), ?_⟩
    refine for_it (walk_enum (K := K) (a := r) (xs := us)) (fun i σ' H' => Same H H' ∧ ∃ v3 v4 v5 v6 v7 v8, σ' = [some (.ref p), some (.str nm), some (.ref L), v3, v4, v5, v6, v7, v8] ∧ H' L = some (.lst ((leavingF N.roads nm i).map V.int)))
      ⟨same_up hL, none, none, none, none, none, none, rfl, upd_same⟩ (fun i σ H' _ ⟨s1, _⟩ => SqL.of (s1 _ _ hrt)) ?_ ?_
    · rintro i x σ' H1 H2 hi ⟨s1, v3, v4, v5, v6, v7, v8, rfl, hL1⟩ ⟨t, x1, x2, rfl, ht, rfl, e3, e4⟩
      cases e3
      obtain ⟨rd, hrd, q, rfl, hq⟩ := paired_getL hP e4
      have s2 := same_new s1 (s1.free ht) (o := HO.tup [V.int (i : Int), V.ref q])
      have hLt : L ≠ t := ne_of_none hL1 ht
      have st := leavingF_step (nm := nm) hrd
      have hL2 : (upd H1 t (HO.tup [V.int (i : Int), V.ref q])) L = some (.lst ((leavingF N.roads nm i).map V.int)) := by rw [upd_ne hLt]; exact hL1
      refine ⟨t, _, rfl, SqT.of upd_same, rfl, ?_⟩
      walk_at "go"
      refine ⟨q, _, rfl, SqT.of (s2 _ _ hq), rfl, ?_⟩
      refine ⟨_, _, rfl, _, _, rfl, _, _, rfl, _, _, rfl, _, _, rfl, rfl, rfl, ?_⟩
      refine do_if1 (decide (rd.one = nm) && rd.op) (an_and (by walk_at "ans") (fun _ Q' q' => ⟨_, rfl, _, rfl, q'⟩)) (fun hb => ?_) (fun hb => ?_)
      · have hb : rd.one = nm ∧ rd.op = true := by simpa using hb
        rw [if_pos hb] at st
        walk_at "go"
        refine ⟨.inl ⟨rfl, _, SqL.of hL2⟩, ?_⟩
        walk_at "go"
        have := leavingF_len N.roads nm i
        refine ⟨L, _, _, rfl, rfl, hL2, Evl.sz_lt (by rw [List.length_map]; omega), ?_⟩
        refine ⟨same_new s2 hL, _, _, _, _, _, _, rfl, ?_⟩
        rw [upd_same, st, List.map_append]
        rfl
      · have hb : ¬ (rd.one = nm ∧ rd.op = true) := fun z => by simp [z.1, z.2] at hb
        rw [if_neg hb] at st
        refine ⟨s2, _, _, _, _, _, _, rfl, ?_⟩
        rw [st]
        exact hL2
    · rintro σ' H1 ⟨s1, v3, v4, v5, v6, v7, v8, rfl, hL1⟩
      walk_at "go"
      rw [hus] at hL1
      exact kQ e1 _ L s1 hL hL1
end
end Toll

set_option Elab.async false
set_option maxRecDepth 100000
set_option maxHeartbeats 4000000
namespace Toll
open PySem L2
local macro_rules | `(tactic| walk_at "go1") => `(tactic| first
  | refine ⟨_, rfl, ?_⟩
  | refine ⟨rfl, ?_⟩
  | refine ⟨_, _, rfl, rfl, ?_⟩
  | refine ⟨_, _, rfl, ?_⟩
  | (with_reducible refine' ⟨log_small ?k1 ?k2, ?_⟩; (case k1 => omega); (case k2 => omega))
  | (refine' ⟨?k1, ?_⟩; (case k1 => ((with_reducible show (_ : Int) < _); omega)))
  | (refine' ⟨⟨?k1, ?k2⟩, ?_⟩; (case k1 => omega); (case k2 => omega))
  | (refine' ⟨⟨?k1, ?k2, ?k3, ?k4⟩, ?_⟩; (case k1 => omega); (case k2 => omega); (case k3 => omega); (case k4 => omega))
  | (refine' ⟨.inl ⟨?k1, ?k2⟩, ?_⟩; (case k1 => omega); (case k2 => omega))
  | (refine' ⟨.inr ⟨?k1, ?k2⟩, ?_⟩; (case k1 => omega); (case k2 => omega))
  | (refine' ⟨Evl.sz_of ?k1, ?_⟩; (case k1 => omega))
  | (refine' ⟨?k1, ?_⟩; (case k1 => ((with_reducible show (_ : Int) ≤ _); omega)))
  | refine ⟨⟨_, rfl⟩, ?_⟩
  | refine .inl ⟨_, rfl, ?_⟩ | refine .inr ⟨_, rfl, ?_⟩
  | refine iteT ?_ | refine iteF ?_)
local macro_rules | `(tactic| walk_at "go") => `(tactic| repeat (walk_at "go1"))
local macro_rules | `(tactic| walk_at "ans") => `(tactic| (intro Q' q'; walk_at "go"; (try rw [dec_int]); (try rw [dec_str]); exact q'))
section
variable {P : Program} {w : World} {K : PySem.W.Frag} {mg : Str → Option Value} {base : Heap} {A : Ads}
def spSomeNumber : Sp := fun vs H Q _ => ∃ (n lo hi : Int), vs = [.int n, .int lo, .int hi] ∧ lo ≤ hi ∧ ∀ v : Int, Q (.int v) H
theorem ok_l_some_number (T : Txt K mg A) : DefOk P w K mg base CX0 1 A.l_some_number ["_law_number", "_law_low", "_law_high"] spSomeNumber := by
  obtain ⟨fd, F⟩ := T.F_l_some_number
  refine ⟨fd, ?_, F.binds (ps := ["_law_number", "_law_low", "_law_high"]) fun _ _ _ _ _ _ us hl => match us, hl with | [_, _, _], _ => rfl, F.kp⟩
  refine F.ok sc_l_some_number (fun vs H Q E h => ?_) (fun cdv A' outer s H vs Q E hr h => ?_)
  · obtain ⟨n, lo, hi, rfl, _⟩ := h
    rfl
  · obtain ⟨n, lo, hi, rfl, hlh, q⟩ := h
    refine ⟨_, (pss_cons (ps_set (i := 3) sc_l_some_number.nd rfl (by first | exact Or.inl rfl | exact Or.inr rfl) (pe_op op_mod (pv 0) pe_int))
      (pss_cons (ps_if (pt_cmpR op_eq (pv 3) pe_int (nomark _)) (pss_one (ps_ret (pv 1))) pss_nil)
      (pss_cons (ps_if (pt_cmpR op_eq (pv 3) pe_int (nomark _)) (pss_one (ps_ret (pv 2))) pss_nil)
      (pss_cons (ps_if (pt_cmpR op_eq (pv 3) pe_int (nomark _)) (pss_one (ps_ret (pe_op op_sub (pe_op op_sub (pv 1) pe_int) (pe_op op_mod (pe_op op_fdiv (pv 0) pe_int) pe_int)))) pss_nil)
      (pss_cons (ps_if (pt_cmpR op_eq (pv 3) pe_int (nomark _)) (pss_one (ps_ret (pe_op op_add (pe_op op_add (pv 2) pe_int) (pe_op op_mod (pe_op op_fdiv (pv 0) pe_int) pe_int)))) pss_nil)
      (pss_cons (ps_if (pt_cmpR op_lt (pv 3) pe_int (nomark _)) (pss_one (ps_ret (pe_op op_add (pv 1) (pe_op op_mod (pe_op op_fdiv (pv 0) pe_int) pe_int)))) pss_nil)
      (pss_one (ps_ret (pe_op op_add (pv 1) (pe_op op_mod (pe_op op_fdiv (pv 0) pe_int) (pe_op op_add (pe_op op_sub (pv 2) (pv 1)) pe_int))))))))))), ?_⟩
    walk_at "go"
    refine ite2 (fun _ => ⟨_, rfl, q _⟩) (fun _ => ?_)
    walk_at "go"
    refine ite2 (fun _ => ⟨_, rfl, q _⟩) (fun _ => ?_)
    walk_at "go"
    refine ite2 (fun _ => ?_) (fun _ => ?_)
    · walk_at "go"
      exact q _
    walk_at "go"
    refine ite2 (fun _ => ?_) (fun _ => ?_)
    · walk_at "go"
      exact q _
    walk_at "go"
    refine ite2 (fun _ => ?_) (fun _ => ?_)
    · walk_at "go"
      exact q _
    walk_at "go"
    exact q _
def spNetDeed : Sp := fun vs H Q _ => ∃ (o og orr : Addr) (gts rts : List Addr) (N : NetD) (n m b : Int), vs = [.int n, .int m, .int b, .ref o] ∧ OwnAt H o og orr gts rts N ∧ N.gates.length ≤ 60 ∧ N.roads.length ≤ 200 ∧ 0 ≤ n ∧ 0 ≤ m ∧ 0 ≤ b ∧
  ∀ (H' : Hp) (v : V) (d : Deed), Same H H' → DeedV H' v d → d.ok → Q v H'
theorem ok_l_net_deed (T : Txt K mg A) : DefOk P w K mg base CX0 2 A.l_net_deed ["_law_number", "_law_other", "_law_base", "_law_own"] spNetDeed := by
  obtain ⟨_, G_l_some_number, B_l_some_number, K_l_some_number⟩ := ok_l_some_number (P := P) (w := w) (base := base) T
  obtain ⟨_, G_l_name, B_l_name, K_l_name⟩ := ok_l_name (P := P) (w := w) (base := base) T
  obtain ⟨fd, F⟩ := T.F_l_net_deed
  refine ⟨fd, ?_, F.binds (ps := ["_law_number", "_law_other", "_law_base", "_law_own"]) fun _ _ _ _ _ _ us hl => match us, hl with | [_, _, _, _], _ => rfl, F.kp⟩
  refine F.ok sc_l_net_deed (fun vs H Q E h => ?_) (fun cdv A' outer s H vs Q E hr h => ?_)
  · obtain ⟨o, og, orr, gts, rts, N, n, m, b, rfl, _⟩ := h
    rfl
  · obtain ⟨o, og, orr, gts, rts, N, n, m, b, rfl, hO, l1, l2, n0, m0, b0, q⟩ := h
    have hgl := paired_len hO.pg
    have hrl := paired_len hO.pr
    refine ⟨_, (pss_cons (ps_set (i := 4) sc_l_net_deed.nd rfl (by first | exact Or.inl rfl | exact Or.inr rfl) (pe_ix (r := rIxL K) ix_list (pe_lst (pa_cons pe_str (pa_cons pe_str (pa_cons pe_str (pa_cons pe_str (pa_cons pe_str (pa_cons pe_str (pa_cons pe_str (pa_cons pe_str (pa_cons pe_str (pa_cons pe_str pa_nil))))))))))) (pe_op op_mod (pv 0) pe_int) (fun _ _ => rfl)))
      (pss_cons (ps_set (i := 5) sc_l_net_deed.nd rfl (by first | exact Or.inl rfl | exact Or.inr rfl) (pe_callB call_len_seq (by rfl) T.b_len PySem.boot_len (pa_cons (pe_ix (r := rIxL K) ix_list (pv 3) pe_int (fun _ _ => rfl)) pa_nil)))
      (pss_cons (ps_set (i := 6) sc_l_net_deed.nd rfl (by first | exact Or.inl rfl | exact Or.inr rfl) (pe_lst (pa_cons (pe_call G_l_name (hr.mono (by decide)) rfl T.m_l_name K_l_name B_l_name .nil pass0 (pa_cons (pv 2) (pa_cons (pe_op op_mod (pe_op op_fdiv (pv 0) pe_int) (pe_callB (call_max2 rfl) (by rfl) T.b_max (by decide +kernel) (pa_cons pe_int (pa_cons (pe_op op_add (pv 5) pe_int) pa_nil)))) pa_nil))) (pa_cons (pe_call G_l_name (hr.mono (by decide)) rfl T.m_l_name K_l_name B_l_name .nil pass0 (pa_cons (pv 2) (pa_cons (pe_op op_mod (pv 1) (pe_callB (call_max2 rfl) (by rfl) T.b_max (by decide +kernel) (pa_cons pe_int (pa_cons (pe_op op_add (pv 5) pe_int) pa_nil)))) pa_nil))) pa_nil))))
      (pss_cons (ps_if (PW.pt (pw_or (pt_cmpR op_eq (pv 4) pe_str (nomark _)) (pw_or1 (pt_cmpR op_eq (pv 5) pe_int (nomark _))))) (pss_one (ps_ret (pe_tup (pa_cons pe_str (pa_cons (pe_ix (r := rIxL K) ix_list (pv 6) pe_int (fun _ _ => rfl)) (pa_cons (pe_cmpR op_eq (pe_op op_mod (pe_op op_fdiv (pv 0) pe_int) pe_int) pe_int (nomark _)) pa_nil)))))) pss_nil)
      (pss_cons (ps_if (pt_cmpR op_eq (pv 4) pe_str (nomark _)) (pss_cons (ps_set (i := 7) sc_l_net_deed.nd rfl (by first | exact Or.inl rfl | exact Or.inr rfl) (pe_call G_l_some_number (hr.mono (by decide)) rfl T.m_l_some_number K_l_some_number B_l_some_number .nil pass0 (pa_cons (pe_op op_fdiv (pv 1) pe_int) (pa_cons pe_int (pa_cons pe_int pa_nil)))))
      (pss_one (ps_ret (pe_tup (pa_cons (pv 4) (pa_cons (pe_ix (r := rIxL K) ix_list (pv 6) pe_int (fun _ _ => rfl)) (pa_cons (pe_ix (r := rIxL K) ix_list (pv 6) pe_int (fun _ _ => rfl)) (pa_cons (pv 7) (pa_cons (pe_call G_l_some_number (hr.mono (by decide)) rfl T.m_l_some_number K_l_some_number B_l_some_number .nil pass0 (pa_cons (pe_op op_fdiv (pv 1) pe_int) (pa_cons pe_int (pa_cons pe_int pa_nil)))) pa_nil))))))))) pss_nil)
      (pss_cons (ps_if (PW.pt (pw_or (pt_cmpR op_eq (pv 4) pe_str (nomark _)) (pw_or1 (pt_cmpR op_eq (pv 4) pe_str (nomark _))))) (pss_one (ps_ret (pe_tup (pa_cons (pv 4) (pa_cons (pe_ix (r := rIxL K) ix_list (pv 6) pe_int (fun _ _ => rfl)) pa_nil))))) pss_nil)
      (pss_one (ps_ret (pe_tup (pa_cons (pv 4) (pa_cons (pe_op op_sub (pe_op op_mod (pe_op op_fdiv (pv 0) pe_int) (pe_op op_add (pe_callB call_len_seq (by rfl) T.b_len PySem.boot_len (pa_cons (pe_ix (r := rIxL K) ix_list (pv 3) pe_int (fun _ _ => rfl)) pa_nil)) pe_int)) pe_int) pa_nil))))))))))), ?_⟩
    walk_at "go"
    refine ⟨(by show 10 ≤ sizeLine; decide), fun p hp => ?_⟩
    have hw : ∃ z : Str, atI [V.str "gate", V.str "road", V.str "road", V.str "road", V.str "blind", V.str "mend", V.str "close", V.str "reopen", V.str "road", V.str "gate"] (n % 10) = some (V.str z) ∧ (z = "gate" ∨ z = "road" ∨ z = "blind" ∨ z = "mend" ∨ z = "close" ∨ z = "reopen") := by
      have h : n % 10 = 0 ∨ n % 10 = 1 ∨ n % 10 = 2 ∨ n % 10 = 3 ∨ n % 10 = 4 ∨ n % 10 = 5 ∨ n % 10 = 6 ∨ n % 10 = 7 ∨ n % 10 = 8 ∨ n % 10 = 9 := by omega
      rcases h with h | h | h | h | h | h | h | h | h | h <;> rw [h]
      · exact ⟨"gate", rfl, by simp⟩
      · exact ⟨"road", rfl, by simp⟩
      · exact ⟨"road", rfl, by simp⟩
      · exact ⟨"road", rfl, by simp⟩
      · exact ⟨"blind", rfl, by simp⟩
      · exact ⟨"mend", rfl, by simp⟩
      · exact ⟨"close", rfl, by simp⟩
      · exact ⟨"reopen", rfl, by simp⟩
      · exact ⟨"road", rfl, by simp⟩
      · exact ⟨"gate", rfl, by simp⟩
    obtain ⟨z, hz, hz6⟩ := hw
    walk_at "go"
    refine ⟨p, _, _, _, rfl, rfl, SqL.of upd_same, hz, ?_⟩
    have s1 := same_up (o := HO.lst [V.str "gate", V.str "road", V.str "road", V.str "road", V.str "blind", V.str "mend", V.str "close", V.str "reopen", V.str "road", V.str "gate"]) hp
    have hO1 := hO.same s1
    generalize upd H p (HO.lst [V.str "gate", V.str "road", V.str "road", V.str "road", V.str "blind", V.str "mend", V.str "close", V.str "reopen", V.str "road", V.str "gate"]) = H1 at s1 hO1
    walk_at "go"
    refine ⟨o, _, _, _, rfl, rfl, SqL.of hO1.ho, atI_nat (j := 0) rfl, ?_⟩
    walk_at "go"
    refine ⟨og, _, rfl, .inl (SqL.of hO1.hg), ?_⟩
    rw [List.length_map]
    walk_at "go"
    have hM : 1 ≤ (if (gts.length : Int) + 1 > 1 then (gts.length : Int) + 1 else 1) ∧ (if (gts.length : Int) + 1 > 1 then (gts.length : Int) + 1 else 1) ≤ 61 := by omega
    generalize hMM : (if (gts.length : Int) + 1 > 1 then (gts.length : Int) + 1 else 1) = M at hM
    have i0 := Int.emod_nonneg (n / 10) (b := M) (by omega)
    have i1 := Int.emod_lt_of_pos (n / 10) (b := M) (by omega)
    have j0 := Int.emod_nonneg m (b := M) (by omega)
    have j1 := Int.emod_lt_of_pos m (b := M) (by omega)
    refine ⟨i0, by omega, fun H2 s2 => ?_⟩
    walk_at "go"
    rw [hMM]
    refine ⟨j0, by omega, fun H3 s3 => ?_⟩
    walk_at "go"
    have ok1 : NameOk (nameOf b (n / 10 % M)) := nameOk_of i0 (by omega)
    have ok2 : NameOk (nameOf b (m % M)) := nameOk_of j0 (by omega)
    generalize nameOf b (n / 10 % M) = n1 at ok1
    generalize nameOf b (m % M) = n2 at ok2
    refine ⟨(by show 2 ≤ sizeLine; decide), fun L hL => ?_⟩
    have s4 : Same H (upd H3 L (HO.lst [V.str n1, V.str n2])) := same_new ((s1.trans s2).trans s3) (((s1.trans s2).trans s3).free hL)
    have hL4 : (upd H3 L (HO.lst [V.str n1, V.str n2])) L = some (HO.lst [V.str n1, V.str n2]) := upd_same
    generalize upd H3 L (HO.lst [V.str n1, V.str n2]) = H4 at s4 hL4
    have hO4 := hO.same s4
    dsimp only [gName]
    refine seq_if1 (decide (z = "gate") || decide ((gts.length : Int) = 0)) (an_or (by walk_at "ans") (fun _ => by walk_at "ans")) (fun _ => ?_) (fun hg => ?_)
    · walk_at "go"
      refine ⟨L, _, _, _, rfl, rfl, SqL.of hL4, atI_nat (j := 0) rfl, ?_⟩
      walk_at "go"
      refine ⟨(by show 3 ≤ sizeLine; decide), fun t ht => ?_⟩
      exact q _ _ (.gate n1 _) (same_new s4 (s4.free ht)) ⟨t, rfl, upd_same⟩ ok1
    have hg : ¬ z = "gate" := fun e => by simp [e] at hg
    refine seq_if1 (decide (z = "road")) (by walk_at "ans") (fun h => ?_) (fun hrd => ?_)
    · have h : z = "road" := of_decide_eq_true h
      subst h
      walk_at "go"
      refine ⟨_, _, _, rfl, by decide, fun mi => ?_⟩
      walk_at "go"
      refine ⟨L, _, _, _, rfl, rfl, SqL.of hL4, atI_nat (j := 0) rfl, ?_⟩
      walk_at "go"
      refine ⟨L, _, _, _, rfl, rfl, SqL.of hL4, atI_nat (j := 1) rfl, ?_⟩
      walk_at "go"
      refine ⟨_, _, _, rfl, by decide, fun tl => ?_⟩
      walk_at "go"
      refine ⟨(by show 5 ≤ sizeLine; decide), fun t ht => ?_⟩
      exact q _ _ (.road n1 n2 mi tl) (same_new s4 (s4.free ht)) ⟨t, rfl, upd_same⟩ ⟨ok1, ok2⟩
    have hrd : ¬ z = "road" := of_decide_eq_false hrd
    refine seq_if1 (decide (z = "blind") || decide (z = "mend")) (an_or (by walk_at "ans") (fun _ => by walk_at "ans")) (fun h => ?_) (fun h => ?_)
    · have h : z = "blind" ∨ z = "mend" := by simpa using h
      walk_at "go"
      refine ⟨L, _, _, _, rfl, rfl, SqL.of hL4, atI_nat (j := 0) rfl, ?_⟩
      walk_at "go"
      refine ⟨(by show 2 ≤ sizeLine; decide), fun t ht => ?_⟩
      rcases h with rfl | rfl
      · exact q _ _ (.turn false n1) (same_new s4 (s4.free ht)) ⟨t, rfl, upd_same⟩ ok1
      · exact q _ _ (.turn true n1) (same_new s4 (s4.free ht)) ⟨t, rfl, upd_same⟩ ok1
    · have h : z = "close" ∨ z = "reopen" := by
        have h1 : ¬ z = "blind" ∧ ¬ z = "mend" := by simpa using h
        rcases hz6 with e | e | e | e | e | e
        · exact absurd e hg
        · exact absurd e hrd
        · exact absurd e h1.1
        · exact absurd e h1.2
        · exact .inl e
        · exact .inr e
      walk_at "go"
      refine ⟨o, _, _, _, rfl, rfl, SqL.of hO4.ho, atI_nat (j := 1) rfl, ?_⟩
      walk_at "go"
      refine ⟨orr, _, rfl, .inl (SqL.of hO4.hr), ?_⟩
      rw [List.length_map]
      walk_at "go"
      refine ⟨(by show 2 ≤ sizeLine; decide), fun t ht => ?_⟩
      rcases h with rfl | rfl
      · exact q _ _ (.lane false _) (same_new s4 (s4.free ht)) ⟨t, rfl, upd_same⟩ trivial
      · exact q _ _ (.lane true _) (same_new s4 (s4.free ht)) ⟨t, rfl, upd_same⟩ trivial
end
end Toll

set_option Elab.async false
set_option maxRecDepth 100000
set_option maxHeartbeats 4000000
namespace Toll
open PySem L2
local macro_rules | `(tactic| walk_at "go1") => `(tactic| first
  | refine ⟨_, rfl, ?_⟩
  | refine ⟨rfl, ?_⟩
  | refine ⟨_, _, rfl, rfl, ?_⟩
  | refine ⟨_, _, rfl, ?_⟩
  | (with_reducible refine' ⟨log_small ?k1 ?k2, ?_⟩; (case k1 => omega); (case k2 => omega))
  | (refine' ⟨?k1, ?_⟩; (case k1 => ((with_reducible show (_ : Int) < _); omega)))
  | (refine' ⟨⟨?k1, ?k2⟩, ?_⟩; (case k1 => omega); (case k2 => omega))
  | (refine' ⟨⟨?k1, ?k2, ?k3, ?k4⟩, ?_⟩; (case k1 => omega); (case k2 => omega); (case k3 => omega); (case k4 => omega))
  | (refine' ⟨.inl ⟨?k1, ?k2⟩, ?_⟩; (case k1 => omega); (case k2 => omega))
  | (refine' ⟨.inr ⟨?k1, ?k2⟩, ?_⟩; (case k1 => omega); (case k2 => omega))
  | (refine' ⟨Evl.sz_of ?k1, ?_⟩; (case k1 => omega))
  | (refine' ⟨?k1, ?_⟩; (case k1 => ((with_reducible show (_ : Int) ≤ _); omega)))
  | refine ⟨⟨_, rfl⟩, ?_⟩
  | refine .inl ⟨_, rfl, ?_⟩ | refine .inr ⟨_, rfl, ?_⟩
  | refine iteT ?_ | refine iteF ?_)
local macro_rules | `(tactic| walk_at "go") => `(tactic| repeat (walk_at "go1"))
local macro_rules | `(tactic| walk_at "ans") => `(tactic| (intro Q' q'; walk_at "go"; (try rw [dec_int]); (try rw [dec_str]); exact q'))
section
variable {P : Program} {w : World} {K : PySem.W.Frag} {mg : Str → Option Value} {base : Heap} {A : Ads}
/-- what the try's body does: a method by the deed's first word -/
def eAll (W : WX) : XK := fun cls d H => ∀ σ, W cls d σ H
def dIx (K : PySem.W.Frag) (i : Int) : TE := tOp (rIxT K) (tVar 1) (tC (.int i))
def dIf (K : PySem.W.Frag) (word : Str) (t : TS) : TS := tIfS (tTest (tOp rEq (dIx K 0) (tC (.str word)))) t tNext
def tb_l_tried (K : PySem.W.Frag) (A : Ads) (W : WX) : TS :=
  tSeq (dIf K "gate" (tRet (tMeth A.C_Net "gate" (spGate A) [] (eAll W) (tVar 0) (tCons (dIx K 1) (tCons (dIx K 2) tNil)))))
  (tSeq (dIf K "road" (tRet (tMeth A.C_Net "road" (spRoad A) [] (eAll W) (tVar 0) (tCons (dIx K 1) (tCons (dIx K 2) (tCons (dIx K 3) (tCons (dIx K 4) tNil)))))))
  (tSeq (dIf K "blind" (tRet (tMeth A.C_Net "blind" (spBlind A false) [] (eAll W) (tVar 0) (tCons (dIx K 1) tNil))))
  (tSeq (dIf K "mend" (tRet (tMeth A.C_Net "mend" (spBlind A true) [] (eAll W) (tVar 0) (tCons (dIx K 1) tNil))))
  (tSeq (dIf K "close" (tRet (tMeth A.C_Net "close" (spClose A false) [] (eAll W) (tVar 0) (tCons (dIx K 1) tNil))))
  (tRet (tMeth A.C_Net "reopen" (spClose A true) [] (eAll W) (tVar 0) (tCons (dIx K 1) tNil)))))))
def tellC (c : Str) : Addr → Value → Option Addr → TS := fun _ _ _ => tRet (tLst (tCons (tC (.str c)) tNil))
def tl_l_tried (A : Ads) : List (Value × (Addr → Value → Option Addr → TS)) :=
  [(.ref A.C_Already, tellC "Already"), (.ref A.C_SameGate, tellC "SameGate"), (.ref A.C_FullNet, tellC "FullNet"), (.ref A.C_NoName, tellC "NoName"), (.ref A.C_NoGate, tellC "NoGate"), (.ref A.C_NoNumber, tellC "NoNumber"), (.ref A.C_NoRoad, tellC "NoRoad")]
def spTried (A : Ads) : Sp := fun vs H Q _ => ∃ (p g r : Addr) (N : NetD) (v : V) (d : Deed), vs = [.ref p, v] ∧ NetAt A.C_Net H p g r N ∧ DeedV H v d ∧ d.ok ∧
  (∀ c, refusal N d = some c → ∀ (H' : Hp) (L : Addr), Same H H' → H L = none → H' L = some (.lst [.str c]) → Q (.ref L) H') ∧
  (refusal N d = none → ∀ H', NetAt A.C_Net H' p g r (done N d) → Keep [g, r] H H' → Q (doneV N d) H')
theorem tell_ok {c : Str} {D : Ends} {σ : L2.St} {H : Hp} {a : Addr} {cls : Value} {d : Option Addr} (h : ∀ (H' : Hp) (L : Addr), Same H H' → H L = none → H' L = some (.lst [.str c]) → D.rt (.ref L) H') : tellC c a cls d D σ H := by
  refine ⟨(by show 1 ≤ sizeLine; decide), fun L hL => ?_⟩
  exact h _ L (same_up hL) hL upd_same
theorem wish_Already (T : Txt K mg A) {D : Ends} {H : Hp} (h : ∀ (H' : Hp) (L : Addr), Same H H' → H L = none → H' L = some (.lst [.str "Already"]) → D.rt (.ref L) H') : eAll (wMany K (fun _ _ _ _ => False) D (tl_l_tried A)) (.ref A.C_Already) none H := fun σ => ⟨true, PySem.W.exm_ref T.e_Already.b T.e_Already.h T.e_Already.t T.v_Already_Already, fun _ a ha => tell_ok h, fun z => by cases z⟩
theorem wish_SameGate (T : Txt K mg A) {D : Ends} {H : Hp} (h : ∀ (H' : Hp) (L : Addr), Same H H' → H L = none → H' L = some (.lst [.str "SameGate"]) → D.rt (.ref L) H') : eAll (wMany K (fun _ _ _ _ => False) D (tl_l_tried A)) (.ref A.C_SameGate) none H := fun σ => ⟨false, PySem.W.exm_ref T.e_Already.b T.e_Already.h T.e_Already.t T.v_SameGate_Already, (fun z => nomatch z), fun _ => ⟨true, PySem.W.exm_ref T.e_SameGate.b T.e_SameGate.h T.e_SameGate.t T.v_SameGate_SameGate, fun _ a ha => tell_ok h, fun z => by cases z⟩⟩
theorem wish_FullNet (T : Txt K mg A) {D : Ends} {H : Hp} (h : ∀ (H' : Hp) (L : Addr), Same H H' → H L = none → H' L = some (.lst [.str "FullNet"]) → D.rt (.ref L) H') : eAll (wMany K (fun _ _ _ _ => False) D (tl_l_tried A)) (.ref A.C_FullNet) none H := fun σ => ⟨false, PySem.W.exm_ref T.e_Already.b T.e_Already.h T.e_Already.t T.v_FullNet_Already, (fun z => nomatch z), fun _ => ⟨false, PySem.W.exm_ref T.e_SameGate.b T.e_SameGate.h T.e_SameGate.t T.v_FullNet_SameGate, (fun z => nomatch z), fun _ => ⟨true, PySem.W.exm_ref T.e_FullNet.b T.e_FullNet.h T.e_FullNet.t T.v_FullNet_FullNet, fun _ a ha => tell_ok h, fun z => by cases z⟩⟩⟩
theorem wish_NoName (T : Txt K mg A) {D : Ends} {H : Hp} (h : ∀ (H' : Hp) (L : Addr), Same H H' → H L = none → H' L = some (.lst [.str "NoName"]) → D.rt (.ref L) H') : eAll (wMany K (fun _ _ _ _ => False) D (tl_l_tried A)) (.ref A.C_NoName) none H := fun σ => ⟨false, PySem.W.exm_ref T.e_Already.b T.e_Already.h T.e_Already.t T.v_NoName_Already, (fun z => nomatch z), fun _ => ⟨false, PySem.W.exm_ref T.e_SameGate.b T.e_SameGate.h T.e_SameGate.t T.v_NoName_SameGate, (fun z => nomatch z), fun _ => ⟨false, PySem.W.exm_ref T.e_FullNet.b T.e_FullNet.h T.e_FullNet.t T.v_NoName_FullNet, (fun z => nomatch z), fun _ => ⟨true, PySem.W.exm_ref T.e_NoName.b T.e_NoName.h T.e_NoName.t T.v_NoName_NoName, fun _ a ha => tell_ok h, fun z => by cases z⟩⟩⟩⟩
theorem wish_NoGate (T : Txt K mg A) {D : Ends} {H : Hp} (h : ∀ (H' : Hp) (L : Addr), Same H H' → H L = none → H' L = some (.lst [.str "NoGate"]) → D.rt (.ref L) H') : eAll (wMany K (fun _ _ _ _ => False) D (tl_l_tried A)) (.ref A.C_NoGate) none H := fun σ => ⟨false, PySem.W.exm_ref T.e_Already.b T.e_Already.h T.e_Already.t T.v_NoGate_Already, (fun z => nomatch z), fun _ => ⟨false, PySem.W.exm_ref T.e_SameGate.b T.e_SameGate.h T.e_SameGate.t T.v_NoGate_SameGate, (fun z => nomatch z), fun _ => ⟨false, PySem.W.exm_ref T.e_FullNet.b T.e_FullNet.h T.e_FullNet.t T.v_NoGate_FullNet, (fun z => nomatch z), fun _ => ⟨false, PySem.W.exm_ref T.e_NoName.b T.e_NoName.h T.e_NoName.t T.v_NoGate_NoName, (fun z => nomatch z), fun _ => ⟨true, PySem.W.exm_ref T.e_NoGate.b T.e_NoGate.h T.e_NoGate.t T.v_NoGate_NoGate, fun _ a ha => tell_ok h, fun z => by cases z⟩⟩⟩⟩⟩
theorem wish_NoNumber (T : Txt K mg A) {D : Ends} {H : Hp} (h : ∀ (H' : Hp) (L : Addr), Same H H' → H L = none → H' L = some (.lst [.str "NoNumber"]) → D.rt (.ref L) H') : eAll (wMany K (fun _ _ _ _ => False) D (tl_l_tried A)) (.ref A.C_NoNumber) none H := fun σ => ⟨false, PySem.W.exm_ref T.e_Already.b T.e_Already.h T.e_Already.t T.v_NoNumber_Already, (fun z => nomatch z), fun _ => ⟨false, PySem.W.exm_ref T.e_SameGate.b T.e_SameGate.h T.e_SameGate.t T.v_NoNumber_SameGate, (fun z => nomatch z), fun _ => ⟨false, PySem.W.exm_ref T.e_FullNet.b T.e_FullNet.h T.e_FullNet.t T.v_NoNumber_FullNet, (fun z => nomatch z), fun _ => ⟨false, PySem.W.exm_ref T.e_NoName.b T.e_NoName.h T.e_NoName.t T.v_NoNumber_NoName, (fun z => nomatch z), fun _ => ⟨false, PySem.W.exm_ref T.e_NoGate.b T.e_NoGate.h T.e_NoGate.t T.v_NoNumber_NoGate, (fun z => nomatch z), fun _ => ⟨true, PySem.W.exm_ref T.e_NoNumber.b T.e_NoNumber.h T.e_NoNumber.t T.v_NoNumber_NoNumber, fun _ a ha => tell_ok h, fun z => by cases z⟩⟩⟩⟩⟩⟩
theorem wish_NoRoad (T : Txt K mg A) {D : Ends} {H : Hp} (h : ∀ (H' : Hp) (L : Addr), Same H H' → H L = none → H' L = some (.lst [.str "NoRoad"]) → D.rt (.ref L) H') : eAll (wMany K (fun _ _ _ _ => False) D (tl_l_tried A)) (.ref A.C_NoRoad) none H := fun σ => ⟨false, PySem.W.exm_ref T.e_Already.b T.e_Already.h T.e_Already.t T.v_NoRoad_Already, (fun z => nomatch z), fun _ => ⟨false, PySem.W.exm_ref T.e_SameGate.b T.e_SameGate.h T.e_SameGate.t T.v_NoRoad_SameGate, (fun z => nomatch z), fun _ => ⟨false, PySem.W.exm_ref T.e_FullNet.b T.e_FullNet.h T.e_FullNet.t T.v_NoRoad_FullNet, (fun z => nomatch z), fun _ => ⟨false, PySem.W.exm_ref T.e_NoName.b T.e_NoName.h T.e_NoName.t T.v_NoRoad_NoName, (fun z => nomatch z), fun _ => ⟨false, PySem.W.exm_ref T.e_NoGate.b T.e_NoGate.h T.e_NoGate.t T.v_NoRoad_NoGate, (fun z => nomatch z), fun _ => ⟨false, PySem.W.exm_ref T.e_NoNumber.b T.e_NoNumber.h T.e_NoNumber.t T.v_NoRoad_NoNumber, (fun z => nomatch z), fun _ => ⟨true, PySem.W.exm_ref T.e_NoRoad.b T.e_NoRoad.h T.e_NoRoad.t T.v_NoRoad_NoRoad, fun _ a ha => tell_ok h, fun z => by cases z⟩⟩⟩⟩⟩⟩⟩
theorem dIf_ans {word w0 : Str} {rest : List V} {t : Addr} {σ : L2.St} {H : Hp} (hs : σ[1]? = some (some (.ref t))) (ht : H t = some (.tup (.str w0 :: rest))) : Ans (tTest (tOp rEq (dIx K 0) (tC (.str word)))) σ H (decide (w0 = word)) := by
  intro Q q
  refine ⟨_, hs, t, _, 0, .str w0, rfl, rfl, SqT.of ht, atI_nat (j := 0) rfl, rfl, _, rfl, ?_⟩
  rw [dec_str]
  exact q
theorem dIf_yes {word w0 : Str} {rest : List V} {t : Addr} {σ : L2.St} {H : Hp} {D : Ends} {u r : TS} (hs : σ[1]? = some (some (.ref t))) (ht : H t = some (.tup (.str w0 :: rest))) (e : decide (w0 = word) = true) (q : u { D with nx := r D } σ H) : tSeq (dIf K word u) r D σ H :=
  seq_if1 _ (dIf_ans hs ht) (fun _ => q) fun z => by rw [e] at z; cases z
theorem dIf_no {word w0 : Str} {rest : List V} {t : Addr} {σ : L2.St} {H : Hp} {D : Ends} {u r : TS} (hs : σ[1]? = some (some (.ref t))) (ht : H t = some (.tup (.str w0 :: rest))) (e : decide (w0 = word) = false) (q : r D σ H) : tSeq (dIf K word u) r D σ H :=
  seq_if1 _ (dIf_ans hs ht) (fun z => by rw [e] at z; cases z) fun _ => q
theorem ok_l_tried (T : Txt K mg A) : DefOk P w K mg base CX0 4 A.l_tried ["_law_net", "_law_deed"] (spTried A) := by
  obtain ⟨_, G_N_gate, B_N_gate, K_N_gate⟩ := ok_N_gate (P := P) (w := w) (base := base) T
  obtain ⟨_, G_N_road, B_N_road, K_N_road⟩ := ok_N_road (P := P) (w := w) (base := base) T
  obtain ⟨_, G_N_blind, B_N_blind, K_N_blind⟩ := ok_N_blind (P := P) (w := w) (base := base) T
  obtain ⟨_, G_N_mend, B_N_mend, K_N_mend⟩ := ok_N_mend (P := P) (w := w) (base := base) T
  obtain ⟨_, G_N_close, B_N_close, K_N_close⟩ := ok_N_close (P := P) (w := w) (base := base) T
  obtain ⟨_, G_N_reopen, B_N_reopen, K_N_reopen⟩ := ok_N_reopen (P := P) (w := w) (base := base) T
  obtain ⟨fd, F⟩ := T.F_l_tried
  refine ⟨fd, ?_, F.binds (ps := ["_law_net", "_law_deed"]) fun _ _ _ _ _ _ us hl => match us, hl with | [_, _], _ => rfl, F.kp⟩
  refine F.ok sc_l_tried (fun vs H Q E h => ?_) (fun cdv A' outer s H vs Q E hr h => ?_)
  · obtain ⟨p, g, r, N, v, d, rfl, _⟩ := h
    rfl
  · obtain ⟨p, g, r, N, v, d, rfl, hN, hD, hok, kR, kD⟩ := h
    refine ⟨_, (pss_one (ps_try_many (tb := tb_l_tried K A) (l := tl_l_tried A) rfl rfl takes0 (fun W pn xe tk _ => (pss_cons (ps_if (pt_cmpR op_eq (pe_ix (r := rIxT K) ix_tup (pv 1) pe_int (fun _ _ => rfl)) pe_str (nomark _)) (pss_one (ps_ret (pe_meth (pv 0) T.c_Net T.M_N_gate G_N_gate (hr.mono (by decide)) B_N_gate .nil (passes_call tk fun _ _ σ _ h => h σ) (pa_cons (pe_ix (r := rIxT K) ix_tup (pv 1) pe_int (fun _ _ => rfl)) (pa_cons (pe_ix (r := rIxT K) ix_tup (pv 1) pe_int (fun _ _ => rfl)) pa_nil))))) pss_nil)
      (pss_cons (ps_if (pt_cmpR op_eq (pe_ix (r := rIxT K) ix_tup (pv 1) pe_int (fun _ _ => rfl)) pe_str (nomark _)) (pss_one (ps_ret (pe_meth (pv 0) T.c_Net T.M_N_road G_N_road (hr.mono (by decide)) B_N_road .nil (passes_call tk fun _ _ σ _ h => h σ) (pa_cons (pe_ix (r := rIxT K) ix_tup (pv 1) pe_int (fun _ _ => rfl)) (pa_cons (pe_ix (r := rIxT K) ix_tup (pv 1) pe_int (fun _ _ => rfl)) (pa_cons (pe_ix (r := rIxT K) ix_tup (pv 1) pe_int (fun _ _ => rfl)) (pa_cons (pe_ix (r := rIxT K) ix_tup (pv 1) pe_int (fun _ _ => rfl)) pa_nil))))))) pss_nil)
      (pss_cons (ps_if (pt_cmpR op_eq (pe_ix (r := rIxT K) ix_tup (pv 1) pe_int (fun _ _ => rfl)) pe_str (nomark _)) (pss_one (ps_ret (pe_meth (pv 0) T.c_Net T.M_N_blind G_N_blind (hr.mono (by decide)) B_N_blind .nil (passes_call tk fun _ _ σ _ h => h σ) (pa_cons (pe_ix (r := rIxT K) ix_tup (pv 1) pe_int (fun _ _ => rfl)) pa_nil)))) pss_nil)
      (pss_cons (ps_if (pt_cmpR op_eq (pe_ix (r := rIxT K) ix_tup (pv 1) pe_int (fun _ _ => rfl)) pe_str (nomark _)) (pss_one (ps_ret (pe_meth (pv 0) T.c_Net T.M_N_mend G_N_mend (hr.mono (by decide)) B_N_mend .nil (passes_call tk fun _ _ σ _ h => h σ) (pa_cons (pe_ix (r := rIxT K) ix_tup (pv 1) pe_int (fun _ _ => rfl)) pa_nil)))) pss_nil)
      (pss_cons (ps_if (pt_cmpR op_eq (pe_ix (r := rIxT K) ix_tup (pv 1) pe_int (fun _ _ => rfl)) pe_str (nomark _)) (pss_one (ps_ret (pe_meth (pv 0) T.c_Net T.M_N_close G_N_close (hr.mono (by decide)) B_N_close .nil (passes_call tk fun _ _ σ _ h => h σ) (pa_cons (pe_ix (r := rIxT K) ix_tup (pv 1) pe_int (fun _ _ => rfl)) pa_nil)))) pss_nil)
      (pss_one (ps_ret (pe_meth (pv 0) T.c_Net T.M_N_reopen G_N_reopen (hr.mono (by decide)) B_N_reopen .nil (passes_call tk fun _ _ σ _ h => h σ) (pa_cons (pe_ix (r := rIxT K) ix_tup (pv 1) pe_int (fun _ _ => rfl)) pa_nil)))))))))) (.cons ⟨rfl, by decide, .inl T.e_Already.g⟩ (fun a oe cls d pn hz hf => (pss_one (ps_ret (pe_lst (pa_cons pe_str pa_nil))))) (.cons ⟨rfl, by decide, .inl T.e_SameGate.g⟩ (fun a oe cls d pn hz hf => (pss_one (ps_ret (pe_lst (pa_cons pe_str pa_nil))))) (.cons ⟨rfl, by decide, .inl T.e_FullNet.g⟩ (fun a oe cls d pn hz hf => (pss_one (ps_ret (pe_lst (pa_cons pe_str pa_nil))))) (.cons ⟨rfl, by decide, .inl T.e_NoName.g⟩ (fun a oe cls d pn hz hf => (pss_one (ps_ret (pe_lst (pa_cons pe_str pa_nil))))) (.cons ⟨rfl, by decide, .inl T.e_NoGate.g⟩ (fun a oe cls d pn hz hf => (pss_one (ps_ret (pe_lst (pa_cons pe_str pa_nil))))) (.cons ⟨rfl, by decide, .inl T.e_NoNumber.g⟩ (fun a oe cls d pn hz hf => (pss_one (ps_ret (pe_lst (pa_cons pe_str pa_nil))))) (.cons ⟨rfl, by decide, .inl T.e_NoRoad.g⟩ (fun a oe cls d pn hz hf => (pss_one (ps_ret (pe_lst (pa_cons pe_str pa_nil))))) .nil))))))))), ?_⟩
    obtain ⟨t, rfl, ht⟩ := hD
    obtain ⟨⟨dx, hob⟩, _⟩ := id hN
    cases d with
    | gate nm b =>
      refine dIf_yes rfl ht (by decide +kernel) ?_
      walk_at "go"
      refine ⟨p, dx, _, rfl, hob, netF_no _ _ (by decide +kernel) (by decide +kernel), ?_⟩
      walk_at "go"
      refine ⟨t, _, _, _, rfl, rfl, SqT.of ht, atI_nat (j := 1) rfl, ?_⟩
      walk_at "go"
      refine ⟨t, _, _, _, rfl, rfl, SqT.of ht, atI_nat (j := 2) rfl, ?_⟩
      obtain ⟨o1, o2, o3⟩ := hok
      refine ⟨p, g, r, N, nm, b, rfl, hN, by omega, o2, fun z => ?_, fun _ z H' s => ?_, fun _ z1 z2 H' s => ?_, fun _ z1 z2 H' n' k' => ?_⟩
      · rw [o3] at z; cases z
      · exact wish_SameGate T fun H2 L s2 hL hL2 => kR "SameGate" (by show (if _ then _ else _) = _; rw [if_pos z]) H2 L (s.trans s2) (s.free hL) hL2
      · exact wish_FullNet T fun H2 L s2 hL hL2 => kR "FullNet" (by show (if _ then _ else _) = _; rw [if_neg (by simp [z1]), if_pos (by omega)]) H2 L (s.trans s2) (s.free hL) hL2
      · exact kD (by show (if _ then _ else _) = _; rw [if_neg (by simp [z1]), if_neg (by omega)]) H' n' (k'.mono (by simp))
    | road one other mi tl =>
      refine dIf_no rfl ht (by decide +kernel) ?_
      refine dIf_yes rfl ht (by decide +kernel) ?_
      walk_at "go"
      refine ⟨p, dx, _, rfl, hob, netF_no _ _ (by decide +kernel) (by decide +kernel), ?_⟩
      walk_at "go"
      refine ⟨t, _, _, _, rfl, rfl, SqT.of ht, atI_nat (j := 1) rfl, ?_⟩
      walk_at "go"
      refine ⟨t, _, _, _, rfl, rfl, SqT.of ht, atI_nat (j := 2) rfl, ?_⟩
      walk_at "go"
      refine ⟨t, _, _, _, rfl, rfl, SqT.of ht, atI_nat (j := 3) rfl, ?_⟩
      walk_at "go"
      refine ⟨t, _, _, _, rfl, rfl, SqT.of ht, atI_nat (j := 4) rfl, ?_⟩
      obtain ⟨⟨o1, o2, o3⟩, o4, o5, o6⟩ := hok
      refine ⟨p, g, r, N, one, other, mi, tl, rfl, hN, by omega, o2, by omega, o5, fun z => ?_, fun z1 z2 z3 => ?_, fun z1 z2 z3 z4 => ?_, fun z1 z2 z3 z4 z5 => ?_, fun z1 z2 z3 z4 z5 H' n' k' => ?_⟩
      · exact wish_NoGate T fun H2 L s2 hL hL2 => kR "NoGate" (by show (if _ then _ else _) = _; rw [if_pos z]) H2 L s2 hL hL2
      · exact wish_SameGate T fun H2 L s2 hL hL2 => kR "SameGate" (by show (if _ then _ else _) = _; rw [if_neg (by simp [z1, z2]), if_pos z3]) H2 L s2 hL hL2
      · exact wish_NoNumber T fun H2 L s2 hL hL2 => kR "NoNumber" (by show (if _ then _ else _) = _; rw [if_neg (by simp [z1, z2]), if_neg z3, if_pos (by omega)]) H2 L s2 hL hL2
      · exact wish_FullNet T fun H2 L s2 hL hL2 => kR "FullNet" (by show (if _ then _ else _) = _; rw [if_neg (by simp [z1, z2]), if_neg z3, if_neg (by omega), if_pos (by omega)]) H2 L s2 hL hL2
      · exact kD (by show (if _ then _ else _) = _; rw [if_neg (by simp [z1, z2]), if_neg z3, if_neg (by omega), if_neg (by omega)]) H' n' (k'.mono (by simp))
    | turn b nm =>
      cases b with
      | false =>
        refine dIf_no rfl ht (by decide +kernel) ?_
        refine dIf_no rfl ht (by decide +kernel) ?_
        refine dIf_yes rfl ht (by decide +kernel) ?_
        walk_at "go"
        refine ⟨p, dx, _, rfl, hob, netF_no _ _ (by decide +kernel) (by decide +kernel), ?_⟩
        walk_at "go"
        refine ⟨t, _, _, _, rfl, rfl, SqT.of ht, atI_nat (j := 1) rfl, ?_⟩
        obtain ⟨o1, o2, o3⟩ := hok
        refine ⟨p, g, r, N, nm, rfl, hN, by omega, o2, fun z => ?_, fun z => ?_, fun z H' n' k' => ?_⟩
        · exact wish_NoGate T fun H2 L s2 hL hL2 => kR "NoGate" (refusal_turn0 z) H2 L s2 hL hL2
        · exact wish_Already T fun H2 L s2 hL hL2 => kR "Already" (refusal_turn1 z) H2 L s2 hL hL2
        · exact kD (refusal_turn2 z) H' n' (k'.mono (by simp))
      | true =>
        refine dIf_no rfl ht (by decide +kernel) ?_
        refine dIf_no rfl ht (by decide +kernel) ?_
        refine dIf_no rfl ht (by decide +kernel) ?_
        refine dIf_yes rfl ht (by decide +kernel) ?_
        walk_at "go"
        refine ⟨p, dx, _, rfl, hob, netF_no _ _ (by decide +kernel) (by decide +kernel), ?_⟩
        walk_at "go"
        refine ⟨t, _, _, _, rfl, rfl, SqT.of ht, atI_nat (j := 1) rfl, ?_⟩
        obtain ⟨o1, o2, o3⟩ := hok
        refine ⟨p, g, r, N, nm, rfl, hN, by omega, o2, fun z => ?_, fun z => ?_, fun z H' n' k' => ?_⟩
        · exact wish_NoGate T fun H2 L s2 hL hL2 => kR "NoGate" (refusal_turn0 z) H2 L s2 hL hL2
        · exact wish_Already T fun H2 L s2 hL hL2 => kR "Already" (refusal_turn1 z) H2 L s2 hL hL2
        · exact kD (refusal_turn2 z) H' n' (k'.mono (by simp))
    | lane b n =>
      cases b with
      | false =>
        refine dIf_no rfl ht (by decide +kernel) ?_
        refine dIf_no rfl ht (by decide +kernel) ?_
        refine dIf_no rfl ht (by decide +kernel) ?_
        refine dIf_no rfl ht (by decide +kernel) ?_
        refine dIf_yes rfl ht (by decide +kernel) ?_
        walk_at "go"
        refine ⟨p, dx, _, rfl, hob, netF_no _ _ (by decide +kernel) (by decide +kernel), ?_⟩
        walk_at "go"
        refine ⟨t, _, _, _, rfl, rfl, SqT.of ht, atI_nat (j := 1) rfl, ?_⟩
        refine ⟨p, g, r, N, n, rfl, hN, fun z => ?_, fun rd z0 z1 z2 => ?_, fun rd z0 z1 z2 H' n' k' => ?_⟩
        · exact wish_NoRoad T fun H2 L s2 hL hL2 => kR "NoRoad" (refusal_lane0 z) H2 L s2 hL hL2
        · exact wish_Already T fun H2 L s2 hL hL2 => kR "Already" (refusal_lane1 z0 z1 z2) H2 L s2 hL hL2
        · refine kD (refusal_lane2 z0 z1 z2) H' ?_ (k'.mono (by simp))
          rw [done_lane z1]
          exact n'
      | true =>
        refine dIf_no rfl ht (by decide +kernel) ?_
        refine dIf_no rfl ht (by decide +kernel) ?_
        refine dIf_no rfl ht (by decide +kernel) ?_
        refine dIf_no rfl ht (by decide +kernel) ?_
        refine dIf_no rfl ht (by decide +kernel) ?_
        walk_at "go"
        refine ⟨p, dx, _, rfl, hob, netF_no _ _ (by decide +kernel) (by decide +kernel), ?_⟩
        walk_at "go"
        refine ⟨t, _, _, _, rfl, rfl, SqT.of ht, atI_nat (j := 1) rfl, ?_⟩
        refine ⟨p, g, r, N, n, rfl, hN, fun z => ?_, fun rd z0 z1 z2 => ?_, fun rd z0 z1 z2 H' n' k' => ?_⟩
        · exact wish_NoRoad T fun H2 L s2 hL hL2 => kR "NoRoad" (refusal_lane0 z) H2 L s2 hL hL2
        · exact wish_Already T fun H2 L s2 hL hL2 => kR "Already" (refusal_lane1 z0 z1 z2) H2 L s2 hL hL2
        · refine kD (refusal_lane2 z0 z1 z2) H' ?_ (k'.mono (by simp))
          rw [done_lane z1]
          exact n'
end
end Toll

set_option Elab.async false
set_option maxRecDepth 100000
set_option maxHeartbeats 4000000
namespace Toll
open PySem L2
local macro_rules | `(tactic| walk_at "go1") => `(tactic| first
  | refine ⟨_, rfl, ?_⟩
  | refine ⟨rfl, ?_⟩
  | refine ⟨_, _, rfl, rfl, ?_⟩
  | refine ⟨_, _, rfl, ?_⟩
  | (with_reducible refine' ⟨log_small ?k1 ?k2, ?_⟩; (case k1 => omega); (case k2 => omega))
  | (refine' ⟨?k1, ?_⟩; (case k1 => ((with_reducible show (_ : Int) < _); omega)))
  | (refine' ⟨⟨?k1, ?k2⟩, ?_⟩; (case k1 => omega); (case k2 => omega))
  | (refine' ⟨⟨?k1, ?k2, ?k3, ?k4⟩, ?_⟩; (case k1 => omega); (case k2 => omega); (case k3 => omega); (case k4 => omega))
  | (refine' ⟨.inl ⟨?k1, ?k2⟩, ?_⟩; (case k1 => omega); (case k2 => omega))
  | (refine' ⟨.inr ⟨?k1, ?k2⟩, ?_⟩; (case k1 => omega); (case k2 => omega))
  | (refine' ⟨Evl.sz_of ?k1, ?_⟩; (case k1 => omega))
  | (refine' ⟨?k1, ?_⟩; (case k1 => ((with_reducible show (_ : Int) ≤ _); omega)))
  | refine ⟨⟨_, rfl⟩, ?_⟩
  | refine .inl ⟨_, rfl, ?_⟩ | refine .inr ⟨_, rfl, ?_⟩
  | refine iteT ?_ | refine iteF ?_)
local macro_rules | `(tactic| walk_at "go") => `(tactic| repeat (walk_at "go1"))
local macro_rules | `(tactic| walk_at "ans") => `(tactic| (intro Q' q'; walk_at "go"; (try rw [dec_int]); (try rw [dec_str]); exact q'))
section
variable {P : Program} {w : World} {K : PySem.W.Frag} {mg : Str → Option Value} {base : Heap} {A : Ads}
theorem in_ans {t D : Addr} {xs : List V} {i : Int} {nm : Str} {gs : List (Str × Bool)} {σ : L2.St} {H : Hp} (hs : σ[1]? = some (some (.ref t))) (hn : σ[2]? = some (some (.ref D))) (ht : H t = some (.tup xs)) (hi : atI xs i = some (.str nm)) (hL : H D = some (.lst (namesV gs))) :
    Ans (tTest (tOp (rIn K false) (dIx K i) (tVar 2))) σ H ((seesOf gs nm).isSome) := by
  intro Q q
  refine ⟨_, hs, t, _, i, .str nm, rfl, rfl, SqT.of ht, hi, _, hn, D, _, rfl, .inl (SqL.of hL), rfl, namesV_flat _, _, rfl, ?_⟩
  show Q (inV (.str nm) (namesV gs)) H
  rw [inV_names]
  exact q
theorem notin_ans {t D : Addr} {xs : List V} {i : Int} {nm : Str} {gs : List (Str × Bool)} {σ : L2.St} {H : Hp} (hs : σ[1]? = some (some (.ref t))) (hn : σ[2]? = some (some (.ref D))) (ht : H t = some (.tup xs)) (hi : atI xs i = some (.str nm)) (hL : H D = some (.lst (namesV gs))) :
    Ans (tTest (tOp (rIn K true) (dIx K i) (tVar 2))) σ H (!(seesOf gs nm).isSome) := by
  intro Q q
  refine ⟨_, hs, t, _, i, .str nm, rfl, rfl, SqT.of ht, hi, _, hn, D, _, rfl, .inl (SqL.of hL), rfl, namesV_flat _, _, rfl, ?_⟩
  show Q (!inV (.str nm) (namesV gs)) H
  rw [inV_names]
  exact q
def spRefusal : Sp := fun vs H Q _ => ∃ (o og orr : Addr) (gts rts : List Addr) (N : NetD) (v : V) (d : Deed), vs = [.ref o, v] ∧ OwnAt H o og orr gts rts N ∧ N.gates.length ≤ 60 ∧ N.roads.length ≤ 200 ∧ DeedV H v d ∧
  ∀ (H' : Hp) (L : Addr), Same H H' → H L = none → H' L = some (.lst (refV (refusal N d))) → Q (.ref L) H'
theorem ok_l_refusal (T : Txt K mg A) : DefOk P w K mg base CX0 1 A.l_refusal ["_law_own", "_law_deed"] spRefusal := by
  obtain ⟨fd, F⟩ := T.F_l_refusal
  refine ⟨fd, ?_, F.binds (ps := ["_law_own", "_law_deed"]) fun _ _ _ _ _ _ us hl => match us, hl with | [_, _], _ => rfl, F.kp⟩
  refine F.ok sc_l_refusal (fun vs H Q E h => ?_) (fun cdv A' outer s H vs Q E hr h => ?_)
  · obtain ⟨o, og, orr, gts, rts, N, v, d, rfl, _⟩ := h
    rfl
  · obtain ⟨o, og, orr, gts, rts, N, v, d, rfl, hO, l1, l2, ⟨t, rfl, ht⟩, q⟩ := h
    have hgl := paired_len hO.pg
    have hrl := paired_len hO.pr
    refine ⟨_, (pss_cons (ps_setLc (i := 2) (own := [("_law_gate", 3)]) rfl sc_l_refusal.nd rfl rfl (sw_true rfl rfl rfl (by decide +kernel)) (pi_list (pe_ix (r := rIxL K) ix_list (pv 0) pe_int (fun _ _ => rfl))) (blkOk_by (own := [("_law_gate", 3)]) (N := n_l_refusal) (sc := defScope s_l_refusal) (by decide +kernel)) (fun _ _ _ _ _ => (pg_name (i := 3) sc_l_refusal.nd rfl (by first | exact Or.inl rfl | exact Or.inr rfl))) (fun _ _ _ _ _ => pts_nil) (fun _ _ _ _ _ => (pe_ix (r := rIxL K) ix_list (pv 3) pe_int (fun _ _ => rfl))))
      (pss_cons (ps_if (pt_cmpR op_eq (pe_ix (r := rIxT K) ix_tup (pv 1) pe_int (fun _ _ => rfl)) pe_str (nomark _)) (pss_cons (ps_if (pt_cmpR op_in_seq (pe_ix (r := rIxT K) ix_tup (pv 1) pe_int (fun _ _ => rfl)) (pv 2) rfl) (pss_one (ps_ret (pe_lst (pa_cons pe_str pa_nil)))) pss_nil)
      (pss_one (ps_ret (pe_op op_rep (pe_lst (pa_cons pe_str pa_nil)) (pe_callTy call_int1 (by rfl) T.b_int (by decide +kernel) (pa_cons (pe_cmpR op_gt (pe_callB call_len_seq (by rfl) T.b_len PySem.boot_len (pa_cons (pv 2) pa_nil)) pe_int (nomark _)) pa_nil)))))) pss_nil)
      (pss_cons (ps_if (pt_cmpR op_eq (pe_ix (r := rIxT K) ix_tup (pv 1) pe_int (fun _ _ => rfl)) pe_str (nomark _)) (pss_cons (ps_if (PW.pt (pw_or (pt_cmpR op_notIn_seq (pe_ix (r := rIxT K) ix_tup (pv 1) pe_int (fun _ _ => rfl)) (pv 2) rfl) (pw_or1 (pt_cmpR op_notIn_seq (pe_ix (r := rIxT K) ix_tup (pv 1) pe_int (fun _ _ => rfl)) (pv 2) rfl)))) (pss_one (ps_ret (pe_lst (pa_cons pe_str pa_nil)))) pss_nil)
      (pss_cons (ps_if (pt_cmpR op_eq (pe_ix (r := rIxT K) ix_tup (pv 1) pe_int (fun _ _ => rfl)) (pe_ix (r := rIxT K) ix_tup (pv 1) pe_int (fun _ _ => rfl)) (nomark _)) (pss_one (ps_ret (pe_lst (pa_cons pe_str pa_nil)))) pss_nil)
      (pss_cons (ps_if (PW.pt (pw_or (pt_not (pt_chain op_lt op_lt pe_int (pe_ix (r := rIxT K) ix_tup (pv 1) pe_int (fun _ _ => rfl)) pe_int)) (pw_or1 (pt_not (pt_chain op_le op_lt pe_int (pe_ix (r := rIxT K) ix_tup (pv 1) pe_int (fun _ _ => rfl)) pe_int))))) (pss_one (ps_ret (pe_lst (pa_cons pe_str pa_nil)))) pss_nil)
      (pss_one (ps_ret (pe_op op_rep (pe_lst (pa_cons pe_str pa_nil)) (pe_callTy call_int1 (by rfl) T.b_int (by decide +kernel) (pa_cons (pe_cmpR op_gt (pe_callB call_len_seq (by rfl) T.b_len PySem.boot_len (pa_cons (pe_ix (r := rIxL K) ix_list (pv 0) pe_int (fun _ _ => rfl)) pa_nil)) pe_int (nomark _)) pa_nil)))))))) pss_nil)
      (pss_cons (ps_if (PW.pt (pw_or (pt_cmpR op_eq (pe_ix (r := rIxT K) ix_tup (pv 1) pe_int (fun _ _ => rfl)) pe_str (nomark _)) (pw_or1 (pt_cmpR op_eq (pe_ix (r := rIxT K) ix_tup (pv 1) pe_int (fun _ _ => rfl)) pe_str (nomark _))))) (pss_cons (ps_if (pt_cmpR op_notIn_seq (pe_ix (r := rIxT K) ix_tup (pv 1) pe_int (fun _ _ => rfl)) (pv 2) rfl) (pss_one (ps_ret (pe_lst (pa_cons pe_str pa_nil)))) pss_nil)
      (pss_one (ps_ret (pe_op op_rep (pe_lst (pa_cons pe_str pa_nil)) (pe_callTy call_int1 (by rfl) T.b_int (by decide +kernel) (pa_cons (pe_cmpR op_eq (pe_ix (r := rIxL K) ix_list (pe_ix (r := rIxL K) ix_list (pe_ix (r := rIxL K) ix_list (pv 0) pe_int (fun _ _ => rfl)) (pe_bm PySem.F.plainAttrs_list PySem.F.slot_list_index PySem.F.type_list_index mt_index (pv 2) (pa_cons (pe_ix (r := rIxT K) ix_tup (pv 1) pe_int (fun _ _ => rfl)) pa_nil)) (fun _ _ => rfl)) pe_int (fun _ _ => rfl)) (pe_cmpR op_eq (pe_ix (r := rIxT K) ix_tup (pv 1) pe_int (fun _ _ => rfl)) pe_str (nomark _)) (nomark _)) pa_nil)))))) pss_nil)
      (pss_cons (ps_if (pt_not (pt_chain op_le op_lt pe_int (pe_ix (r := rIxT K) ix_tup (pv 1) pe_int (fun _ _ => rfl)) (pe_callB call_len_seq (by rfl) T.b_len PySem.boot_len (pa_cons (pe_ix (r := rIxL K) ix_list (pv 0) pe_int (fun _ _ => rfl)) pa_nil)))) (pss_one (ps_ret (pe_lst (pa_cons pe_str pa_nil)))) pss_nil)
      (pss_one (ps_ret (pe_op op_rep (pe_lst (pa_cons pe_str pa_nil)) (pe_callTy call_int1 (by rfl) T.b_int (by decide +kernel) (pa_cons (pe_cmpR op_eq (pe_ix (r := rIxL K) ix_list (pe_ix (r := rIxL K) ix_list (pe_ix (r := rIxL K) ix_list (pv 0) pe_int (fun _ _ => rfl)) (pe_ix (r := rIxT K) ix_tup (pv 1) pe_int (fun _ _ => rfl)) (fun _ _ => rfl)) pe_int (fun _ _ => rfl)) (pe_cmpR op_eq (pe_ix (r := rIxT K) ix_tup (pv 1) pe_int (fun _ _ => rfl)) pe_str (nomark _)) (nomark _)) pa_nil)))))))))), ?_⟩
    walk_at "go"
    refine ⟨o, _, _, _, rfl, rfl, SqL.of hO.ho, atI_nat (j := 0) rfl, ?_⟩
    refine ⟨og, rfl, ⟨_, SqL.of hO.hg⟩, fun D hD => ?_⟩
    refine lc_list (K := K) (a := og) (xs := gts.map V.ref) (fun i H' => Same H H' ∧ H' D = some (.lst (namesV (N.gates.take i)))) ⟨same_up hD, upd_same⟩ (fun i H' _ ⟨s1, _⟩ => SqL.of (s1 _ _ hO.hg)) ?_ ?_
    · rintro i x H1 hi ⟨s1, hL⟩
      obtain ⟨tg, htg, rfl⟩ : ∃ tg, gts[i]? = some tg ∧ x = V.ref tg := by
        rw [List.getElem?_map] at hi
        cases e : gts[i]? with
        | none => rw [e] at hi; cases hi
        | some tg => rw [e] at hi; exact ⟨tg, rfl, (Option.some.inj hi).symm⟩
      obtain ⟨gq, hgq, hgl2⟩ := paired_getL hO.pg htg
      refine ⟨rfl, ?_⟩
      walk_at "go"
      refine ⟨tg, _, _, _, rfl, rfl, SqL.of (s1 _ _ hgl2), atI_nat (j := 0) rfl, ?_⟩
      refine ⟨_, hL, Evl.sz_lt (by simp [namesV]; omega), same_new s1 hD, ?_⟩
      rw [upd_same, List.take_add_one, hgq]
      simp [namesV]
    · rintro H1 ⟨s1, hL⟩
      rw [List.length_map, hgl, List.take_length] at hL
      have ht1 := s1 _ _ ht
      have hO1 := hO.same s1
      have fin1 : ∀ (c : Str), refusal N d = some c → ∀ p, H1 p = none → Q (.ref p) (upd H1 p (.lst [.str c])) := fun c e p hp => q _ p (same_new s1 (s1.free hp)) (s1.free hp) (by rw [upd_same, e]; rfl)
      have fin2 : ∀ (c : Str) (b : Bool), refusal N d = (if b = true then some c else none) → ∀ p1, H1 p1 = none → ∀ p2, (upd H1 p1 (.lst [.str c])) p2 = none →
          Q (.ref p2) (upd (upd H1 p1 (.lst [.str c])) p2 (.lst (List.replicate (if b = true then (1 : Int) else 0).toNat [V.str c]).flatten)) := fun c b e p1 hp1 p2 hp2 => by
        have s2 := same_new s1 (s1.free hp1) (o := HO.lst [V.str c])
        refine q _ p2 (same_new s2 (s2.free hp2)) (s2.free hp2) ?_
        rw [upd_same, rep_one, e]
        cases b <;> rfl
      dsimp only [gName]
      cases d with
      | gate nm b =>
        refine seq_if (decide (("gate" : Str) = "gate")) (dIf_ans rfl ht1) (fun _ => ?_) (fun z => by rw [show decide (("gate" : Str) = "gate") = true by decide +kernel] at z; cases z)
        refine seq_if1 _ (in_ans rfl rfl ht1 (atI_nat (j := 1) rfl) hL) (fun z => ?_) (fun z => ?_)
        · have z : seesOf N.gates nm ≠ none := by
            intro e
            rw [e] at z
            cases z
          walk_at "go"
          refine ⟨(by show 1 ≤ sizeLine; decide), fun p hp => fin1 "SameGate" ?_ p hp⟩
          exact if_pos z
        · have z : seesOf N.gates nm = none := by
            cases e : seesOf N.gates nm with
            | none => rfl
            | some c => rw [e] at z; cases z
          walk_at "go"
          refine ⟨(by show 1 ≤ sizeLine; decide), fun p hp => ?_⟩
          have hDp : D ≠ p := ne_of_none hL hp
          walk_at "go"
          refine ⟨D, _, rfl, .inl (SqL.of (by rw [upd_ne hDp]; exact hL)), ?_⟩
          rw [show (namesV N.gates).length = N.gates.length by simp [namesV]]
          walk_at "go"
          refine ⟨p, _, _, rfl, rfl, upd_same, (by split <;> decide), (by split <;> decide), (by show 1 * _ ≤ _; split <;> decide), fun p2 hp2 => ?_⟩
          refine fin2 "FullNet" _ ?_ p hp p2 hp2
          show (if seesOf N.gates nm ≠ none then _ else if 59 < N.gates.length then _ else _) = _
          rw [if_neg (by simp [z])]
          by_cases h : 59 < N.gates.length
          · rw [if_pos h, if_pos (decide_eq_true (by omega))]
          · rw [if_neg h, if_neg (by simp; omega)]
      | road one other mi tl =>
        have hseen : ∀ nm, (seesOf N.gates nm).isSome = false ↔ seesOf N.gates nm = none := fun nm => by cases seesOf N.gates nm <;> simp
        refine dIf_no rfl ht1 (by decide +kernel) ?_
        refine dIf_yes rfl ht1 (by decide +kernel) ?_
        refine seq_if1 _ (an_or (notin_ans rfl rfl ht1 (atI_nat (j := 1) rfl) hL) fun _ => notin_ans rfl rfl ht1 (atI_nat (j := 2) rfl) hL) (fun z => ?_) (fun z => ?_)
        · have z : seesOf N.gates one = none ∨ seesOf N.gates other = none := by simpa using z
          walk_at "go"
          refine ⟨(by show 1 ≤ sizeLine; decide), fun p hp => fin1 "NoGate" ?_ p hp⟩
          exact if_pos z
        have z : ¬ (seesOf N.gates one = none ∨ seesOf N.gates other = none) := by
          intro e
          rcases e with e | e <;> simp [e] at z
        refine seq_if1 (decide (one = other)) (by
          intro Q' q'
          walk_at "go"
          refine ⟨t, _, _, _, rfl, rfl, SqT.of ht1, atI_nat (j := 1) rfl, ?_⟩
          walk_at "go"
          refine ⟨t, _, _, _, rfl, rfl, SqT.of ht1, atI_nat (j := 2) rfl, ?_⟩
          walk_at "go"
          rw [dec_str]
          exact q') (fun e => ?_) (fun e => ?_)
        · have e : one = other := of_decide_eq_true e
          walk_at "go"
          refine ⟨(by show 1 ≤ sizeLine; decide), fun p hp => fin1 "SameGate" ?_ p hp⟩
          show (if _ then _ else if _ then _ else _) = _
          rw [if_neg z, if_pos e]
        have e : ¬ one = other := of_decide_eq_false e
        refine seq_if1 (!(decide (0 < mi) && decide (mi < 1000001)) || !(decide (0 ≤ tl) && decide (tl < 1000001))) (an_or (by
          intro Q' q'
          walk_at "go"
          refine ⟨t, _, _, _, rfl, rfl, SqT.of ht1, atI_nat (j := 3) rfl, ?_⟩
          walk_at "go"
          refine ite2 (fun h => ?_) (fun h => ?_)
          · walk_at "go"
            rw [h, Bool.true_and] at q'
            exact q'
          · walk_at "go"
            rw [Bool.eq_false_iff.mpr h, Bool.false_and] at q'
            exact q') (fun _ => by
          intro Q' q'
          walk_at "go"
          refine ⟨t, _, _, _, rfl, rfl, SqT.of ht1, atI_nat (j := 4) rfl, ?_⟩
          walk_at "go"
          refine ite2 (fun h => ?_) (fun h => ?_)
          · walk_at "go"
            rw [h, Bool.true_and] at q'
            exact q'
          · walk_at "go"
            rw [Bool.eq_false_iff.mpr h, Bool.false_and] at q'
            exact q')) (fun h => ?_) (fun h => ?_)
        · have h : ¬ (0 < mi ∧ mi < 1000001) ∨ ¬ (0 ≤ tl ∧ tl < 1000001) := by
            rcases Bool.or_eq_true_iff.mp h with h | h
            · exact .inl fun y => by simp [y.1, y.2] at h
            · exact .inr fun y => by simp [y.1, y.2] at h
          walk_at "go"
          refine ⟨(by show 1 ≤ sizeLine; decide), fun p hp => fin1 "NoNumber" ?_ p hp⟩
          show (if _ then _ else if _ then _ else if _ then _ else _) = _
          rw [if_neg z, if_neg e, if_pos h]
        · have h : ¬ (¬ (0 < mi ∧ mi < 1000001) ∨ ¬ (0 ≤ tl ∧ tl < 1000001)) := by
            intro y
            rcases Bool.or_eq_false_iff.mp h with ⟨h1, h2⟩
            simp at h1 h2
            omega
          walk_at "go"
          refine ⟨(by show 1 ≤ sizeLine; decide), fun p hp => ?_⟩
          have sp := same_up (o := HO.lst [V.str "FullNet"]) hp
          have hOp := hO1.same sp
          walk_at "go"
          refine ⟨o, _, _, _, rfl, rfl, SqL.of hOp.ho, atI_nat (j := 1) rfl, ?_⟩
          walk_at "go"
          refine ⟨orr, _, rfl, .inl (SqL.of hOp.hr), ?_⟩
          rw [List.length_map]
          walk_at "go"
          refine ⟨p, _, _, rfl, rfl, upd_same, (by split <;> decide), (by split <;> decide), (by show 1 * _ ≤ _; split <;> decide), fun p2 hp2 => ?_⟩
          refine fin2 "FullNet" _ ?_ p hp p2 hp2
          show (if _ then _ else if _ then _ else if _ then _ else if _ then _ else _) = _
          rw [if_neg z, if_neg e, if_neg h]
          by_cases h : 199 < N.roads.length
          · rw [if_pos h, if_pos (decide_eq_true (by omega))]
          · rw [if_neg h, if_neg (by simp; omega)]
      | turn b nm =>
        cases b with
        | false =>
          refine dIf_no rfl ht1 (by decide +kernel) ?_
          refine dIf_no rfl ht1 (by decide +kernel) ?_
          refine seq_if (decide (("blind" : Str) = "blind") || decide (("blind" : Str) = "mend")) (an_or (dIf_ans rfl ht1) fun _ => dIf_ans rfl ht1) (fun _ => ?_) (fun z => absurd z (by decide +kernel))
          refine seq_if1 _ (notin_ans rfl rfl ht1 (atI_nat (j := 1) rfl) hL) (fun z => ?_) (fun z => ?_)
          · have z : seesOf N.gates nm = none := by simpa using z
            walk_at "go"
            exact ⟨(by show 1 ≤ sizeLine; decide), fun p hp => fin1 "NoGate" (refusal_turn0 z) p hp⟩
          · obtain ⟨c, hc⟩ : ∃ c, seesOf N.gates nm = some c := by
              cases e : seesOf N.gates nm with
              | none => rw [e] at z; cases z
              | some c => exact ⟨c, rfl⟩
            obtain ⟨j, hj, hjn⟩ := seesOf_at hc
            obtain ⟨tg, htg, hgj⟩ := paired_get hO.pg hj
            walk_at "go"
            refine ⟨(by show 1 ≤ sizeLine; decide), fun p hp => ?_⟩
            have sp := same_up (o := HO.lst [V.str "Already"]) hp
            have hOp := hO1.same sp
            have hDp : D ≠ p := ne_of_none hL hp
            walk_at "go"
            refine ⟨o, _, _, _, rfl, rfl, SqL.of hOp.ho, atI_nat (j := 0) rfl, ?_⟩
            walk_at "go"
            refine ⟨.inl ⟨rfl, _, SqL.of (sp _ _ hL)⟩, ?_⟩
            walk_at "go"
            refine ⟨t, _, _, _, rfl, rfl, SqT.of (sp _ _ ht1), atI_nat (j := 1) rfl, ?_⟩
            have hnj : (namesV N.gates)[j]? = some (V.str nm) := by
              unfold namesV
              rw [List.getElem?_map, hj]
              rfl
            refine ⟨D, _, _, j, _, rfl, rfl, SqL.of (sp _ _ hL), rfl, namesV_flat _, hnj, (by rw [eqV_str]; exact decide_eq_true rfl), (fun m z' hm hz => by
              unfold namesV at hz
              rw [List.getElem?_map] at hz
              cases e : N.gates[m]? with
              | none => rw [e] at hz; cases hz
              | some q' =>
                rw [e] at hz
                have := Option.some.inj hz
                subst this
                rw [eqV_str]
                exact decide_eq_false (hjn m q' hm e)), ?_⟩
            refine ⟨og, _, _, .ref tg, rfl, rfl, SqL.of hOp.hg, atI_nat (by rw [List.getElem?_map, htg]; rfl), ?_⟩
            walk_at "go"
            refine ⟨tg, _, _, _, rfl, rfl, SqL.of (sp _ _ (s1 _ _ hgj)), atI_nat (j := 1) rfl, ?_⟩
            walk_at "go"
            refine ⟨t, _, _, _, rfl, rfl, SqT.of (sp _ _ ht1), atI_nat (j := 0) rfl, ?_⟩
            walk_at "go"
            refine ⟨p, _, _, rfl, rfl, upd_same, (by split <;> decide), (by split <;> decide), (by show 1 * _ ≤ _; split <;> decide), fun p2 hp2 => ?_⟩
            refine fin2 "Already" _ ?_ p hp p2 hp2
            rw [refusal_turn, hc, dec_bl, dec_str, show decide (("blind" : Str) = "mend") = false by decide +kernel]
            cases c <;> rfl
        | true =>
          refine dIf_no rfl ht1 (by decide +kernel) ?_
          refine dIf_no rfl ht1 (by decide +kernel) ?_
          refine seq_if (decide (("mend" : Str) = "blind") || decide (("mend" : Str) = "mend")) (an_or (dIf_ans rfl ht1) fun _ => dIf_ans rfl ht1) (fun _ => ?_) (fun z => absurd z (by decide +kernel))
          refine seq_if1 _ (notin_ans rfl rfl ht1 (atI_nat (j := 1) rfl) hL) (fun z => ?_) (fun z => ?_)
          · have z : seesOf N.gates nm = none := by simpa using z
            walk_at "go"
            exact ⟨(by show 1 ≤ sizeLine; decide), fun p hp => fin1 "NoGate" (refusal_turn0 z) p hp⟩
          · obtain ⟨c, hc⟩ : ∃ c, seesOf N.gates nm = some c := by
              cases e : seesOf N.gates nm with
              | none => rw [e] at z; cases z
              | some c => exact ⟨c, rfl⟩
            obtain ⟨j, hj, hjn⟩ := seesOf_at hc
            obtain ⟨tg, htg, hgj⟩ := paired_get hO.pg hj
            walk_at "go"
            refine ⟨(by show 1 ≤ sizeLine; decide), fun p hp => ?_⟩
            have sp := same_up (o := HO.lst [V.str "Already"]) hp
            have hOp := hO1.same sp
            have hDp : D ≠ p := ne_of_none hL hp
            walk_at "go"
            refine ⟨o, _, _, _, rfl, rfl, SqL.of hOp.ho, atI_nat (j := 0) rfl, ?_⟩
            walk_at "go"
            refine ⟨.inl ⟨rfl, _, SqL.of (sp _ _ hL)⟩, ?_⟩
            walk_at "go"
            refine ⟨t, _, _, _, rfl, rfl, SqT.of (sp _ _ ht1), atI_nat (j := 1) rfl, ?_⟩
            have hnj : (namesV N.gates)[j]? = some (V.str nm) := by
              unfold namesV
              rw [List.getElem?_map, hj]
              rfl
            refine ⟨D, _, _, j, _, rfl, rfl, SqL.of (sp _ _ hL), rfl, namesV_flat _, hnj, (by rw [eqV_str]; exact decide_eq_true rfl), (fun m z' hm hz => by
              unfold namesV at hz
              rw [List.getElem?_map] at hz
              cases e : N.gates[m]? with
              | none => rw [e] at hz; cases hz
              | some q' =>
                rw [e] at hz
                have := Option.some.inj hz
                subst this
                rw [eqV_str]
                exact decide_eq_false (hjn m q' hm e)), ?_⟩
            refine ⟨og, _, _, .ref tg, rfl, rfl, SqL.of hOp.hg, atI_nat (by rw [List.getElem?_map, htg]; rfl), ?_⟩
            walk_at "go"
            refine ⟨tg, _, _, _, rfl, rfl, SqL.of (sp _ _ (s1 _ _ hgj)), atI_nat (j := 1) rfl, ?_⟩
            walk_at "go"
            refine ⟨t, _, _, _, rfl, rfl, SqT.of (sp _ _ ht1), atI_nat (j := 0) rfl, ?_⟩
            walk_at "go"
            refine ⟨p, _, _, rfl, rfl, upd_same, (by split <;> decide), (by split <;> decide), (by show 1 * _ ≤ _; split <;> decide), fun p2 hp2 => ?_⟩
            refine fin2 "Already" _ ?_ p hp p2 hp2
            rw [refusal_turn, hc, dec_bl, dec_str, show decide (("mend" : Str) = "mend") = true by decide +kernel]
            cases c <;> rfl
      | lane b n =>
        cases b with
        | false =>
          refine dIf_no rfl ht1 (by decide +kernel) ?_
          refine dIf_no rfl ht1 (by decide +kernel) ?_
          refine seq_if (decide (("close" : Str) = "blind") || decide (("close" : Str) = "mend")) (an_or (dIf_ans rfl ht1) fun _ => dIf_ans rfl ht1) (fun z => absurd z (by decide +kernel)) (fun _ => ?_)
          dsimp only [tNext]
          refine seq_if1 (!(decide (0 ≤ n) && decide (n < (N.roads.length : Int)))) (by
            intro Q' q'
            walk_at "go"
            refine ⟨t, _, _, _, rfl, rfl, SqT.of ht1, atI_nat (j := 1) rfl, ?_⟩
            walk_at "go"
            refine ite2 (fun h => ?_) (fun h => ?_)
            · walk_at "go"
              refine ⟨o, _, _, _, rfl, rfl, SqL.of hO1.ho, atI_nat (j := 1) rfl, ?_⟩
              walk_at "go"
              refine ⟨orr, _, rfl, .inl (SqL.of hO1.hr), ?_⟩
              walk_at "go"
              rw [List.length_map, hrl]
              rw [h, Bool.true_and] at q'
              exact q'
            · walk_at "go"
              rw [Bool.eq_false_iff.mpr h, Bool.false_and] at q'
              exact q') (fun h => ?_) (fun h => ?_)
          · have h : ¬ (0 ≤ n ∧ n < (N.roads.length : Int)) := fun y => by simp [y.1, y.2] at h
            walk_at "go"
            exact ⟨(by show 1 ≤ sizeLine; decide), fun p hp => fin1 "NoRoad" (refusal_lane0 h) p hp⟩
          · have h : 0 ≤ n ∧ n < (N.roads.length : Int) := by simpa using h
            obtain ⟨rd, hrd⟩ : ∃ rd, N.roads[n.toNat]? = some rd := ⟨_, List.getElem?_eq_getElem (by omega)⟩
            obtain ⟨tr, htr, hrj⟩ := paired_get hO.pr hrd
            walk_at "go"
            refine ⟨(by show 1 ≤ sizeLine; decide), fun p hp => ?_⟩
            have sp := same_up (o := HO.lst [V.str "Already"]) hp
            have hOp := hO1.same sp
            walk_at "go"
            refine ⟨o, _, _, _, rfl, rfl, SqL.of hOp.ho, atI_nat (j := 1) rfl, ?_⟩
            walk_at "go"
            refine ⟨t, _, _, _, rfl, rfl, SqT.of (sp _ _ ht1), atI_nat (j := 1) rfl, ?_⟩
            refine ⟨orr, _, _, .ref tr, rfl, rfl, SqL.of hOp.hr, atI_of (j := n.toNat) (by omega) (by rw [List.getElem?_map, htr]; rfl), ?_⟩
            walk_at "go"
            refine ⟨tr, _, _, _, rfl, rfl, SqL.of (sp _ _ (s1 _ _ hrj)), atI_nat (j := 4) rfl, ?_⟩
            walk_at "go"
            refine ⟨t, _, _, _, rfl, rfl, SqT.of (sp _ _ ht1), atI_nat (j := 0) rfl, ?_⟩
            walk_at "go"
            refine ⟨p, _, _, rfl, rfl, upd_same, (by split <;> decide), (by split <;> decide), (by show 1 * _ ≤ _; split <;> decide), fun p2 hp2 => ?_⟩
            refine fin2 "Already" _ ?_ p hp p2 hp2
            rw [refusal_lane, if_pos h, hrd, dec_bl, dec_str, show decide (("close" : Str) = "reopen") = false by decide +kernel]
            show (if rd.op = false then _ else _) = _
            cases rd.op <;> rfl
        | true =>
          refine dIf_no rfl ht1 (by decide +kernel) ?_
          refine dIf_no rfl ht1 (by decide +kernel) ?_
          refine seq_if (decide (("reopen" : Str) = "blind") || decide (("reopen" : Str) = "mend")) (an_or (dIf_ans rfl ht1) fun _ => dIf_ans rfl ht1) (fun z => absurd z (by decide +kernel)) (fun _ => ?_)
          dsimp only [tNext]
          refine seq_if1 (!(decide (0 ≤ n) && decide (n < (N.roads.length : Int)))) (by
            intro Q' q'
            walk_at "go"
            refine ⟨t, _, _, _, rfl, rfl, SqT.of ht1, atI_nat (j := 1) rfl, ?_⟩
            walk_at "go"
            refine ite2 (fun h => ?_) (fun h => ?_)
            · walk_at "go"
              refine ⟨o, _, _, _, rfl, rfl, SqL.of hO1.ho, atI_nat (j := 1) rfl, ?_⟩
              walk_at "go"
              refine ⟨orr, _, rfl, .inl (SqL.of hO1.hr), ?_⟩
              walk_at "go"
              rw [List.length_map, hrl]
              rw [h, Bool.true_and] at q'
              exact q'
            · walk_at "go"
              rw [Bool.eq_false_iff.mpr h, Bool.false_and] at q'
              exact q') (fun h => ?_) (fun h => ?_)
          · have h : ¬ (0 ≤ n ∧ n < (N.roads.length : Int)) := fun y => by simp [y.1, y.2] at h
            walk_at "go"
            exact ⟨(by show 1 ≤ sizeLine; decide), fun p hp => fin1 "NoRoad" (refusal_lane0 h) p hp⟩
          · have h : 0 ≤ n ∧ n < (N.roads.length : Int) := by simpa using h
            obtain ⟨rd, hrd⟩ : ∃ rd, N.roads[n.toNat]? = some rd := ⟨_, List.getElem?_eq_getElem (by omega)⟩
            obtain ⟨tr, htr, hrj⟩ := paired_get hO.pr hrd
            walk_at "go"
            refine ⟨(by show 1 ≤ sizeLine; decide), fun p hp => ?_⟩
            have sp := same_up (o := HO.lst [V.str "Already"]) hp
            have hOp := hO1.same sp
            walk_at "go"
            refine ⟨o, _, _, _, rfl, rfl, SqL.of hOp.ho, atI_nat (j := 1) rfl, ?_⟩
            walk_at "go"
            refine ⟨t, _, _, _, rfl, rfl, SqT.of (sp _ _ ht1), atI_nat (j := 1) rfl, ?_⟩
            refine ⟨orr, _, _, .ref tr, rfl, rfl, SqL.of hOp.hr, atI_of (j := n.toNat) (by omega) (by rw [List.getElem?_map, htr]; rfl), ?_⟩
            walk_at "go"
            refine ⟨tr, _, _, _, rfl, rfl, SqL.of (sp _ _ (s1 _ _ hrj)), atI_nat (j := 4) rfl, ?_⟩
            walk_at "go"
            refine ⟨t, _, _, _, rfl, rfl, SqT.of (sp _ _ ht1), atI_nat (j := 0) rfl, ?_⟩
            walk_at "go"
            refine ⟨p, _, _, rfl, rfl, upd_same, (by split <;> decide), (by split <;> decide), (by show 1 * _ ≤ _; split <;> decide), fun p2 hp2 => ?_⟩
            refine fin2 "Already" _ ?_ p hp p2 hp2
            rw [refusal_lane, if_pos h, hrd, dec_bl, dec_str, show decide (("reopen" : Str) = "reopen") = true by decide +kernel]
            show (if rd.op = true then _ else _) = _
            cases rd.op <;> rfl
end
end Toll

set_option Elab.async false
set_option maxRecDepth 100000
set_option maxHeartbeats 4000000
namespace Toll
open PySem L2
local macro_rules | `(tactic| walk_at "go1") => `(tactic| first
  | refine ⟨_, rfl, ?_⟩
  | refine ⟨rfl, ?_⟩
  | refine ⟨_, _, rfl, rfl, ?_⟩
  | refine ⟨_, _, rfl, ?_⟩
  | (with_reducible refine' ⟨log_small ?k1 ?k2, ?_⟩; (case k1 => omega); (case k2 => omega))
  | (refine' ⟨?k1, ?_⟩; (case k1 => ((with_reducible show (_ : Int) < _); omega)))
  | (refine' ⟨⟨?k1, ?k2⟩, ?_⟩; (case k1 => omega); (case k2 => omega))
  | (refine' ⟨⟨?k1, ?k2, ?k3, ?k4⟩, ?_⟩; (case k1 => omega); (case k2 => omega); (case k3 => omega); (case k4 => omega))
  | (refine' ⟨.inl ⟨?k1, ?k2⟩, ?_⟩; (case k1 => omega); (case k2 => omega))
  | (refine' ⟨.inr ⟨?k1, ?k2⟩, ?_⟩; (case k1 => omega); (case k2 => omega))
  | (refine' ⟨Evl.sz_of ?k1, ?_⟩; (case k1 => omega))
  | (refine' ⟨?k1, ?_⟩; (case k1 => ((with_reducible show (_ : Int) ≤ _); omega)))
  | refine ⟨⟨_, rfl⟩, ?_⟩
  | refine .inl ⟨_, rfl, ?_⟩ | refine .inr ⟨_, rfl, ?_⟩
  | refine iteT ?_ | refine iteF ?_)
local macro_rules | `(tactic| walk_at "go") => `(tactic| repeat (walk_at "go1"))
local macro_rules | `(tactic| walk_at "ans") => `(tactic| (intro Q' q'; walk_at "go"; (try rw [dec_int]); (try rw [dec_str]); exact q'))
section
variable {P : Program} {w : World} {K : PySem.W.Frag} {mg : Str → Option Value} {base : Heap} {A : Ads}
/-- done, where nothing refuses: the account changes within its own objects, what is new is new -/
def spDone : Sp := fun vs H Q _ => ∃ (o og orr : Addr) (gts rts : List Addr) (N : NetD) (v : V) (d : Deed), vs = [.ref o, v] ∧ OwnAt H o og orr gts rts N ∧ N.gates.length ≤ 60 ∧ N.roads.length ≤ 200 ∧ (N.gates.map (·.1)).Nodup ∧ DeedV H v d ∧ refusal N d = none ∧
  ∀ (H' : Hp) (gts' rts' : List Addr), OwnAt H' o og orr gts' rts' (done N d) → Keep (o :: og :: orr :: (gts ++ rts)) H H' → (∀ x ∈ gts' ++ rts', x ∈ gts ++ rts ∨ H x = none) → Q (doneV N d) H'
theorem ok_l_done (T : Txt K mg A) : DefOk P w K mg base CX0 1 A.l_done ["_law_own", "_law_deed"] spDone := by
  obtain ⟨fd, F⟩ := T.F_l_done
  refine ⟨fd, ?_, F.binds (ps := ["_law_own", "_law_deed"]) fun _ _ _ _ _ _ us hl => match us, hl with | [_, _], _ => rfl, F.kp⟩
  refine F.ok sc_l_done (fun vs H Q E h => ?_) (fun cdv A' outer s H vs Q E hr h => ?_)
  · obtain ⟨o, og, orr, gts, rts, N, v, d, rfl, _⟩ := h
    rfl
  · obtain ⟨o, og, orr, gts, rts, N, v, d, rfl, hO, l1, l2, hnd, ⟨t, rfl, ht⟩, href, q⟩ := h
    have hgl := paired_len hO.pg
    have hrl := paired_len hO.pr
    refine ⟨_, (pss_cons (ps_setLc (i := 2) (own := [("_law_gate", 3)]) rfl sc_l_done.nd rfl rfl (sw_true rfl rfl rfl (by decide +kernel)) (pi_list (pe_ix (r := rIxL K) ix_list (pv 0) pe_int (fun _ _ => rfl))) (blkOk_by (own := [("_law_gate", 3)]) (N := n_l_done) (sc := defScope s_l_done) (by decide +kernel)) (fun _ _ _ _ _ => (pg_name (i := 3) sc_l_done.nd rfl (by first | exact Or.inl rfl | exact Or.inr rfl))) (fun _ _ _ _ _ => pts_nil) (fun _ _ _ _ _ => (pe_ix (r := rIxL K) ix_list (pv 3) pe_int (fun _ _ => rfl))))
      (C8.pss_cut (ps_if (pt_cmpR op_eq (pe_ix (r := rIxT K) ix_tup (pv 1) pe_int (fun _ _ => rfl)) pe_str (nomark _)) (pss_one (ps_expr (pe_bm PySem.F.plainAttrs_list PySem.F.slot_list_append PySem.F.type_list_append mt_append (pe_ix (r := rIxL K) ix_list (pv 0) pe_int (fun _ _ => rfl)) (pa_cons (pe_lst (pa_cons (pe_ix (r := rIxT K) ix_tup (pv 1) pe_int (fun _ _ => rfl)) (pa_cons (pe_ix (r := rIxT K) ix_tup (pv 1) pe_int (fun _ _ => rfl)) pa_nil))) pa_nil)))) (pss_one (ps_if (pt_cmpR op_eq (pe_ix (r := rIxT K) ix_tup (pv 1) pe_int (fun _ _ => rfl)) pe_str (nomark _)) (pss_cons (ps_expr (pe_bm PySem.F.plainAttrs_list PySem.F.slot_list_append PySem.F.type_list_append mt_append (pe_ix (r := rIxL K) ix_list (pv 0) pe_int (fun _ _ => rfl)) (pa_cons (pe_lst (pa_cons (pe_ix (r := rIxT K) ix_tup (pv 1) pe_int (fun _ _ => rfl)) (pa_cons (pe_ix (r := rIxT K) ix_tup (pv 1) pe_int (fun _ _ => rfl)) (pa_cons (pe_ix (r := rIxT K) ix_tup (pv 1) pe_int (fun _ _ => rfl)) (pa_cons (pe_ix (r := rIxT K) ix_tup (pv 1) pe_int (fun _ _ => rfl)) (pa_cons pe_bl pa_nil)))))) pa_nil)))
      (pss_one (ps_ret (pe_op op_sub (pe_callB call_len_seq (by rfl) T.b_len PySem.boot_len (pa_cons (pe_ix (r := rIxL K) ix_list (pv 0) pe_int (fun _ _ => rfl)) pa_nil)) pe_int)))) (pss_one (ps_if (PW.pt (pw_or (pt_cmpR op_eq (pe_ix (r := rIxT K) ix_tup (pv 1) pe_int (fun _ _ => rfl)) pe_str (nomark _)) (pw_or1 (pt_cmpR op_eq (pe_ix (r := rIxT K) ix_tup (pv 1) pe_int (fun _ _ => rfl)) pe_str (nomark _))))) (pss_one (ps_asg (pe_cmpR op_eq (pe_ix (r := rIxT K) ix_tup (pv 1) pe_int (fun _ _ => rfl)) pe_str (nomark _)) (pg_sub (pe_ix (r := rIxL K) ix_list (pe_ix (r := rIxL K) ix_list (pv 0) pe_int (fun _ _ => rfl)) (pe_bm PySem.F.plainAttrs_list PySem.F.slot_list_index PySem.F.type_list_index mt_index (pv 2) (pa_cons (pe_ix (r := rIxT K) ix_tup (pv 1) pe_int (fun _ _ => rfl)) pa_nil)) (fun _ _ => rfl)) pe_int set_list))) (pss_one (ps_asg (pe_cmpR op_eq (pe_ix (r := rIxT K) ix_tup (pv 1) pe_int (fun _ _ => rfl)) pe_str (nomark _)) (pg_sub (pe_ix (r := rIxL K) ix_list (pe_ix (r := rIxL K) ix_list (pv 0) pe_int (fun _ _ => rfl)) (pe_ix (r := rIxT K) ix_tup (pv 1) pe_int (fun _ _ => rfl)) (fun _ _ => rfl)) pe_int set_list))))))))
      (pss_one (ps_ret pe_non)))), ?_⟩
    walk_at "go"
    refine ⟨o, _, _, _, rfl, rfl, SqL.of hO.ho, atI_nat (j := 0) rfl, ?_⟩
    refine ⟨og, rfl, ⟨_, SqL.of hO.hg⟩, fun D hD => ?_⟩
    refine lc_list (K := K) (a := og) (xs := gts.map V.ref) (fun i H' => Same H H' ∧ H' D = some (.lst (namesV (N.gates.take i)))) ⟨same_up hD, upd_same⟩ (fun i H' _ ⟨s1, _⟩ => SqL.of (s1 _ _ hO.hg)) ?_ ?_
    · rintro i x H1 hi ⟨s1, hL⟩
      obtain ⟨tg, htg, rfl⟩ : ∃ tg, gts[i]? = some tg ∧ x = V.ref tg := by
        rw [List.getElem?_map] at hi
        cases e : gts[i]? with
        | none => rw [e] at hi; cases hi
        | some tg => rw [e] at hi; exact ⟨tg, rfl, (Option.some.inj hi).symm⟩
      obtain ⟨gq, hgq, hgl2⟩ := paired_getL hO.pg htg
      refine ⟨rfl, ?_⟩
      walk_at "go"
      refine ⟨tg, _, _, _, rfl, rfl, SqL.of (s1 _ _ hgl2), atI_nat (j := 0) rfl, ?_⟩
      refine ⟨_, hL, Evl.sz_lt (by simp [namesV]; omega), same_new s1 hD, ?_⟩
      rw [upd_same, List.take_add_one, hgq]
      simp [namesV]
    · rintro H1 ⟨s1, hL⟩
      rw [List.length_map, hgl, List.take_length] at hL
      have ht1 := s1 _ _ ht
      have hO1 := hO.same s1
      have k1 : Keep (o :: og :: orr :: (gts ++ rts)) H H1 := Keep.of_same s1
      dsimp only [gName]
      refine ⟨fun σ' H' => Q .non H', ?_, fun σ' H' z => z⟩
      cases d with
      | gate nm b =>
        refine do_if (decide (("gate" : Str) = "gate")) (dIf_ans rfl ht1) (fun _ => ?_) (fun z => absurd z (by decide +kernel))
        walk_at "go"
        refine ⟨o, _, _, _, rfl, rfl, SqL.of hO1.ho, atI_nat (j := 0) rfl, ?_⟩
        refine ⟨.inl ⟨rfl, _, SqL.of hO1.hg⟩, ?_⟩
        walk_at "go"
        refine ⟨t, _, _, _, rfl, rfl, SqT.of ht1, atI_nat (j := 1) rfl, ?_⟩
        walk_at "go"
        refine ⟨t, _, _, _, rfl, rfl, SqT.of ht1, atI_nat (j := 2) rfl, ?_⟩
        walk_at "go"
        refine ⟨(by show 2 ≤ sizeLine; decide), fun p hp => ?_⟩
        have hOp := hO1.same (same_up (o := HO.lst [V.str nm, V.bl b]) hp)
        refine ⟨og, _, _, rfl, rfl, hOp.hg, Evl.sz_lt (by rw [List.length_map]; omega), ?_⟩
        refine q _ (gts ++ [p]) rts (hOp.addGate upd_same (hO1.fresh hp)) ((k1.upd (.inr (s1.free hp))).upd (.inl (by simp))) fun x hx => ?_
        simp only [List.mem_append, List.mem_singleton] at hx ⊢
        rcases hx with (h | h) | h
        · exact .inl (.inl h)
        · exact .inr (by rw [h]; exact s1.free hp)
        · exact .inl (.inr h)
      | road one other mi tl =>
        refine do_if (decide (("road" : Str) = "gate")) (dIf_ans rfl ht1) (fun z => absurd z (by decide +kernel)) (fun _ => ?_)
        refine do_if (decide (("road" : Str) = "road")) (dIf_ans rfl ht1) (fun _ => ?_) (fun z => absurd z (by decide +kernel))
        walk_at "go"
        refine ⟨o, _, _, _, rfl, rfl, SqL.of hO1.ho, atI_nat (j := 1) rfl, ?_⟩
        refine ⟨.inl ⟨rfl, _, SqL.of hO1.hr⟩, ?_⟩
        walk_at "go"
        refine ⟨t, _, _, _, rfl, rfl, SqT.of ht1, atI_nat (j := 1) rfl, ?_⟩
        walk_at "go"
        refine ⟨t, _, _, _, rfl, rfl, SqT.of ht1, atI_nat (j := 2) rfl, ?_⟩
        walk_at "go"
        refine ⟨t, _, _, _, rfl, rfl, SqT.of ht1, atI_nat (j := 3) rfl, ?_⟩
        walk_at "go"
        refine ⟨t, _, _, _, rfl, rfl, SqT.of ht1, atI_nat (j := 4) rfl, ?_⟩
        walk_at "go"
        refine ⟨(by show 5 ≤ sizeLine; decide), fun p hp => ?_⟩
        have hOp := hO1.same (same_up (o := HO.lst (roadVs ⟨one, other, mi, tl, true⟩)) hp)
        refine ⟨orr, _, _, rfl, rfl, hOp.hr, Evl.sz_lt (by rw [List.length_map]; omega), ?_⟩
        have hOq := hOp.addRoad (r := ⟨one, other, mi, tl, true⟩) upd_same (hO1.fresh hp)
        walk_at "go"
        refine ⟨o, _, _, _, rfl, rfl, SqL.of hOq.ho, atI_nat (j := 1) rfl, ?_⟩
        walk_at "go"
        refine ⟨orr, _, rfl, .inl (SqL.of upd_same), ?_⟩
        walk_at "go"
        have e : (((rts.map V.ref ++ [V.ref p]).length : Nat) : Int) - 1 = (N.roads.length : Int) := by
          rw [List.length_append, List.length_map, hrl]
          simp
        show Q (V.int ((((rts.map V.ref ++ [V.ref p]).length : Nat) : Int) - 1)) _
        rw [e]
        refine q _ gts (rts ++ [p]) hOq ((k1.upd (.inr (s1.free hp))).upd (.inl (by simp))) fun x hx => ?_
        simp only [List.mem_append, List.mem_singleton] at hx ⊢
        rcases hx with h | h | h
        · exact .inl (.inl h)
        · exact .inl (.inr h)
        · exact .inr (by rw [h]; exact s1.free hp)
      | turn b nm =>
        cases b with
        | false =>
          refine do_if (decide (("blind" : Str) = "gate")) (dIf_ans rfl ht1) (fun z => absurd z (by decide +kernel)) (fun _ => ?_)
          refine do_if (decide (("blind" : Str) = "road")) (dIf_ans rfl ht1) (fun z => absurd z (by decide +kernel)) (fun _ => ?_)
          refine do_if (decide (("blind" : Str) = "blind") || decide (("blind" : Str) = "mend")) (an_or (dIf_ans rfl ht1) fun _ => dIf_ans rfl ht1) (fun _ => ?_) (fun z => absurd z (by decide +kernel))
          obtain ⟨c, hc⟩ : ∃ c, seesOf N.gates nm = some c := by
            cases e : seesOf N.gates nm with
            | none => rw [refusal_turn0 e] at href; cases href
            | some c => exact ⟨c, rfl⟩
          obtain ⟨j, hj, hjn⟩ := seesOf_at hc
          obtain ⟨tg, htg, hgj⟩ := paired_get hO1.pg hj
          walk_at "go"
          refine ⟨t, _, _, _, rfl, rfl, SqT.of ht1, atI_nat (j := 0) rfl, ?_⟩
          walk_at "go"
          refine ⟨o, _, _, _, rfl, rfl, SqL.of hO1.ho, atI_nat (j := 0) rfl, ?_⟩
          walk_at "go"
          refine ⟨.inl ⟨rfl, _, SqL.of hL⟩, ?_⟩
          walk_at "go"
          refine ⟨t, _, _, _, rfl, rfl, SqT.of ht1, atI_nat (j := 1) rfl, ?_⟩
          have hnj : (namesV N.gates)[j]? = some (V.str nm) := by
            unfold namesV
            rw [List.getElem?_map, hj]
            rfl
          refine ⟨D, _, _, j, _, rfl, rfl, SqL.of hL, rfl, namesV_flat _, hnj, (by rw [eqV_str]; exact decide_eq_true rfl), (fun m z' hm hz => by
            unfold namesV at hz
            rw [List.getElem?_map] at hz
            cases e : N.gates[m]? with
            | none => rw [e] at hz; cases hz
            | some q' =>
              rw [e] at hz
              have := Option.some.inj hz
              subst this
              rw [eqV_str]
              exact decide_eq_false (hjn m q' hm e)), ?_⟩
          refine ⟨og, _, _, .ref tg, rfl, rfl, SqL.of hO1.hg, atI_nat (by rw [List.getElem?_map, htg]; rfl), ?_⟩
          walk_at "go"
          refine ⟨tg, _, 1, 1, rfl, rfl, hgj, rfl, ?_⟩
          have hO2 := hO1.setGate (nm := nm) (b := false) htg
          rw [dec_str, show decide (("blind" : Str) = "mend") = false by decide +kernel]
          refine q _ gts rts ?_ (k1.upd (.inl (by simp [List.mem_of_getElem? htg]))) fun x hx => .inl hx
          show OwnAt _ _ _ _ _ _ { N with gates := setSees N.gates nm false }
          rw [setSees_at hnd hj]
          exact hO2
        | true =>
          refine do_if (decide (("mend" : Str) = "gate")) (dIf_ans rfl ht1) (fun z => absurd z (by decide +kernel)) (fun _ => ?_)
          refine do_if (decide (("mend" : Str) = "road")) (dIf_ans rfl ht1) (fun z => absurd z (by decide +kernel)) (fun _ => ?_)
          refine do_if (decide (("mend" : Str) = "blind") || decide (("mend" : Str) = "mend")) (an_or (dIf_ans rfl ht1) fun _ => dIf_ans rfl ht1) (fun _ => ?_) (fun z => absurd z (by decide +kernel))
          obtain ⟨c, hc⟩ : ∃ c, seesOf N.gates nm = some c := by
            cases e : seesOf N.gates nm with
            | none => rw [refusal_turn0 e] at href; cases href
            | some c => exact ⟨c, rfl⟩
          obtain ⟨j, hj, hjn⟩ := seesOf_at hc
          obtain ⟨tg, htg, hgj⟩ := paired_get hO1.pg hj
          walk_at "go"
          refine ⟨t, _, _, _, rfl, rfl, SqT.of ht1, atI_nat (j := 0) rfl, ?_⟩
          walk_at "go"
          refine ⟨o, _, _, _, rfl, rfl, SqL.of hO1.ho, atI_nat (j := 0) rfl, ?_⟩
          walk_at "go"
          refine ⟨.inl ⟨rfl, _, SqL.of hL⟩, ?_⟩
          walk_at "go"
          refine ⟨t, _, _, _, rfl, rfl, SqT.of ht1, atI_nat (j := 1) rfl, ?_⟩
          have hnj : (namesV N.gates)[j]? = some (V.str nm) := by
            unfold namesV
            rw [List.getElem?_map, hj]
            rfl
          refine ⟨D, _, _, j, _, rfl, rfl, SqL.of hL, rfl, namesV_flat _, hnj, (by rw [eqV_str]; exact decide_eq_true rfl), (fun m z' hm hz => by
            unfold namesV at hz
            rw [List.getElem?_map] at hz
            cases e : N.gates[m]? with
            | none => rw [e] at hz; cases hz
            | some q' =>
              rw [e] at hz
              have := Option.some.inj hz
              subst this
              rw [eqV_str]
              exact decide_eq_false (hjn m q' hm e)), ?_⟩
          refine ⟨og, _, _, .ref tg, rfl, rfl, SqL.of hO1.hg, atI_nat (by rw [List.getElem?_map, htg]; rfl), ?_⟩
          walk_at "go"
          refine ⟨tg, _, 1, 1, rfl, rfl, hgj, rfl, ?_⟩
          have hO2 := hO1.setGate (nm := nm) (b := true) htg
          rw [dec_str, show decide (("mend" : Str) = "mend") = true by decide +kernel]
          refine q _ gts rts ?_ (k1.upd (.inl (by simp [List.mem_of_getElem? htg]))) fun x hx => .inl hx
          show OwnAt _ _ _ _ _ _ { N with gates := setSees N.gates nm true }
          rw [setSees_at hnd hj]
          exact hO2
      | lane b n =>
        cases b with
        | false =>
          refine do_if (decide (("close" : Str) = "gate")) (dIf_ans rfl ht1) (fun z => absurd z (by decide +kernel)) (fun _ => ?_)
          refine do_if (decide (("close" : Str) = "road")) (dIf_ans rfl ht1) (fun z => absurd z (by decide +kernel)) (fun _ => ?_)
          refine do_if (decide (("close" : Str) = "blind") || decide (("close" : Str) = "mend")) (an_or (dIf_ans rfl ht1) fun _ => dIf_ans rfl ht1) (fun z => absurd z (by decide +kernel)) (fun _ => ?_)
          have hn : 0 ≤ n ∧ n < (N.roads.length : Int) := by
            by_cases z : 0 ≤ n ∧ n < (N.roads.length : Int)
            · exact z
            · rw [refusal_lane0 z] at href
              cases href
          obtain ⟨rd, hrd⟩ : ∃ rd, N.roads[n.toNat]? = some rd := ⟨_, List.getElem?_eq_getElem (by omega)⟩
          obtain ⟨tr, htr, hrj⟩ := paired_get hO1.pr hrd
          walk_at "go"
          refine ⟨t, _, _, _, rfl, rfl, SqT.of ht1, atI_nat (j := 0) rfl, ?_⟩
          walk_at "go"
          refine ⟨o, _, _, _, rfl, rfl, SqL.of hO1.ho, atI_nat (j := 1) rfl, ?_⟩
          walk_at "go"
          refine ⟨t, _, _, _, rfl, rfl, SqT.of ht1, atI_nat (j := 1) rfl, ?_⟩
          refine ⟨orr, _, _, .ref tr, rfl, rfl, SqL.of hO1.hr, atI_of (j := n.toNat) (by omega) (by rw [List.getElem?_map, htr]; rfl), ?_⟩
          walk_at "go"
          refine ⟨tr, _, 4, 4, rfl, rfl, hrj, rfl, ?_⟩
          have hO2 := hO1.setRoad (r := { rd with op := false }) htr
          rw [dec_str, show decide (("close" : Str) = "reopen") = false by decide +kernel]
          refine q _ gts rts ?_ (k1.upd (.inl (by simp [List.mem_of_getElem? htr]))) fun x hx => .inl hx
          rw [done_lane hrd]
          exact hO2
        | true =>
          refine do_if (decide (("reopen" : Str) = "gate")) (dIf_ans rfl ht1) (fun z => absurd z (by decide +kernel)) (fun _ => ?_)
          refine do_if (decide (("reopen" : Str) = "road")) (dIf_ans rfl ht1) (fun z => absurd z (by decide +kernel)) (fun _ => ?_)
          refine do_if (decide (("reopen" : Str) = "blind") || decide (("reopen" : Str) = "mend")) (an_or (dIf_ans rfl ht1) fun _ => dIf_ans rfl ht1) (fun z => absurd z (by decide +kernel)) (fun _ => ?_)
          have hn : 0 ≤ n ∧ n < (N.roads.length : Int) := by
            by_cases z : 0 ≤ n ∧ n < (N.roads.length : Int)
            · exact z
            · rw [refusal_lane0 z] at href
              cases href
          obtain ⟨rd, hrd⟩ : ∃ rd, N.roads[n.toNat]? = some rd := ⟨_, List.getElem?_eq_getElem (by omega)⟩
          obtain ⟨tr, htr, hrj⟩ := paired_get hO1.pr hrd
          walk_at "go"
          refine ⟨t, _, _, _, rfl, rfl, SqT.of ht1, atI_nat (j := 0) rfl, ?_⟩
          walk_at "go"
          refine ⟨o, _, _, _, rfl, rfl, SqL.of hO1.ho, atI_nat (j := 1) rfl, ?_⟩
          walk_at "go"
          refine ⟨t, _, _, _, rfl, rfl, SqT.of ht1, atI_nat (j := 1) rfl, ?_⟩
          refine ⟨orr, _, _, .ref tr, rfl, rfl, SqL.of hO1.hr, atI_of (j := n.toNat) (by omega) (by rw [List.getElem?_map, htr]; rfl), ?_⟩
          walk_at "go"
          refine ⟨tr, _, 4, 4, rfl, rfl, hrj, rfl, ?_⟩
          have hO2 := hO1.setRoad (r := { rd with op := true }) htr
          rw [dec_str, show decide (("reopen" : Str) = "reopen") = true by decide +kernel]
          refine q _ gts rts ?_ (k1.upd (.inl (by simp [List.mem_of_getElem? htr]))) fun x hx => .inl hx
          rw [done_lane hrd]
          exact hO2
end
end Toll

set_option Elab.async false
set_option maxRecDepth 100000
set_option maxHeartbeats 4000000
namespace Toll
open PySem L2
local macro_rules | `(tactic| walk_at "go1") => `(tactic| first
  | refine ⟨_, rfl, ?_⟩
  | refine ⟨rfl, ?_⟩
  | refine ⟨_, _, rfl, rfl, ?_⟩
  | refine ⟨_, _, rfl, ?_⟩
  | (with_reducible refine' ⟨log_small ?k1 ?k2, ?_⟩; (case k1 => omega); (case k2 => omega))
  | (refine' ⟨?k1, ?_⟩; (case k1 => ((with_reducible show (_ : Int) < _); omega)))
  | (refine' ⟨⟨?k1, ?k2⟩, ?_⟩; (case k1 => omega); (case k2 => omega))
  | (refine' ⟨⟨?k1, ?k2, ?k3, ?k4⟩, ?_⟩; (case k1 => omega); (case k2 => omega); (case k3 => omega); (case k4 => omega))
  | (refine' ⟨.inl ⟨?k1, ?k2⟩, ?_⟩; (case k1 => omega); (case k2 => omega))
  | (refine' ⟨.inr ⟨?k1, ?k2⟩, ?_⟩; (case k1 => omega); (case k2 => omega))
  | (refine' ⟨Evl.sz_of ?k1, ?_⟩; (case k1 => omega))
  | (refine' ⟨?k1, ?_⟩; (case k1 => ((with_reducible show (_ : Int) ≤ _); omega)))
  | refine ⟨⟨_, rfl⟩, ?_⟩
  | refine .inl ⟨_, rfl, ?_⟩ | refine .inr ⟨_, rfl, ?_⟩
  | refine iteT ?_ | refine iteF ?_)
local macro_rules | `(tactic| walk_at "go") => `(tactic| repeat (walk_at "go1"))
local macro_rules | `(tactic| walk_at "ans") => `(tactic| (intro Q' q'; walk_at "go"; (try rw [dec_int]); (try rw [dec_str]); exact q'))
section
variable {P : Program} {w : World} {K : PySem.W.Frag} {mg : Str → Option Value} {base : Heap} {A : Ads}
/-- all lists told are as they were told: each beside its copy -/
def spKeptWell (K : PySem.W.Frag) : Sp := fun vs H Q _ => ∃ (k : Addr) (ps : List V), vs = [.ref k] ∧ SqL K H k ps ∧ (∀ v ∈ ps, PairV H v) ∧ Q (.bl true) H
theorem ok_l_kept_well (T : Txt K mg A) : DefOk P w K mg base CX0 1 A.l_kept_well ["_law_kept"] (spKeptWell K) := by
  obtain ⟨fd, F⟩ := T.F_l_kept_well
  refine ⟨fd, ?_, F.binds (ps := ["_law_kept"]) fun _ _ _ _ _ _ us hl => match us, hl with | [_], _ => rfl, F.kp⟩
  refine F.ok sc_l_kept_well (fun vs H Q E h => ?_) (fun cdv A' outer s H vs Q E hr h => ?_)
  · obtain ⟨k, ps, rfl, _⟩ := h
    rfl
  · obtain ⟨k, ps, rfl, hS, hp, q⟩ := h
    refine ⟨_, (pss_cons (ps_for PassesOwn.never rfl (pi_list (pv 0)) (pg_name (i := 1) sc_l_kept_well.nd rfl (by first | exact Or.inl rfl | exact Or.inr rfl)) (pss_one (ps_if (pt_cmpR (op_neD hr.units) (pe_ix (r := rIxL K) ix_list (pv 1) pe_int (fun _ _ => rfl)) (pe_ix (r := rIxL K) ix_list (pv 1) pe_int (fun _ _ => rfl)) (nomark _)) (pss_one (ps_ret pe_bl)) pss_nil)))
      (pss_one (ps_ret pe_bl))), ?_⟩
    refine ⟨_, rfl, k, rfl, ⟨_, hS⟩, for_list (K := K) (a := k) (xs := ps) (fun i σ' H' => H = H' ∧ ∃ v, σ' = [some (.ref k), v]) ⟨rfl, none, rfl⟩ (fun i σ' H' _ ⟨e, _⟩ => e ▸ hS) ?_ ?_⟩
    · rintro i x σ' H' hi ⟨rfl, v, rfl⟩
      obtain ⟨p, a, b, us, ds, rfl, h1, h2, h3, hd⟩ := hp x (List.mem_of_getElem? hi)
      have ok : okD 2 (.list ds) := okD_list (items_ok hd)
      walk_at "go"
      refine ⟨p, _, _, _, rfl, rfl, SqL.of h1, atI_nat (j := 0) rfl, ?_⟩
      walk_at "go"
      refine ⟨p, _, _, _, rfl, rfl, SqL.of h1, atI_nat (j := 1) rfl, ?_⟩
      refine ⟨_, _, Dp.lst (SqL.of h2) (items_dp hd), Dp.lst (SqL.of h3) (items_dp hd), ok.shaped (by decide), ok.shaped (by decide), ?_⟩
      rw [ok.refl]
      walk_at "go"
      exact ⟨_, rfl⟩
    · rintro σ' H' ⟨rfl, v, rfl⟩
      exact q
end
end Toll

set_option Elab.async false
set_option maxRecDepth 100000
set_option maxHeartbeats 4000000
set_option linter.all false
namespace Toll
open PySem L2
local macro_rules | `(tactic| walk_at "go1") => `(tactic| first
  | refine ⟨_, rfl, ?_⟩
  | refine ⟨rfl, ?_⟩
  | refine ⟨_, _, rfl, rfl, ?_⟩
  | refine ⟨_, _, rfl, ?_⟩
  | (with_reducible refine' ⟨log_small ?k1 ?k2, ?_⟩; (case k1 => omega); (case k2 => omega))
  | (refine' ⟨?k1, ?_⟩; (case k1 => ((with_reducible show (_ : Int) < _); omega)))
  | (refine' ⟨⟨?k1, ?k2⟩, ?_⟩; (case k1 => omega); (case k2 => omega))
  | (refine' ⟨⟨?k1, ?k2, ?k3, ?k4⟩, ?_⟩; (case k1 => omega); (case k2 => omega); (case k3 => omega); (case k4 => omega))
  | (refine' ⟨.inl ⟨?k1, ?k2⟩, ?_⟩; (case k1 => omega); (case k2 => omega))
  | (refine' ⟨.inr ⟨?k1, ?k2⟩, ?_⟩; (case k1 => omega); (case k2 => omega))
  | (refine' ⟨Evl.sz_of ?k1, ?_⟩; (case k1 => omega))
  | (refine' ⟨?k1, ?_⟩; (case k1 => ((with_reducible show (_ : Int) ≤ _); omega)))
  | refine ⟨⟨_, rfl⟩, ?_⟩
  | refine .inl ⟨_, rfl, ?_⟩ | refine .inr ⟨_, rfl, ?_⟩
  | refine iteT ?_ | refine iteF ?_)
local macro_rules | `(tactic| walk_at "go") => `(tactic| repeat (walk_at "go1"))
local macro_rules | `(tactic| walk_at "ans") => `(tactic| (intro Q' q'; walk_at "go"; (try rw [dec_int]); (try rw [dec_str]); exact q'))
local macro_rules | `(tactic| walk_at "hp") => `(tactic| first | assumption | exact upd_same | (refine' up_same ?e ?h; (case e => assumption); (case h => walk_at "hp")) | (refine' upd_at ?n ?h; (case n => walk_at "ne"); (case h => walk_at "hp")))
local macro_rules | `(tactic| walk_at "ne") => `(tactic| first | assumption | (apply Ne.symm; assumption))
local macro_rules | `(tactic| walk_at "at") => `(tactic| first | exact atI_nat (j := 0) rfl | exact atI_nat (j := 1) rfl | exact atI_nat (j := 2) rfl | exact atI_nat (j := 3) rfl | exact atI_nat (j := 4) rfl)
local macro_rules | `(tactic| walk_at "step1") => `(tactic| first
  | walk_at "go1"
  | (apply ixL_step; (case h => walk_at "hp"); (case a => walk_at "at"))
  | (apply ixT_step; (case h => walk_at "hp"); (case a => walk_at "at"))
  | (apply lenL_step; (case h => walk_at "hp")))
local macro_rules | `(tactic| walk_at "step") => `(tactic| repeat (walk_at "step1"))
section
variable {P : Program} {w : World} {K : PySem.W.Frag} {mg : Str → Option Value} {base : Heap} {A : Ads}
def spWhole : Sp := fun vs H Q _ => ∃ i : Int, vs = [.int i] ∧ Q (.bl true) H
theorem ok_l_whole (T : Txt K mg A) : DefOk P w K mg base CX0 1 A.l_whole ["_law_found"] spWhole := by
  obtain ⟨fd, F⟩ := T.F_l_whole
  refine ⟨fd, ?_, F.binds (ps := ["_law_found"]) fun _ _ _ _ _ _ us hl => match us, hl with | [_], _ => rfl, F.kp⟩
  refine F.ok sc_l_whole (fun vs H Q E h => ?_) (fun cdv A outer s H vs Q E hr h => ?_)
  · obtain ⟨i, rfl, _⟩ := h
    rfl
  · obtain ⟨i, rfl, q⟩ := h
    refine ⟨_, (pss_one (ps_ret (pe_and (pe_callB call_isi (by rfl) T.b_isinstance (by decide +kernel) (pa_cons (pv 0) (pa_cons (pe_bltn (v := .ty "int") (by rfl) T.b_int (by decide +kernel) rfl) pa_nil))) (pe_one (pe_not (pe_callB call_isi (by rfl) T.b_isinstance (by decide +kernel) (pa_cons (pv 0) (pa_cons (pe_bltn (v := .ty "bool") (by rfl) T.b_bool (by decide +kernel) rfl) pa_nil)))))))), ?_⟩
    walk_at "go"
    refine ⟨_, _, _, _, true, rfl, ClsV.ty _, TyX.base (TyOf.int _), kit_ty (by decide +kernel), ?_⟩
    walk_at "go"
    refine ⟨_, _, _, _, false, rfl, ClsV.ty _, TyX.base (TyOf.int _), kit_ty (by decide +kernel), ?_⟩
    walk_at "go"
    exact q
def spNetStands (A : Ads) : Sp := fun vs H Q _ => ∃ (p g r o og orr k : Addr) (gts rts : List Addr) (N : NetD) (ps : List V), vs = [.ref p, .ref o, .ref k] ∧ NetAt A.C_Net H p g r N ∧ OwnAt H o og orr gts rts N ∧ NamesOk N ∧
  H k = some (.lst ps) ∧ ps.length ≤ 5000 ∧ k ≠ r ∧ k ∉ o :: og :: orr :: (gts ++ rts) ∧
  ∀ (H' : Hp) (news : List V), Keep [k] H H' → H' k = some (.lst (ps ++ news)) → news.length ≤ 70 → (∀ v ∈ news, NewPair H H' v) → Q (.bl true) H'
theorem ok_l_net_stands (T : Txt K mg A) : DefOk P w K mg base CX0 3 A.l_net_stands ["_law_net", "_law_own", "_law_kept"] (spNetStands A) := by
  obtain ⟨_, G_N_gates, B_N_gates, K_N_gates⟩ := ok_N_gates (P := P) (w := w) (base := base) T
  obtain ⟨_, G_N_roads, B_N_roads, K_N_roads⟩ := ok_N_roads (P := P) (w := w) (base := base) T
  obtain ⟨_, G_N_leaving, B_N_leaving, K_N_leaving⟩ := ok_N_leaving (P := P) (w := w) (base := base) T
  obtain ⟨_, G_l_whole, B_l_whole, K_l_whole⟩ := ok_l_whole (P := P) (w := w) (base := base) T
  obtain ⟨fd, F⟩ := T.F_l_net_stands
  refine ⟨fd, ?_, F.binds (ps := ["_law_net", "_law_own", "_law_kept"]) fun _ _ _ _ _ _ us hl => match us, hl with | [_, _, _], _ => rfl, F.kp⟩
  refine F.ok sc_l_net_stands (fun vs H Q E h => ?_) (fun cdv A' outer s H vs Q E hr h => ?_)
  · obtain ⟨p, g, r, o, og, orr, k, gts, rts, N, ps, rfl, _⟩ := h
    rfl
  · obtain ⟨p, g, r, o, og, orr, k, gts, rts, N, ps, rfl, hN, hO, hNm, hk, hkl, hkr, hko, q⟩ := h
    refine ⟨_, (pss_cons (ps_set (i := 3) sc_l_net_stands.nd rfl (by first | exact Or.inl rfl | exact Or.inr rfl) (pe_lst (pa_cons (pe_meth0 (pv 0) T.c_Net T.M_N_gates G_N_gates (hr.mono (by decide)) B_N_gates .nil pass0) (pa_cons (pe_meth0 (pv 0) T.c_Net T.M_N_roads G_N_roads (hr.mono (by decide)) B_N_roads .nil pass0) pa_nil))))
      (C8.pss_cut (ps_if (pt_cmpR op_gt (pe_op op_mod (pe_callB call_len_seq (by rfl) T.b_len PySem.boot_len (pa_cons (pv 2) pa_nil)) pe_int) pe_int (nomark _)) (pss_one (ps_set (i := 3) sc_l_net_stands.nd rfl (by first | exact Or.inl rfl | exact Or.inr rfl) (pe_revL (pe_lst (pa_cons (pe_meth0 (pv 0) T.c_Net T.M_N_roads G_N_roads (hr.mono (by decide)) B_N_roads .nil pass0) (pa_cons (pe_meth0 (pv 0) T.c_Net T.M_N_gates G_N_gates (hr.mono (by decide)) B_N_gates .nil pass0) pa_nil)))))) pss_nil)
      (pss_cons (ps_if (PW.pt (pw_or (pt_not (pt_val (pe_callB call_isi (by rfl) T.b_isinstance (by decide +kernel) (pa_cons (pe_ix (r := rIxL K) ix_list (pv 3) pe_int (fun _ _ => rfl)) (pa_cons (pe_bltn (v := .ty "list") (by rfl) T.b_list (by decide +kernel) rfl) pa_nil))))) (pw_or1 (pt_not (pt_val (pe_callB call_isi (by rfl) T.b_isinstance (by decide +kernel) (pa_cons (pe_ix (r := rIxL K) ix_list (pv 3) pe_int (fun _ _ => rfl)) (pa_cons (pe_bltn (v := .ty "list") (by rfl) T.b_list (by decide +kernel) rfl) pa_nil)))))))) (pss_one (ps_ret pe_bl)) pss_nil)
      (pss_cons (ps_if (PW.pt (pw_or (pt_cmpR (op_neD hr.units) (pe_ix (r := rIxL K) ix_list (pv 3) pe_int (fun _ _ => rfl)) (pe_lc (own := [("_law_gate", 4)]) rfl sc_l_net_stands.nd (pi_list (pe_ix (r := rIxL K) ix_list (pv 1) pe_int (fun _ _ => rfl))) (blkOk_by (own := [("_law_gate", 4)]) (N := n_l_net_stands) (sc := defScope s_l_net_stands) (by decide +kernel)) (fun _ _ _ _ _ => (pg_name (i := 4) sc_l_net_stands.nd rfl (by first | exact Or.inl rfl | exact Or.inr rfl))) (fun _ _ _ _ _ => pts_nil) (fun _ _ _ _ _ => (pe_callTy (T := "tuple") (r := rTupOf K) call_tuple_of (by rfl) T.b_tuple (by decide +kernel) (pa_cons (pv 4) pa_nil)))) (nomark _)) (pw_or1 (pt_cmpR (op_neD hr.units) (pe_ix (r := rIxL K) ix_list (pv 3) pe_int (fun _ _ => rfl)) (pe_lc (own := [("_law_line", 5)]) rfl sc_l_net_stands.nd (pi_list (pe_ix (r := rIxL K) ix_list (pv 1) pe_int (fun _ _ => rfl))) (blkOk_by (own := [("_law_line", 5)]) (N := n_l_net_stands) (sc := defScope s_l_net_stands) (by decide +kernel)) (fun _ _ _ _ _ => (pg_name (i := 5) sc_l_net_stands.nd rfl (by first | exact Or.inl rfl | exact Or.inr rfl))) (fun _ _ _ _ _ => pts_nil) (fun _ _ _ _ _ => (pe_callTy (T := "tuple") (r := rTupOf K) call_tuple_of (by rfl) T.b_tuple (by decide +kernel) (pa_cons (pv 5) pa_nil)))) (nomark _))))) (pss_one (ps_ret pe_bl)) pss_nil)
      (pss_cons (ps_for PassesOwn.never rfl (pi_list (pe_ix (r := rIxL K) ix_list (pv 3) pe_int (fun _ _ => rfl))) (pg_name (i := 4) sc_l_net_stands.nd rfl (by first | exact Or.inl rfl | exact Or.inr rfl)) (pss_one (ps_if (PW.pt (pw_or (pt_not (pt_val (pe_callB call_isi (by rfl) T.b_isinstance (by decide +kernel) (pa_cons (pv 4) (pa_cons (pe_bltn (v := .ty "tuple") (by rfl) T.b_tuple (by decide +kernel) rfl) pa_nil))))) (pw_or1 (pt_not (pt_val (pe_callB call_isi (by rfl) T.b_isinstance (by decide +kernel) (pa_cons (pe_ix (r := rIxT K) ix_tup (pv 4) pe_int (fun _ _ => rfl)) (pa_cons (pe_bltn (v := .ty "bool") (by rfl) T.b_bool (by decide +kernel) rfl) pa_nil)))))))) (pss_one (ps_ret pe_bl)) pss_nil)))
      (pss_cons (ps_for PassesOwn.never rfl (pi_list (pe_ix (r := rIxL K) ix_list (pv 3) pe_int (fun _ _ => rfl))) (pg_name (i := 5) sc_l_net_stands.nd rfl (by first | exact Or.inl rfl | exact Or.inr rfl)) (pss_cons (ps_if (PW.pt (pw_or (pt_not (pt_val (pe_callB call_isi (by rfl) T.b_isinstance (by decide +kernel) (pa_cons (pv 5) (pa_cons (pe_bltn (v := .ty "tuple") (by rfl) T.b_tuple (by decide +kernel) rfl) pa_nil))))) (pw_or1 (pt_not (pt_val (pe_callB call_isi (by rfl) T.b_isinstance (by decide +kernel) (pa_cons (pe_ix (r := rIxT K) ix_tup (pv 5) pe_int (fun _ _ => rfl)) (pa_cons (pe_bltn (v := .ty "bool") (by rfl) T.b_bool (by decide +kernel) rfl) pa_nil)))))))) (pss_one (ps_ret pe_bl)) pss_nil)
      (pss_one (ps_if (PW.pt (pw_or (pt_not (pt_val (pe_call G_l_whole (hr.mono (by decide)) rfl T.m_l_whole K_l_whole B_l_whole .nil pass0 (pa_cons (pe_ix (r := rIxT K) ix_tup (pv 5) pe_int (fun _ _ => rfl)) pa_nil)))) (pw_or1 (pt_not (pt_val (pe_call G_l_whole (hr.mono (by decide)) rfl T.m_l_whole K_l_whole B_l_whole .nil pass0 (pa_cons (pe_ix (r := rIxT K) ix_tup (pv 5) pe_int (fun _ _ => rfl)) pa_nil))))))) (pss_one (ps_ret pe_bl)) pss_nil))))
      (pss_cons (ps_for PassesOwn.never rfl (pi_list (pe_stepL (pe_ix (r := rIxL K) ix_list (pv 1) pe_int (fun _ _ => rfl)) (pe_op op_add pe_int (pe_op op_fdiv (pe_callB call_len_seq (by rfl) T.b_len PySem.boot_len (pa_cons (pe_ix (r := rIxL K) ix_list (pv 1) pe_int (fun _ _ => rfl)) pa_nil)) pe_int)))) (pg_name (i := 4) sc_l_net_stands.nd rfl (by first | exact Or.inl rfl | exact Or.inr rfl)) (pss_cons (ps_set (i := 6) sc_l_net_stands.nd rfl (by first | exact Or.inl rfl | exact Or.inr rfl) (pe_meth (pv 0) T.c_Net T.M_N_leaving G_N_leaving (hr.mono (by decide)) B_N_leaving .nil passF (pa_cons (pe_ix (r := rIxL K) ix_list (pv 4) pe_int (fun _ _ => rfl)) pa_nil)))
      (pss_cons (ps_setLc (i := 7) (own := [("_law_k", 9)]) rfl sc_l_net_stands.nd rfl rfl (sw_true rfl rfl rfl (by decide +kernel)) (pi_range1 (by rfl) T.b_range (pa_cons (pe_callB call_len_seq (by rfl) T.b_len PySem.boot_len (pa_cons (pe_ix (r := rIxL K) ix_list (pv 1) pe_int (fun _ _ => rfl)) pa_nil)) pa_nil)) (blkOk_by (own := [("_law_k", 9)]) (N := n_l_net_stands) (sc := defScope s_l_net_stands) (by decide +kernel)) (fun _ _ _ _ _ => (pg_name (i := 9) sc_l_net_stands.nd rfl (by first | exact Or.inl rfl | exact Or.inr rfl))) (fun _ _ _ _ _ => (pts_one (PW.pt (pw_and (pt_cmpR op_eq (pe_ix (r := rIxL K) ix_list (pe_ix (r := rIxL K) ix_list (pe_ix (r := rIxL K) ix_list (pv 1) pe_int (fun _ _ => rfl)) (pv 9) (fun _ _ => rfl)) pe_int (fun _ _ => rfl)) (pe_ix (r := rIxL K) ix_list (pv 4) pe_int (fun _ _ => rfl)) (nomark _)) (pw_and1 (pt_val (pe_ix (r := rIxL K) ix_list (pe_ix (r := rIxL K) ix_list (pe_ix (r := rIxL K) ix_list (pv 1) pe_int (fun _ _ => rfl)) (pv 9) (fun _ _ => rfl)) pe_int (fun _ _ => rfl)))))))) (fun _ _ _ _ _ => (pv 9)))
      (pss_cons (ps_if (PW.pt (pw_or (pt_not (pt_val (pe_callB call_isi (by rfl) T.b_isinstance (by decide +kernel) (pa_cons (pv 6) (pa_cons (pe_bltn (v := .ty "list") (by rfl) T.b_list (by decide +kernel) rfl) pa_nil))))) (pw_or1 (pt_cmpR (op_neD hr.units) (pv 6) (pv 7) (nomark _))))) (pss_one (ps_ret pe_bl)) pss_nil)
      (pss_one (ps_expr (pe_bm PySem.F.plainAttrs_list PySem.F.slot_list_append PySem.F.type_list_append mt_append (pv 2) (pa_cons (pe_lst (pa_cons (pv 6) (pa_cons (pe_callTy call_list_of (by rfl) T.b_list (by decide +kernel) (pa_cons (pv 6) pa_nil)) pa_nil))) pa_nil))))))))
      (C8.pss_cut (ps_if (pt_cmpR op_eq (pe_op op_mod (pe_callB call_len_seq (by rfl) T.b_len PySem.boot_len (pa_cons (pv 2) pa_nil)) pe_int) pe_int (nomark _)) (pss_cons (ps_expr (pe_bm PySem.F.plainAttrs_list PySem.F.slot_list_append PySem.F.type_list_append mt_append (pe_ix (r := rIxL K) ix_list (pv 3) pe_int (fun _ _ => rfl)) (pa_cons (pe_tup (pa_cons pe_str (pa_cons pe_bl pa_nil))) pa_nil)))
      (pss_one (ps_expr (pe_bm0 PySem.F.plainAttrs_list PySem.F.slot_list_clear PySem.F.type_list_clear mt_clear (pe_ix (r := rIxL K) ix_list (pv 3) pe_int (fun _ _ => rfl)))))) pss_nil)
      (pss_cons (ps_for PassesOwn.never rfl (pi_list (pv 3)) (pg_name (i := 8) sc_l_net_stands.nd rfl (by first | exact Or.inl rfl | exact Or.inr rfl)) (pss_one (ps_expr (pe_bm PySem.F.plainAttrs_list PySem.F.slot_list_append PySem.F.type_list_append mt_append (pv 2) (pa_cons (pe_lst (pa_cons (pv 8) (pa_cons (pe_callTy call_list_of (by rfl) T.b_list (by decide +kernel) (pa_cons (pv 8) pa_nil)) pa_nil))) pa_nil)))))
      (pss_one (ps_ret pe_bl))))))))))), ?_⟩
    walk_at "go"
    have hkp : k ≠ p := by obtain ⟨⟨dx, ob⟩, _⟩ := hN; exact ne_of hk ob (by intro z; cases z)
    have hkg : k ≠ g := ne_of hk hN.gt (by intro z; cases z)
    obtain ⟨dx, hob⟩ := hN.ob
    refine ⟨p, dx, _, rfl, hob, netF_no _ _ (by decide +kernel) (by decide +kernel), p, g, r, N, rfl, hN, fun H1 L1 us1 s1 n1 h1 p1 => ?_⟩
    walk_at "go"
    refine ⟨p, dx, _, rfl, s1 _ _ hob, netF_no _ _ (by decide +kernel) (by decide +kernel), p, g, r, N, rfl, hN.same s1, fun H2 L2 us2 s2 n2 h2 p2 => ?_⟩
    walk_at "go"
    refine ⟨(by show 2 ≤ sizeLine; decide), fun D hD => ?_⟩
    have s12 := s1.trans s2
    have a2 : AskedV H (upd H2 D (.lst [.ref L1, .ref L2])) N L1 L2 := AskedV.same (H1 := H2) ⟨us1, us2, n1, s1.free n2, ne_of_none h1 n2, s2 _ _ h1, h2, gatesV_same s2 p1, p2⟩ (same_up hD)
    dsimp only [gName, List.set]
    refine ⟨fun σ' H' => ∃ L1 L2 D, σ' = [some (.ref p), some (.ref o), some (.ref k), some (.ref D), none, none, none, none, none, none] ∧ Same H H' ∧ AskedV H H' N L1 L2 ∧ H D = none ∧ D ≠ L1 ∧ D ≠ L2 ∧ H' D = some (.lst [.ref L1, .ref L2]), ?_, ?_⟩
    · have s3 := same_new s12 (s12.free hD) (o := HO.lst [V.ref L1, V.ref L2])
      --{
      walk_at "go"
      refine ⟨k, ps, rfl, .inl (SqL.of (s3 _ _ hk)), ?_⟩
      walk_at "go"
      refine ite2 (fun h => ?_) (fun h => ?_)
      · walk_at "go"
        refine ⟨p, dx, _, rfl, s3 _ _ hob, netF_no _ _ (by decide +kernel) (by decide +kernel), p, g, r, N, rfl, hN.same s3, fun H4 L4 us4 s4 n4 h4 p4 => ?_⟩
        walk_at "go"
        have s4' := s3.trans s4
        refine ⟨p, dx, _, rfl, s4' _ _ hob, netF_no _ _ (by decide +kernel) (by decide +kernel), p, g, r, N, rfl, hN.same s4', fun H5 L5 us5 s5 n5 h5 p5 => ?_⟩
        walk_at "go"
        have s5' := s4'.trans s5
        refine ⟨(by show 2 ≤ sizeLine; decide), fun D5 hD5 => ?_⟩
        refine ⟨D5, _, rfl, SqL.of upd_same, fun D6 hD6 => ?_⟩
        have hD56 : D5 ≠ D6 := ne_of_none upd_same hD6
        have hD6' : H5 D6 = none := by rw [upd_ne hD56.symm] at hD6; exact hD6
        have s6 : Same H5 (upd (upd H5 D5 (.lst [.ref L4, .ref L5])) D6 (.lst [.ref L5, .ref L4])) := same_new (same_up hD5) hD6'
        refine ⟨L5, L4, D6, rfl, s5'.trans s6, ?_, s5'.free hD6', (ne_of_none h5 hD6').symm, (ne_of_none (s5 _ _ h4) hD6').symm, upd_same⟩
        exact AskedV.same (H1 := H5) ⟨us5, us4, s4'.free n5, s3.free n4, (ne_of_none h4 n5).symm, h5, s5 _ _ h4, p5, roads_same s5 p4⟩ s6
      · exact ⟨L1, L2, D, rfl, s3, a2, s12.free hD, (ne_of_none (s2 _ _ h1) hD).symm, (ne_of_none h2 hD).symm, upd_same⟩
      --}
    rintro σ' H3 ⟨L1, L2, D, rfl, s3, a3, nD, nD1, nD2, hD3⟩
    clear a2 h1 h2 p1 p2 n1 n2 s1 s2 s12 hD
    obtain ⟨us1, us2, n1, n2, ne12, h1, h2, p1, p2⟩ := a3
    refine seqS_if1 false (anS_or (a := false) (b := false) (anS_of ?_) fun _ H4 s4 => anS_of ?_) (fun z => by cases z) (fun _ H4 s4 => ?_)
    · intro Q' q'
      walk_at "step"
      refine ⟨_, _, _, _, true, rfl, ClsV.ty _, TyX.base (TyOf.lst h1), kit_ty (by decide +kernel), ?_⟩
      exact ⟨_, rfl, q'⟩
    · intro Q' q'
      walk_at "step"
      refine ⟨_, _, _, _, true, rfl, ClsV.ty _, TyX.base (TyOf.lst (s4 _ _ h2)), kit_ty (by decide +kernel), ?_⟩
      exact ⟨_, rfl, q'⟩
    have gl := paired_len hO.pg
    have rl := paired_len hO.pr
    have s34 := s3.trans s4
    replace h1 := s4 _ _ h1
    replace h2 := s4 _ _ h2
    replace hD3 := s4 _ _ hD3
    replace p1 := gatesV_same s4 p1
    replace p2 := roads_same s4 p2
    clear s3 s4
    refine seqS_if1 false (anS_or (a := false) (b := false) ?_ fun _ H5 s5 => ?_) (fun z => by cases z) (fun _ H5 s5 => ?_)
    · intro Q' q'
      --{
      have hO4 := hO.same s34
      have e1 := hO4.ho
      have e2 := hO4.hg
      walk_at "step"
      refine ⟨⟨_, SqL.of e2⟩, fun D5 hD5 => lc_list (K := K) (a := og) (xs := gts.map V.ref) (fun i H' => Same H4 H' ∧ ∃ vs, H' D5 = some (.lst vs) ∧ Paired (GateV H') vs (N.gates.take i)) ⟨same_up hD5, [], upd_same, .nil⟩ (fun i H' _ ⟨s1, _⟩ => SqL.of (s1 _ _ e2)) ?_ ?_⟩
      · rintro i x H5 hi ⟨s5, vs, hv, hP⟩
        obtain ⟨tg, htg, rfl⟩ := map_ref_get hi
        obtain ⟨gq, hgq, hgl2⟩ := paired_getL hO4.pg htg
        refine ⟨rfl, ?_⟩
        walk_at "go"
        refine ⟨tg, _, rfl, .inl ⟨SqL.of (s5 _ _ hgl2), fun l hl => ?_⟩⟩
        have s6 := same_new s5 (s5.free hl) (o := HO.tup [V.str gq.1, V.bl gq.2])
        have hvl := paired_len hP
        have hv2 := upd_at (o := HO.tup [V.str gq.1, V.bl gq.2]) (ne_of_none hv hl) hv
        refine ⟨vs, hv2, Evl.sz_lt (by rw [hvl, List.length_take]; have := hN.l1; omega), same_new s6 hD5, vs ++ [.ref l], upd_same, ?_⟩
        rw [List.take_add_one, hgq]
        exact gates_upd hv2 (Paired.snoc (gatesV_same (same_up hl) hP) ⟨l, rfl, upd_same⟩)
      · rintro H5 ⟨s5, vs, hv, hP⟩
        rw [List.length_map, gl, List.take_length] at hP
        have ok : okD 2 (.list (N.gates.map gateD)) := okD_list (items_ok (gates_items hP hNm.1))
        refine ⟨_, _, Dp.lst (SqL.of (s5 _ _ h1)) (items_dp (gates_items (gatesV_same s5 p1) hNm.1)), Dp.lst (SqL.of hv) (items_dp (gates_items hP hNm.1)), ok.shaped (by decide), ok.shaped (by decide), ?_⟩
        rw [ok.refl]
        exact ⟨_, rfl, q' H5 s5⟩
      --}
    · intro Q' q'
      --{
      have hO5 := hO.same (s34.trans s5)
      have e1 := hO5.ho
      have e2 := hO5.hr
      replace h2 := s5 _ _ h2
      replace hD3 := s5 _ _ hD3
      walk_at "step"
      refine ⟨⟨_, SqL.of e2⟩, fun D6 hD6 => lc_list (K := K) (a := orr) (xs := rts.map V.ref) (fun i H' => Same H5 H' ∧ ∃ vs, H' D6 = some (.lst vs) ∧ Paired (RoadV H') vs (N.roads.take i)) ⟨same_up hD6, [], upd_same, .nil⟩ (fun i H' _ ⟨s1, _⟩ => SqL.of (s1 _ _ e2)) ?_ ?_⟩
      · rintro i x H6 hi ⟨s6, vs, hv, hP⟩
        obtain ⟨tg, htg, rfl⟩ := map_ref_get hi
        obtain ⟨gq, hgq, hgl2⟩ := paired_getL hO5.pr htg
        refine ⟨rfl, ?_⟩
        walk_at "go"
        refine ⟨tg, _, rfl, .inl ⟨SqL.of (s6 _ _ hgl2), fun l hl => ?_⟩⟩
        have s7 := same_new s6 (s6.free hl) (o := HO.tup (roadVs gq))
        have hvl := paired_len hP
        have hv2 := upd_at (o := HO.tup (roadVs gq)) (ne_of_none hv hl) hv
        refine ⟨vs, hv2, Evl.sz_lt (by rw [hvl, List.length_take]; have := hN.l2; omega), same_new s7 hD6, vs ++ [.ref l], upd_same, ?_⟩
        rw [List.take_add_one, hgq]
        exact roads_upd hv2 (Paired.snoc (roads_same (same_up hl) hP) ⟨l, rfl, upd_same⟩)
      · rintro H6 ⟨s6, vs, hv, hP⟩
        rw [List.length_map, rl, List.take_length] at hP
        have ok : okD 2 (.list (N.roads.map roadD)) := okD_list (items_ok (roads_items hP hNm.2))
        refine ⟨_, _, Dp.lst (SqL.of (s6 _ _ h2)) (items_dp (roads_items (roads_same (s5.trans s6) p2) hNm.2)), Dp.lst (SqL.of hv) (items_dp (roads_items hP hNm.2)), ok.shaped (by decide), ok.shaped (by decide), ?_⟩
        rw [ok.refl]
        exact ⟨_, rfl, q' H6 s6⟩
      --}
    have s35 := s34.trans s5
    replace h1 := s5 _ _ h1
    replace h2 := s5 _ _ h2
    replace hD3 := s5 _ _ hD3
    replace p1 := gatesV_same s5 p1
    replace p2 := roads_same s5 p2
    clear s34 s5
    walk_at "step"
    refine ⟨⟨_, SqL.of h1⟩, for_list (K := K) (a := L1) (xs := us1) (fun i σ' H' => H5 = H' ∧ ∃ v4, σ' = [some (.ref p), some (.ref o), some (.ref k), some (.ref D), v4, none, none, none, none, none]) ⟨rfl, none, rfl⟩ (fun i σ' H' _ ⟨e, _⟩ => e ▸ SqL.of h1) ?_ ?_⟩
    · rintro i x σ' H' hi ⟨rfl, v4, rfl⟩
      --{
      obtain ⟨gq, hgq, t, rfl, ht⟩ := paired_getL p1 hi
      refine do_if1 false (an_or (a := false) (b := false) ?_ fun _ => ?_) (fun z => by cases z) (fun _ => ⟨rfl, _, rfl⟩)
      · intro Q' q'
        walk_at "step"
        refine ⟨_, _, _, _, true, rfl, ClsV.ty _, TyX.base (TyOf.tup ht), kit_ty (by decide +kernel), ?_⟩
        exact ⟨_, rfl, q'⟩
      · intro Q' q'
        walk_at "step"
        refine ⟨_, _, _, _, true, rfl, ClsV.ty _, TyX.base (TyOf.bl _), kit_ty (by decide +kernel), ?_⟩
        exact ⟨_, rfl, q'⟩
      --}
    rintro σ' H' ⟨rfl, v4, rfl⟩
    walk_at "step"
    refine ⟨⟨_, SqL.of h2⟩, for_list (K := K) (a := L2) (xs := us2) (fun i σ' H' => H5 = H' ∧ ∃ v5, σ' = [some (.ref p), some (.ref o), some (.ref k), some (.ref D), v4, v5, none, none, none, none]) ⟨rfl, none, rfl⟩ (fun i σ' H' _ ⟨e, _⟩ => e ▸ SqL.of h2) ?_ ?_⟩
    · rintro i x σ' H' hi ⟨rfl, v5, rfl⟩
      --{
      obtain ⟨gq, hgq, t, rfl, ht⟩ := paired_getL p2 hi
      have ht : H5 t = some (.tup [.str gq.one, .str gq.other, .int gq.mi, .int gq.tl, .bl gq.op]) := ht
      refine seq_if1 false (an_or (a := false) (b := false) ?_ fun _ => ?_) (fun z => by cases z) (fun _ => ?_)
      · intro Q' q'
        walk_at "step"
        refine ⟨_, _, _, _, true, rfl, ClsV.ty _, TyX.base (TyOf.tup ht), kit_ty (by decide +kernel), ?_⟩
        exact ⟨_, rfl, q'⟩
      · intro Q' q'
        walk_at "step"
        refine ⟨_, _, _, _, true, rfl, ClsV.ty _, TyX.base (TyOf.bl _), kit_ty (by decide +kernel), ?_⟩
        exact ⟨_, rfl, q'⟩
      refine do_if1 false (an_or (a := false) (b := false) ?_ fun _ => ?_) (fun z => by cases z) (fun _ => ⟨rfl, _, rfl⟩)
      · intro Q' q'
        walk_at "step"
        exact q'
      · intro Q' q'
        walk_at "step"
        exact q'
      --}
    rintro σ' H' ⟨rfl, v5, rfl⟩
    have hO5 := hO.same s35
    have e1 := hO5.ho
    have e2 := hO5.hg
    have e3 := hO5.hr
    walk_at "step"
    refine ⟨og, _, rfl, .inl (SqL.of e2), ?_⟩
    walk_at "step"
    refine ⟨og, _, _, rfl, rfl, by omega, SqL.of e2, fun S hS => ?_⟩
    have hst := stepV_mem (gts.map V.ref) (1 + ((gts.map V.ref).length : Int) / 6)
    have hsl := stepV_len (gts.map V.ref) (1 + ((gts.map V.ref).length : Int) / 6) (by omega)
    generalize stepV (gts.map V.ref) (1 + ((gts.map V.ref).length : Int) / 6) = ss at hst hsl
    have s56 : Same H5 (upd H5 S (.lst ss)) := same_up hS
    have hS6 : (upd H5 S (.lst ss)) S = some (.lst ss) := upd_same
    have nS := s35.free hS
    generalize upd H5 S (.lst ss) = H6 at s56 hS6
    have s36 := s35.trans s56
    replace h1 := s56 _ _ h1
    replace h2 := s56 _ _ h2
    replace hD3 := s56 _ _ hD3
    replace p1 := gatesV_same s56 p1
    replace p2 := roads_same s56 p2
    clear e1 e2 e3 hO5 s35 s56
    have hk6 := s36 _ _ hk
    have kn : H k ≠ none := by rw [hk]; simp
    have nk : ∀ x, H x = none → x ≠ k := fun x hx z => kn (by rw [← z]; exact hx)
    walk_at "go"
    refine ⟨⟨_, SqL.of hS6⟩, for_list (K := K) (a := S) (xs := ss) (fun i σ' H' => Keep [k] H6 H' ∧ ∃ news v4 v6 v7, σ' = [some (.ref p), some (.ref o), some (.ref k), some (.ref D), v4, v5, v6, v7, none, none] ∧
      H' k = some (.lst (ps ++ news)) ∧ news.length ≤ i ∧ ∀ v ∈ news, NewPair H6 H' v) ⟨Keep.of_same (Same.refl _), [], v4, none, none, rfl, by rw [List.append_nil]; exact hk6, Nat.le_refl _, by simp⟩
      (fun i σ' H' _ ⟨kp, _⟩ => SqL.of (kp S _ hS6 (by simpa using nk S nS))) ?_ ?_⟩
    · rintro i x σ' H7 hi ⟨kp, news, v4, v6, v7, rfl, hk7, hnl, hnw⟩
      --{
      obtain ⟨tg, htg, rfl⟩ := List.mem_map.mp (hst x (List.mem_of_getElem? hi))
      obtain ⟨j, hj⟩ := List.getElem?_of_mem htg
      have kA : Keep [k] H H7 := (Keep.of_same s36).trans kp
      have hN7 := hN.keep kA (by simpa using hkp.symm) (by simpa using hkg.symm) (by simpa using hkr.symm) (list_ne_tup hk)
      have hO7 := hO.keep kA (by simpa using hko)
      obtain ⟨gq, hgq, hgl⟩ := paired_getL hO7.pg hj
      have hgm := List.mem_of_getElem? hgq
      have hgn := hNm.1 gq hgm
      obtain ⟨dx7, hob7⟩ := hN7.ob
      have il : i < ss.length := (List.getElem?_eq_some_iff.mp hi).1
      have gl60 := hN.l1
      have rl200 := hN.l2
      rw [List.length_map] at hsl
      walk_at "go"
      refine ⟨p, dx7, _, rfl, hob7, netF_no _ _ (by decide +kernel) (by decide +kernel), ?_⟩
      walk_at "step"
      refine ⟨p, g, r, N, gq.1, rfl, hN7, by have := hgn.1; omega, hgn.2.1, fun z => absurd z (sees_mem hgm), fun _ H8 L8 s8 n8 h8 => ?_⟩
      have hO8 := hO7.same s8
      have e1 := hO8.ho
      have e3 := hO8.hr
      replace hgl := s8 _ _ hgl
      walk_at "step"
      refine ⟨orr, _, rfl, .inl (SqL.of e3), ?_⟩
      rw [List.length_map]
      walk_at "go"
      intro D9 hD9
      refine lc_range (lo := 0) (n := _) (fun i H' => Same H8 H' ∧ H' D9 = some (.lst ((leavingF N.roads gq.1 i).map V.int))) ⟨same_up hD9, upd_same⟩ ?_ ?_
      · rintro m H9 hm ⟨s9, hL9⟩
        have hm : m < rts.length := by omega
        obtain ⟨rd, hrd⟩ : ∃ rd, N.roads[m]? = some rd := ⟨_, List.getElem?_eq_getElem (by rw [← rl]; exact hm)⟩
        obtain ⟨tr, htr, hrl⟩ := paired_get (hO8.same s9).pr hrd
        have hrl : H9 tr = some (.lst [.str rd.one, .str rd.other, .int rd.mi, .int rd.tl, .bl rd.op]) := hrl
        have e1' := s9 _ _ e1
        have e3' := s9 _ _ e3
        have hgl' := s9 _ _ hgl
        have hix : atI (rts.map V.ref) (0 + (m : Int)) = some (.ref tr) := atI_of (j := m) (by omega) (by rw [List.getElem?_map, htr]; rfl)
        have hst := leavingF_step (nm := gq.1) hrd
        have hlen := leavingF_len N.roads gq.1 m
        refine ⟨rfl, ?_⟩
        refine (an_and (a := decide (rd.one = gq.1)) (b := rd.op) ?_ fun _ => ?_) _ ?_
        · intro Q' q'
          walk_at "step"
          refine ⟨orr, _, _, _, rfl, rfl, SqL.of e3', hix, ?_⟩
          walk_at "step"
          rw [dec_str]
          exact q'
        · intro Q' q'
          walk_at "step"
          refine ⟨orr, _, _, _, rfl, rfl, SqL.of e3', hix, ?_⟩
          walk_at "step"
          exact q'
        refine ite2 (fun hb => ?_) (fun hb => ?_)
        · have hb : rd.one = gq.1 ∧ rd.op = true := by simpa using hb
          rw [if_pos hb] at hst
          walk_at "go"
          refine ⟨_, hL9, Evl.sz_lt (by rw [List.length_map]; omega), same_new s9 hD9, ?_⟩
          rw [upd_same, hst, List.map_append, Int.zero_add]
          rfl
        · have hb : ¬ (rd.one = gq.1 ∧ rd.op = true) := fun z => hb (by simp [z.1, z.2])
          rw [if_neg hb] at hst
          exact ⟨s9, by rw [hst]; exact hL9⟩
      rintro H9 ⟨s9, hL9⟩
      rw [show ((rts.length : Int)).toNat = N.roads.length by omega] at hL9
      have s79 := s8.trans s9
      have h9 := s9 _ _ h8
      have hk9 := s79 _ _ hk7
      dsimp only [gName, List.set]
      refine seq_if1 false (an_or (a := false) (b := false) ?_ fun _ => ?_) (fun z => by cases z) (fun _ => ?_)
      · intro Q' q'
        walk_at "step"
        refine ⟨_, _, _, _, true, rfl, ClsV.ty _, TyX.base (TyOf.lst h9), kit_ty (by decide +kernel), ?_⟩
        exact ⟨_, rfl, q'⟩
      · intro Q' q'
        walk_at "step"
        refine ⟨_, _, dp_ints (SqL.of h9), dp_ints (SqL.of hL9), (intsD_ok _).shaped (by decide), (intsD_ok _).shaped (by decide), ?_⟩
        rw [(intsD_ok _).refl]
        exact ⟨_, rfl, q'⟩
      have hlen := leavingF_len N.roads gq.1 N.roads.length
      walk_at "step"
      refine ⟨.inl ⟨rfl, _, SqL.of hk9⟩, ?_⟩
      walk_at "step"
      refine ⟨L8, _, rfl, .inl (SqL.of h9), fun C hC => ?_⟩
      walk_at "step"
      refine ⟨(by show 2 ≤ sizeLine; decide), fun q' hq' => ?_⟩
      have hqC : C ≠ q' := ne_of_none upd_same hq'
      have hq9 : H9 q' = none := by rw [upd_ne hqC.symm] at hq'; exact hq'
      have s911 : Same H9 (upd (upd H9 C (.lst ((leavingF N.roads gq.1 N.roads.length).map V.int))) q' (.lst [.ref L8, .ref C])) := same_new (same_up hC) hq9
      have hC11 : (upd (upd H9 C (.lst ((leavingF N.roads gq.1 N.roads.length).map V.int))) q' (.lst [.ref L8, .ref C])) C = some (.lst ((leavingF N.roads gq.1 N.roads.length).map V.int)) := upd_at hqC upd_same
      have hq11 : (upd (upd H9 C (.lst ((leavingF N.roads gq.1 N.roads.length).map V.int))) q' (.lst [.ref L8, .ref C])) q' = some (.lst [.ref L8, .ref C]) := upd_same
      generalize upd (upd H9 C (.lst ((leavingF N.roads gq.1 N.roads.length).map V.int))) q' (.lst [.ref L8, .ref C]) = H11 at s911 hC11 hq11
      have s711 := s79.trans s911
      have h11 := s911 _ _ h9
      have hk11 := s911 _ _ hk9
      have kf : ∀ x, H7 x = none → H6 x = none := fun x hx => kp.free1 (by rw [hk7]; simp) hx
      have kn6 : H6 k ≠ none := by rw [hk6]; simp
      have nq := kf q' (s79.free hq9)
      have nC := kf C (s79.free hC)
      have nL := kf L8 n8
      refine ⟨k, _, _, rfl, rfl, hk11, Evl.sz_lt (by rw [List.length_append]; omega), ?_⟩
      refine ⟨(kp.trans (Keep.of_same s711)).upd (.inl (by simp)), news ++ [.ref q'], _, _, _, rfl, by rw [upd_same, List.append_assoc], by simp; omega, fun v hv => ?_⟩
      rcases List.mem_append.mp hv with hv | hv
      · exact ((hnw v hv).same s711).upd hk11 kn6
      · rw [List.mem_singleton] at hv
        subst hv
        exact NewPair.upd ⟨q', L8, C, _, _, rfl, nq, nL, nC, hq11, h11, hC11, ints_items _⟩ hk11 kn6
      --}
    rintro σ' H7 ⟨kp, news, v4, v6, v7, rfl, hk7, hnl, hnw⟩
    walk_at "go"
    have kA : Keep [k] H H7 := (Keep.of_same s36).trans kp
    have kk : ∀ x, H x = none → ∀ u, H6 x = some u → H7 x = some u := fun x hx u e => kp x u e (by simpa using nk x hx)
    have l1 := kk L1 n1 _ h1
    have l2 := kk L2 n2 _ h2
    have hD7 := kk D nD _ hD3
    have hk6t := list_ne_tup hk6
    have i1 : Paired (ItemV H7) us1 (N.gates.map gateD) := _root_.L2.Paired.mapP (gates_items p1 hNm.1) fun _ _ h => h.keep kp hk6t
    have i2 : Paired (ItemV H7) us2 (N.roads.map roadD) := _root_.L2.Paired.mapP (roads_items p2 hNm.2) fun _ _ h => h.keep kp hk6t
    have z1 := paired_len p1
    have z2 := paired_len p2
    have gl60 := hN.l1
    rw [List.length_map] at hsl
    dsimp only
    refine ⟨fun σ' H' => ∃ w1 w2 d1 d2, σ' = [some (.ref p), some (.ref o), some (.ref k), some (.ref D), v4, v5, v6, v7, none, none] ∧ Keep [k] H H' ∧ H' k = some (.lst (ps ++ news)) ∧ (∀ v ∈ news, NewPair H6 H' v) ∧ H' D = some (.lst [.ref L1, .ref L2]) ∧
      H' L1 = some (.lst w1) ∧ H' L2 = some (.lst w2) ∧ Paired (ItemV H') w1 d1 ∧ Paired (ItemV H') w2 d2, ?_, ?_⟩
    · walk_at "step"
      refine ⟨k, _, rfl, .inl (SqL.of hk7), ?_⟩
      walk_at "step"
      refine ite2 (fun h => ?_) (fun h => ?_)
      rotate_left
      · exact ⟨us1, us2, _, _, rfl, kA, hk7, hnw, hD7, l1, l2, i1, i2⟩
      walk_at "step"
      refine ⟨.inl ⟨rfl, _, SqL.of l1⟩, ?_⟩
      walk_at "step"
      refine ⟨(by show 2 ≤ sizeLine; decide), fun t ht => ?_⟩
      have s8 : Same H7 (upd H7 t (.tup [.str "zz", .bl true])) := same_up ht
      have ht8 : (upd H7 t (.tup [.str "zz", .bl true])) t = some (.tup [.str "zz", .bl true]) := upd_same
      generalize upd H7 t (.tup [.str "zz", .bl true]) = H8 at s8 ht8
      have l1' := s8 _ _ l1
      have l2' := s8 _ _ l2
      refine ⟨L1, _, _, rfl, rfl, l1', Evl.sz_lt (by omega), ?_⟩
      have hD8 := upd_at (o := HO.lst (us1 ++ [V.ref t])) nD1 (s8 _ _ hD7)
      have l1u : (upd H8 L1 (.lst (us1 ++ [.ref t]))) L1 = some (.lst (us1 ++ [.ref t])) := upd_same
      have l2u := upd_at (o := HO.lst (us1 ++ [V.ref t])) ne12.symm l2'
      have n61 : H6 L1 ≠ none := by rw [h1]; simp
      have n62 : H6 L2 ≠ none := by rw [h2]; simp
      have kn8 : ∀ v ∈ news, NewPair H6 (upd H8 L1 (.lst (us1 ++ [.ref t]))) v := fun v hv => ((hnw v hv).same s8).upd l1' n61
      have k8 : Keep [k] H (upd H8 L1 (.lst (us1 ++ [.ref t]))) := (kA.trans (Keep.of_same s8)).upd (.inr n1)
      have hk8 := upd_at (o := HO.lst (us1 ++ [V.ref t])) (show k ≠ L1 from (nk L1 n1).symm) (s8 _ _ hk7)
      have i18 : Paired (ItemV (upd H8 L1 (.lst (us1 ++ [.ref t])))) (us1 ++ [.ref t]) (N.gates.map gateD ++ [.tuple [.str "zz", .bool true]]) := items_upd l1' (Paired.snoc (items_same s8 i1) (.inr ⟨t, _, _, rfl, ht8, .cons (by rw [flatD_str, if_pos (by decide +kernel)]) (.cons rfl .nil), rfl⟩))
      have i28 := items_upd (o := HO.lst (us1 ++ [V.ref t])) l1' (items_same s8 i2)
      generalize upd H8 L1 (.lst (us1 ++ [.ref t])) = H9 at hD8 l1u l2u kn8 k8 hk8 i18 i28
      walk_at "step"
      refine ⟨.inl ⟨rfl, _, SqL.of l2u⟩, L2, _, rfl, rfl, l2u, ?_⟩
      refine ⟨_, [], _, [], rfl, k8.upd (.inr n2), upd_at (nk L2 n2).symm hk8, fun v hv => (kn8 v hv).upd l2u n62, upd_at nD2 hD8, upd_at ne12 l1u, upd_same, items_upd l2u i18, .nil⟩
    rintro σ' H8 ⟨w1, w2, d1, d2, rfl, k8, hk8, hn8, hD8, q1, q2, i1', i2'⟩
    walk_at "step"
    refine ⟨⟨_, SqL.of hD8⟩, for_list (K := K) (a := D) (xs := [.ref L1, .ref L2]) (fun i σ' H' => Keep [k] H8 H' ∧ ∃ more v8, σ' = [some (.ref p), some (.ref o), some (.ref k), some (.ref D), v4, v5, v6, v7, v8, none] ∧
      H' k = some (.lst (ps ++ news ++ more)) ∧ more.length = i ∧ ∀ v ∈ news ++ more, NewPair H H' v) ⟨Keep.of_same (Same.refl _), [], none, rfl, by rw [List.append_nil]; exact hk8, rfl, ?_⟩
      (fun i σ' H' _ ⟨kp, _⟩ => SqL.of (kp D _ hD8 (by simpa using nk D nD))) ?_ ?_⟩
    · intro v hv
      rw [List.append_nil] at hv
      obtain ⟨q', a', b', vs', ds', e', m1, m2, m3, z⟩ := hn8 v hv
      exact ⟨q', a', b', vs', ds', e', s36.free m1, s36.free m2, s36.free m3, z⟩
    · rintro i x σ' H9 hi ⟨kp9, more, v8, rfl, hk9, hml, hnw9⟩
      obtain ⟨L, w, d, rfl, nL, lL, iL⟩ : ∃ L w d, x = V.ref L ∧ H L = none ∧ H8 L = some (.lst w) ∧ Paired (ItemV H8) w d := by
        match i, hi with
        | 0, hi => exact ⟨L1, w1, d1, (Option.some.inj hi).symm, n1, q1, i1'⟩
        | 1, hi => exact ⟨L2, w2, d2, (Option.some.inj hi).symm, n2, q2, i2'⟩
        | i + 2, hi => simp at hi
      have l9 := kp9 L _ lL (by simpa using nk L nL)
      have iL9 : Paired (ItemV H9) w d := _root_.L2.Paired.mapP iL fun _ _ h => h.keep kp9 (list_ne_tup hk8)
      have i2l : i < 2 := (List.getElem?_eq_some_iff.mp hi).1
      walk_at "step"
      refine ⟨.inl ⟨rfl, _, SqL.of hk9⟩, ?_⟩
      walk_at "step"
      refine ⟨L, _, rfl, .inl (SqL.of l9), fun C hC => ?_⟩
      walk_at "step"
      refine ⟨(by show 2 ≤ sizeLine; decide), fun q' hq' => ?_⟩
      have hqC : C ≠ q' := ne_of_none upd_same hq'
      have hq9 : H9 q' = none := by rw [upd_ne hqC.symm] at hq'; exact hq'
      have s911 : Same H9 (upd (upd H9 C (.lst w)) q' (.lst [.ref L, .ref C])) := same_new (same_up hC) hq9
      have hC11 : (upd (upd H9 C (.lst w)) q' (.lst [.ref L, .ref C])) C = some (.lst w) := upd_at hqC upd_same
      have hq11 : (upd (upd H9 C (.lst w)) q' (.lst [.ref L, .ref C])) q' = some (.lst [.ref L, .ref C]) := upd_same
      generalize upd (upd H9 C (.lst w)) q' (.lst [.ref L, .ref C]) = H11 at s911 hC11 hq11
      have k9 := k8.trans kp9
      have kf : ∀ x, H9 x = none → H x = none := fun x hx => k9.free1 (by rw [hk9]; simp) hx
      have hk11 := s911 _ _ hk9
      refine ⟨k, _, _, rfl, rfl, hk11, Evl.sz_lt (by rw [List.length_append, List.length_append]; omega), ?_⟩
      refine ⟨(kp9.trans (Keep.of_same s911)).upd (.inl (by simp)), more ++ [.ref q'], _, rfl, by rw [upd_same, List.append_assoc (ps ++ news)], by simp; omega, fun v hv => ?_⟩
      rw [← List.append_assoc] at hv
      rcases List.mem_append.mp hv with hv | hv
      · exact ((hnw9 v hv).same s911).upd hk11 kn
      · rw [List.mem_singleton] at hv
        subst hv
        exact NewPair.upd ⟨q', L, C, _, _, rfl, kf q' hq9, nL, kf C hC, hq11, s911 _ _ l9, hC11, items_same s911 iL9⟩ hk11 kn
    rintro σ' H9 ⟨kp9, more, v8, rfl, hk9, hml, hnw9⟩
    walk_at "step"
    refine q H9 (news ++ more) (k8.trans kp9) (by rw [hk9, List.append_assoc]) ?_ hnw9
    have hml : more.length = 2 := hml
    rw [List.length_append]
    omega
end
end Toll

set_option Elab.async false
set_option maxRecDepth 100000
set_option maxHeartbeats 4000000
set_option linter.all false
namespace Toll
open PySem L2
local macro_rules | `(tactic| walk_at "go1") => `(tactic| first
  | refine ⟨_, rfl, ?_⟩
  | refine ⟨rfl, ?_⟩
  | refine ⟨_, _, rfl, rfl, ?_⟩
  | refine ⟨_, _, rfl, ?_⟩
  | (with_reducible refine' ⟨log_small ?k1 ?k2, ?_⟩; (case k1 => omega); (case k2 => omega))
  | (refine' ⟨?k1, ?_⟩; (case k1 => ((with_reducible show (_ : Int) < _); omega)))
  | (refine' ⟨⟨?k1, ?k2⟩, ?_⟩; (case k1 => omega); (case k2 => omega))
  | (refine' ⟨⟨?k1, ?k2, ?k3, ?k4⟩, ?_⟩; (case k1 => omega); (case k2 => omega); (case k3 => omega); (case k4 => omega))
  | (refine' ⟨.inl ⟨?k1, ?k2⟩, ?_⟩; (case k1 => omega); (case k2 => omega))
  | (refine' ⟨.inr ⟨?k1, ?k2⟩, ?_⟩; (case k1 => omega); (case k2 => omega))
  | (refine' ⟨Evl.sz_of ?k1, ?_⟩; (case k1 => omega))
  | (refine' ⟨?k1, ?_⟩; (case k1 => ((with_reducible show (_ : Int) ≤ _); omega)))
  | refine ⟨⟨_, rfl⟩, ?_⟩
  | refine .inl ⟨_, rfl, ?_⟩ | refine .inr ⟨_, rfl, ?_⟩
  | refine iteT ?_ | refine iteF ?_)
local macro_rules | `(tactic| walk_at "go") => `(tactic| repeat (walk_at "go1"))
local macro_rules | `(tactic| walk_at "ans") => `(tactic| (intro Q' q'; walk_at "go"; (try rw [dec_int]); (try rw [dec_str]); exact q'))
local macro_rules | `(tactic| walk_at "hp") => `(tactic| first | assumption | exact upd_same | (refine' up_same ?e ?h; (case e => assumption); (case h => walk_at "hp")) | (refine' upd_at ?n ?h; (case n => walk_at "ne"); (case h => walk_at "hp")))
local macro_rules | `(tactic| walk_at "ne") => `(tactic| first | assumption | (apply Ne.symm; assumption))
local macro_rules | `(tactic| walk_at "at") => `(tactic| first | exact atI_nat (j := 0) rfl | exact atI_nat (j := 1) rfl | exact atI_nat (j := 2) rfl | exact atI_nat (j := 3) rfl | exact atI_nat (j := 4) rfl)
local macro_rules | `(tactic| walk_at "step1") => `(tactic| first
  | walk_at "go1"
  | (apply ixL_step; (case h => walk_at "hp"); (case a => walk_at "at"))
  | (apply ixT_step; (case h => walk_at "hp"); (case a => walk_at "at"))
  | (apply lenL_step; (case h => walk_at "hp")))
local macro_rules | `(tactic| walk_at "step") => `(tactic| repeat (walk_at "step1"))
section
variable {P : Program} {w : World} {K : PySem.W.Frag} {mg : Str → Option Value} {base : Heap} {A : Ads}
def spFilled (A : Ads) : Sp := fun vs H Q _ => ∃ (p g r o og orr : Addr) (b : Int), vs = [.ref p, .ref o, .int b] ∧ Side A.C_Net H p g r o og orr [] [] ⟨[], []⟩ ∧ b % 3 = 1 ∧ 0 ≤ b ∧
  ∀ (H' : Hp) (gts rts : List Addr) (N : NetD), Side A.C_Net H' p g r o og orr gts rts N → Keep (foot g r o og orr [] []) H H' → (∀ x ∈ foot g r o og orr gts rts, x ∈ foot g r o og orr [] [] ∨ H x = none) → Q (.int b) H'
theorem ok_l_filled (T : Txt K mg A) : DefOk P w K mg base CX0 5 A.l_filled ["_law_net", "_law_own", "_law_base"] (spFilled A) := by
  obtain ⟨_, G_l_name, B_l_name, K_l_name⟩ := ok_l_name (P := P) (w := w) (base := base) T
  obtain ⟨_, G_l_tried, B_l_tried, K_l_tried⟩ := ok_l_tried (P := P) (w := w) (base := base) T
  obtain ⟨_, G_l_done, B_l_done, K_l_done⟩ := ok_l_done (P := P) (w := w) (base := base) T
  obtain ⟨fd, F⟩ := T.F_l_filled
  refine ⟨fd, ?_, F.binds (ps := ["_law_net", "_law_own", "_law_base"]) fun _ _ _ _ _ _ us hl => match us, hl with | [_, _, _], _ => rfl, F.kp⟩
  refine F.ok sc_l_filled (fun vs H Q E h => ?_) (fun cdv A' outer s H vs Q E hr h => ?_)
  · obtain ⟨p, g, r, o, og, orr, b, rfl, _⟩ := h
    rfl
  · obtain ⟨p, g, r, o, og, orr, b, rfl, hS, hb3, hb0, q⟩ := h
    refine ⟨_, (pss_cons (ps_setLc (i := 3) (own := [("_law_k", 4)]) rfl sc_l_filled.nd rfl rfl (sw_true rfl rfl rfl (by decide +kernel)) (pi_range1 (by rfl) T.b_range (pa_cons (pe_op op_add pe_int (pe_op op_mod (pe_op op_fdiv (pv 2) pe_int) pe_int)) pa_nil)) (blkOk_by (own := [("_law_k", 4)]) (N := n_l_filled) (sc := defScope s_l_filled) (by decide +kernel)) (fun _ _ _ _ _ => (pg_name (i := 4) sc_l_filled.nd rfl (by first | exact Or.inl rfl | exact Or.inr rfl))) (fun _ _ _ _ _ => pts_nil) (fun _ _ _ _ _ => (pe_tup (pa_cons pe_str (pa_cons (pe_call G_l_name (hr.mono (by decide)) rfl T.m_l_name K_l_name B_l_name .nil pass0 (pa_cons (pv 2) (pa_cons (pv 4) pa_nil))) (pa_cons (pe_cmpR op_eq (pe_op op_mod (pv 4) pe_int) pe_int (nomark _)) pa_nil))))))
      (pss_cons (ps_for PassesOwn.never rfl (pi_range1 (by rfl) T.b_range (pa_cons (pe_op op_add pe_int (pe_op op_mod (pe_op op_fdiv (pv 2) pe_int) pe_int)) pa_nil)) (pg_name (i := 4) sc_l_filled.nd rfl (by first | exact Or.inl rfl | exact Or.inr rfl)) (pss_cons (ps_set (i := 5) sc_l_filled.nd rfl (by first | exact Or.inl rfl | exact Or.inr rfl) (pe_op op_add (pe_op op_add (pe_op op_mod (pv 4) pe_int) pe_int) (pe_callTy call_int1 (by rfl) T.b_int (by decide +kernel) (pa_cons (pe_cmpR op_eq (pe_op op_add (pe_op op_mod (pv 4) pe_int) pe_int) (pe_op op_mod (pv 4) pe_int) (nomark _)) pa_nil))))
      (pss_one (ps_expr (pe_bm PySem.F.plainAttrs_list PySem.F.slot_list_append PySem.F.type_list_append mt_append (pv 3) (pa_cons (pe_tup (pa_cons pe_str (pa_cons (pe_call G_l_name (hr.mono (by decide)) rfl T.m_l_name K_l_name B_l_name .nil pass0 (pa_cons (pv 2) (pa_cons (pe_op op_mod (pv 4) pe_int) pa_nil))) (pa_cons (pe_call G_l_name (hr.mono (by decide)) rfl T.m_l_name K_l_name B_l_name .nil pass0 (pa_cons (pv 2) (pa_cons (pv 5) pa_nil))) (pa_cons (pe_op op_add pe_int (pv 4)) (pa_cons (pv 4) pa_nil)))))) pa_nil))))))
      (pss_cons (ps_for PassesOwn.never rfl (pi_list (pv 3)) (pg_name (i := 6) sc_l_filled.nd rfl (by first | exact Or.inl rfl | exact Or.inr rfl)) (pss_cons (ps_expr (pe_call G_l_tried (hr.mono (by decide)) rfl T.m_l_tried K_l_tried B_l_tried .nil pass0 (pa_cons (pv 0) (pa_cons (pv 6) pa_nil))))
      (pss_one (ps_expr (pe_call G_l_done (hr.mono (by decide)) rfl T.m_l_done K_l_done B_l_done .nil pass0 (pa_cons (pv 1) (pa_cons (pv 6) pa_nil)))))))
      (pss_one (ps_ret (pv 2)))))), ?_⟩
    walk_at "go"
    obtain ⟨n, hn, hn55, hn60⟩ : ∃ n : Nat, (n : Int) = 55 + b / 7 % 5 ∧ 55 ≤ n ∧ n ≤ 60 := ⟨(55 + b / 7 % 5).toNat, by omega, by omega, by omega⟩
    obtain ⟨m, hm, hm190, hm200⟩ : ∃ m : Nat, (m : Int) = 190 + b / 35 % 10 ∧ 190 ≤ m ∧ m < 200 := ⟨(190 + b / 35 % 10).toNat, by omega, by omega, by omega⟩
    intro D hD
    have deeds_upd : ∀ {Ha : Hp} {L : Addr} {xs : List V} {o : HO} {us : List V} {ds : List Deed}, Ha L = some (.lst xs) → Paired (DeedV Ha) us ds → Paired (DeedV (upd Ha L o)) us ds := fun hL h => L2.Paired.mapP h fun _ _ ⟨t, e, ht⟩ => ⟨t, e, by rw [upd_ne (ne_of ht hL (by intro z; cases z))]; exact ht⟩
    have deeds_same : ∀ {Ha Hb : Hp} {us : List V} {ds : List Deed}, Same Ha Hb → Paired (DeedV Ha) us ds → Paired (DeedV Hb) us ds := fun s h => L2.Paired.mapP h fun _ _ z => z.same s
    refine lc_range (lo := 0) (n := _) (fun i H' => Same H H' ∧ ∃ vs, H' D = some (.lst vs) ∧ Paired (DeedV H') vs ((List.range i).map (fillDeed b n))) ⟨same_up hD, [], upd_same, .nil⟩ ?_ ?_
    · rintro i H1 hi ⟨s1, vs, hv, hP⟩
      have hin : i < n := by omega
      have hvl := paired_len hP
      rw [List.length_map, List.length_range] at hvl
      refine ⟨rfl, ?_⟩
      walk_at "go"
      intro H2 s2
      walk_at "go"
      rw [dec_int]
      refine ⟨(by show 3 ≤ sizeLine; decide), fun t ht => ?_⟩
      have s3 := same_new (s1.trans s2) ((s1.trans s2).free ht) (o := HO.tup [V.str "gate", V.str (nameOf b (0 + (i : Int))), V.bl (decide ((0 + (i : Int)) % 2 = 0))])
      have hv2 := upd_at (o := HO.tup [V.str "gate", V.str (nameOf b (0 + (i : Int))), V.bl (decide ((0 + (i : Int)) % 2 = 0))]) (ne_of_none (s2 _ _ hv) ht) (s2 _ _ hv)
      refine ⟨vs, hv2, Evl.sz_lt (by omega), same_new s3 hD, vs ++ [.ref t], upd_same, ?_⟩
      rw [List.range_succ, List.map_append]
      refine deeds_upd hv2 (Paired.snoc (deeds_same (s2.trans (same_up ht)) hP) ⟨t, rfl, ?_⟩)
      rw [upd_same, Int.zero_add]
      unfold fillDeed
      rw [if_pos hin]
      rfl
    rintro H1 ⟨s1, vs, hv, hP⟩
    rw [show ((55 : Int) + b / 7 % 5).toNat = n by omega] at hP
    dsimp only [gName, List.set]
    walk_at "go"
    refine for_range (lo := 0) (n := _) (fun i σ' H' => Same H H' ∧ ∃ vs v4 v5, σ' = [some (.ref p), some (.ref o), some (.int b), some (.ref D), v4, v5, none] ∧ H' D = some (.lst vs) ∧ Paired (DeedV H') vs ((List.range (n + i)).map (fillDeed b n))) ⟨s1, vs, none, none, rfl, hv, hP⟩ ?_ ?_
    · rintro i σ' H2 hi ⟨s2, vs, v4, v5, rfl, hv, hP⟩
      have him : i < m := by omega
      have hvl := paired_len hP
      rw [List.length_map, List.length_range] at hvl
      walk_at "go"
      rw [dec_int]
      walk_at "go"
      have ho : (0 + (i : Int)) % 49 + 1 + (if decide ((0 + (i : Int)) % 49 + 1 = (0 + (i : Int)) % 50) = true then 1 else 0) = otherF (i : Int) := by
        unfold otherF
        rw [Int.zero_add]
        simp only [decide_eq_true_eq]
      have hz : 0 ≤ (if decide ((0 + (i : Int)) % 49 + 1 = (0 + (i : Int)) % 50) = true then (1 : Int) else 0) ∧ (if decide ((0 + (i : Int)) % 49 + 1 = (0 + (i : Int)) % 50) = true then (1 : Int) else 0) ≤ 1 := by split <;> omega
      generalize (if decide ((0 + (i : Int)) % 49 + 1 = (0 + (i : Int)) % 50) = true then (1 : Int) else 0) = z at ho hz
      refine ⟨.inl ⟨rfl, _, SqL.of hv⟩, ?_⟩
      walk_at "go"
      intro H3 s3
      walk_at "go"
      intro H4 s4
      walk_at "go"
      refine ⟨(by show 5 ≤ sizeLine; decide), fun t ht => ?_⟩
      have s24 := s3.trans s4
      have s5 := same_new ((s2.trans s24)) ((s2.trans s24).free ht) (o := HO.tup [V.str "road", V.str (nameOf b ((0 + (i : Int)) % 50)), V.str (nameOf b ((0 + (i : Int)) % 49 + 1 + z)), V.int (1 + (0 + (i : Int))), V.int (0 + (i : Int))])
      have hv2 := upd_at (o := HO.tup [V.str "road", V.str (nameOf b ((0 + (i : Int)) % 50)), V.str (nameOf b ((0 + (i : Int)) % 49 + 1 + z)), V.int (1 + (0 + (i : Int))), V.int (0 + (i : Int))]) (ne_of_none (s24 _ _ hv) ht) (s24 _ _ hv)
      refine ⟨D, _, _, rfl, rfl, hv2, Evl.sz_lt (by omega), ?_⟩
      refine ⟨same_new s5 hD, vs ++ [.ref t], _, _, rfl, upd_same, ?_⟩
      rw [show n + (i + 1) = (n + i) + 1 by omega, List.range_succ, List.map_append]
      refine deeds_upd hv2 (Paired.snoc (deeds_same (s24.trans (same_up ht)) hP) ⟨t, rfl, ?_⟩)
      rw [upd_same, ho, Int.zero_add]
      unfold fillDeed
      rw [if_neg (by omega), show n + i - n = i by omega]
      rfl
    rintro σ' H2 ⟨s2, vs, v4, v5, rfl, hv, hP⟩
    rw [show ((190 : Int) + b / 35 % 10).toNat = m by omega] at hP
    have hvl := paired_len hP
    rw [List.length_map, List.length_range] at hvl
    have hS2 := hS.same s2
    have hf := hS2.there
    have hDf : D ∉ foot g r o og orr [] [] := fun z => hS.there D z hD
    walk_at "go"
    refine ⟨⟨_, SqL.of hv⟩, for_list (K := K) (a := D) (xs := vs) (fun i σ' H' => ∃ gts rts v6, σ' = [some (.ref p), some (.ref o), some (.int b), some (.ref D), v4, v5, v6] ∧ Side A.C_Net H' p g r o og orr gts rts (fillNet b n i) ∧ Keep (foot g r o og orr [] []) H2 H' ∧ ∀ x ∈ foot g r o og orr gts rts, x ∈ foot g r o og orr [] [] ∨ H2 x = none)
      ⟨[], [], none, rfl, ?_, Keep.of_same (Same.refl _), fun x hx => .inl hx⟩ (fun i σ' H' _ ⟨_, _, _, _, _, k, _⟩ => SqL.of (k D _ hv hDf)) ?_ ?_⟩
    · have e : fillNet b n 0 = ⟨[], []⟩ := by
        unfold fillNet
        rw [Nat.zero_min, Nat.zero_sub]
        rfl
      rw [e]
      exact hS2
    · rintro i x σ' H3 hi ⟨gts, rts, v6, rfl, hS3, k3, f3⟩
      have il : i < n + m := by rw [← hvl]; exact (List.getElem?_eq_some_iff.mp hi).1
      obtain ⟨d, hd, hdv⟩ := paired_getL hP hi
      have hdd : d = fillDeed b n i := by
        rw [List.getElem?_map, List.getElem?_range il] at hd
        exact (Option.some.inj hd).symm
      subst hdd
      have hdv3 := hdv.keep k3 hS2.noTup
      have hok := fill_ok (b := b) (n := n) (i := i) (by omega) (by omega)
      have hfr := fill_free hb3 hn55 hn60 (show i < n + 200 by omega)
      walk_at "go"
      refine ⟨p, g, r, _, x, _, rfl, hS3.net, hdv3, hok, fun c hc => (by rw [hfr] at hc; cases hc), fun _ H4 n4 k4 => ?_⟩
      have hg4 : ∀ a ∈ [g, r], ∀ xs, H3 a ≠ some (.tup xs) := fun a ha => hS3.noTup a (by unfold foot; simp at ha ⊢; rcases ha with e | e <;> simp [e])
      have hdv4 := hdv3.keep k4 hg4
      have o4 : OwnAt H4 o og orr gts rts (fillNet b n i) := hS3.own.keep k4 fun y hy m => by
        rcases List.mem_cons.mp hy with e | hy
        · subst e
          obtain ⟨xs, h⟩ := hS3.own.lists y m
          rw [hS3.net.gt] at h
          cases h
        · rw [List.mem_singleton] at hy
          subst hy
          exact hS3.ap m
      walk_at "go"
      refine ⟨o, og, orr, gts, rts, _, x, _, rfl, o4, hS3.net.l1, hS3.net.l2, hS3.net.nd, hdv4, hfr, fun H5 gts' rts' o5 k5 f5 => ?_⟩
      obtain ⟨hS5, k35, f35⟩ := hS3.deed hok n4 k4 o5 k5 f5
      rw [fill_done] at hS5
      have hth : ∀ y ∈ foot g r o og orr [] [], H3 y ≠ none := fun y hy => hS3.there y (by
        unfold foot at hy ⊢
        simp only [List.mem_cons, List.append_nil, List.not_mem_nil, or_false] at hy ⊢
        rcases hy with e | e | e | e | e <;> simp [e])
      exact ⟨gts', rts', _, rfl, hS5, k3.trans2 k35 f3, foot_fresh k3 hth f3 f35⟩
    · rintro σ' H3 ⟨gts, rts, v6, rfl, hS3, k3, f3⟩
      walk_at "go"
      refine q H3 gts rts _ hS3 ((Keep.of_same s2).trans k3) fun x hx => ?_
      rcases f3 x hx with h | h
      · exact .inl h
      · exact .inr (s2.free h)
end
end Toll

set_option Elab.async false
set_option maxRecDepth 100000
set_option maxHeartbeats 4000000
set_option linter.all false
namespace Toll
open PySem L2
local macro_rules | `(tactic| walk_at "go1") => `(tactic| first
  | refine ⟨_, rfl, ?_⟩
  | refine ⟨rfl, ?_⟩
  | refine ⟨_, _, rfl, rfl, ?_⟩
  | refine ⟨_, _, rfl, ?_⟩
  | (with_reducible refine' ⟨log_small ?k1 ?k2, ?_⟩; (case k1 => omega); (case k2 => omega))
  | (refine' ⟨?k1, ?_⟩; (case k1 => ((with_reducible show (_ : Int) < _); omega)))
  | (refine' ⟨⟨?k1, ?k2⟩, ?_⟩; (case k1 => omega); (case k2 => omega))
  | (refine' ⟨⟨?k1, ?k2, ?k3, ?k4⟩, ?_⟩; (case k1 => omega); (case k2 => omega); (case k3 => omega); (case k4 => omega))
  | (refine' ⟨.inl ⟨?k1, ?k2⟩, ?_⟩; (case k1 => omega); (case k2 => omega))
  | (refine' ⟨.inr ⟨?k1, ?k2⟩, ?_⟩; (case k1 => omega); (case k2 => omega))
  | (refine' ⟨Evl.sz_of ?k1, ?_⟩; (case k1 => omega))
  | (refine' ⟨?k1, ?_⟩; (case k1 => ((with_reducible show (_ : Int) ≤ _); omega)))
  | refine ⟨⟨_, rfl⟩, ?_⟩
  | refine .inl ⟨_, rfl, ?_⟩ | refine .inr ⟨_, rfl, ?_⟩
  | refine iteT ?_ | refine iteF ?_)
local macro_rules | `(tactic| walk_at "go") => `(tactic| repeat (walk_at "go1"))
local macro_rules | `(tactic| walk_at "ans") => `(tactic| (intro Q' q'; walk_at "go"; (try rw [dec_int]); (try rw [dec_str]); exact q'))
local macro_rules | `(tactic| walk_at "hp") => `(tactic| first | assumption | exact upd_same | (refine' up_same ?e ?h; (case e => assumption); (case h => walk_at "hp")) | (refine' upd_at ?n ?h; (case n => walk_at "ne"); (case h => walk_at "hp")))
local macro_rules | `(tactic| walk_at "ne") => `(tactic| first | assumption | (apply Ne.symm; assumption))
local macro_rules | `(tactic| walk_at "at") => `(tactic| first | exact atI_nat (j := 0) rfl | exact atI_nat (j := 1) rfl | exact atI_nat (j := 2) rfl | exact atI_nat (j := 3) rfl | exact atI_nat (j := 4) rfl)
local macro_rules | `(tactic| walk_at "step1") => `(tactic| first
  | walk_at "go1"
  | (apply ixL_step; (case h => walk_at "hp"); (case a => walk_at "at"))
  | (apply ixT_step; (case h => walk_at "hp"); (case a => walk_at "at"))
  | (apply lenL_step; (case h => walk_at "hp")))
local macro_rules | `(tactic| walk_at "step") => `(tactic| repeat (walk_at "step1"))
section
variable {P : Program} {w : World} {K : PySem.W.Frag} {mg : Str → Option Value} {base : Heap} {A : Ads}
def spWholeV : Sp := fun vs H Q _ => ∃ v : V, vs = [v] ∧ ((∃ i, v = .int i) ∧ Q (.bl true) H ∨ (v = .non ∨ ∃ a xs, v = .ref a ∧ H a = some (.lst xs)) ∧ Q (.bl false) H)
theorem ok_l_wholeV (T : Txt K mg A) : DefOk P w K mg base CX0 1 A.l_whole ["_law_found"] spWholeV := by
  obtain ⟨fd, F⟩ := T.F_l_whole
  refine ⟨fd, ?_, F.binds (ps := ["_law_found"]) fun _ _ _ _ _ _ us hl => match us, hl with | [_], _ => rfl, F.kp⟩
  refine F.ok sc_l_whole (fun vs H Q E h => ?_) (fun cdv A outer s H vs Q E hr h => ?_)
  · obtain ⟨v, rfl, _⟩ := h
    rfl
  · obtain ⟨v, rfl, h⟩ := h
    refine ⟨_, (pss_one (ps_ret (pe_and (pe_callB call_isi (by rfl) T.b_isinstance (by decide +kernel) (pa_cons (pv 0) (pa_cons (pe_bltn (v := .ty "int") (by rfl) T.b_int (by decide +kernel) rfl) pa_nil))) (pe_one (pe_not (pe_callB call_isi (by rfl) T.b_isinstance (by decide +kernel) (pa_cons (pv 0) (pa_cons (pe_bltn (v := .ty "bool") (by rfl) T.b_bool (by decide +kernel) rfl) pa_nil)))))))), ?_⟩
    walk_at "go"
    rcases h with ⟨⟨i, rfl⟩, q⟩ | ⟨rfl | ⟨a, xs, rfl, ha⟩, q⟩
    · refine ⟨_, _, _, _, true, rfl, ClsV.ty _, TyX.base (TyOf.int _), kit_ty (by decide +kernel), ?_⟩
      walk_at "go"
      refine ⟨_, _, _, _, false, rfl, ClsV.ty _, TyX.base (TyOf.int _), kit_ty (by decide +kernel), ?_⟩
      walk_at "go"
      exact q
    · refine ⟨_, _, _, _, false, rfl, ClsV.ty _, TyX.base TyOf.non, kit_ty (by decide +kernel), ?_⟩
      walk_at "go"
      exact q
    · refine ⟨_, _, _, _, false, rfl, ClsV.ty _, TyX.base (TyOf.lst ha), kit_ty (by decide +kernel), ?_⟩
      walk_at "go"
      exact q
def TriedPost (A : Ads) (H : Hp) (p g r : Addr) (N : NetD) (d : Deed) (y : V) (H' : Hp) : Prop := (∃ c L, refusal N d = some c ∧ y = .ref L ∧ Same H H' ∧ H L = none ∧ H' L = some (.lst [.str c])) ∨ (refusal N d = none ∧ y = doneV N d ∧ NetAt A.C_Net H' p g r (done N d) ∧ Keep [g, r] H H')
def spTried2 (A : Ads) : Sp := fun vs H Q _ => ∃ (p g r : Addr) (N : NetD) (v : V) (d : Deed), vs = [.ref p, v] ∧ NetAt A.C_Net H p g r N ∧ DeedV H v d ∧ d.ok ∧ ∀ y H', TriedPost A H p g r N d y H' → Q y H'
theorem ok_l_tried2 (T : Txt K mg A) : DefOk P w K mg base CX0 4 A.l_tried ["_law_net", "_law_deed"] (spTried2 A) := (ok_l_tried T).mono fun _ _ _ _ ⟨p, g, r, N, v, d, e, n, dv, ok, h⟩ =>
  ⟨p, g, r, N, v, d, e, n, dv, ok, fun c hc H' L s n e => h _ _ (.inl ⟨c, L, hc, rfl, s, n, e⟩), fun hn H' n k => h _ _ (.inr ⟨hn, rfl, n, k⟩)⟩
theorem alike_done (H : Hp) (N : NetD) (d : Deed) : Alike H (doneV N d) (doneV N d) := by
  cases d with
  | road one other mi tl => exact .inr (.inr ⟨_, rfl, rfl⟩)
  | gate nm b => exact .inr (.inl ⟨rfl, rfl⟩)
  | turn b nm => exact .inr (.inl ⟨rfl, rfl⟩)
  | lane b n => exact .inr (.inl ⟨rfl, rfl⟩)
def spLaw (K : PySem.W.Frag) : Sp := fun vs H Q _ => ∃ (a : Addr) (ns : List Int), vs = [.ref a] ∧ SqL K H a (ns.map V.int) ∧ ns.length ≤ 63 ∧ ∀ H', Q (.bl true) H'
theorem ok_law {f : Addr} {fd : FuncData} (F : Fun K "law" "law" s_law f fd) (T : Txt K mg A) : FnOk P w K mg base CX0 6 f fd ["_law_script"] (spLaw K) := by
  obtain ⟨_, G_N_init, B_N_init, K_N_init⟩ := ok_N_init (P := P) (w := w) (base := base) T
  obtain ⟨_, G_l_mixed, B_l_mixed, K_l_mixed⟩ := ok_l_mixed (P := P) (w := w) (base := base) T
  obtain ⟨_, G_l_cell_at, B_l_cell_at, K_l_cell_at⟩ := ok_l_cell_at (P := P) (w := w) (base := base) T
  obtain ⟨_, G_l_filled, B_l_filled, K_l_filled⟩ := ok_l_filled (P := P) (w := w) (base := base) T
  obtain ⟨_, G_l_net_deed, B_l_net_deed, K_l_net_deed⟩ := ok_l_net_deed (P := P) (w := w) (base := base) T
  obtain ⟨_, G_l_refusal, B_l_refusal, K_l_refusal⟩ := ok_l_refusal (P := P) (w := w) (base := base) T
  obtain ⟨_, G_l_tried, B_l_tried, K_l_tried⟩ := ok_l_tried2 (P := P) (w := w) (base := base) T
  obtain ⟨_, G_l_done, B_l_done, K_l_done⟩ := ok_l_done (P := P) (w := w) (base := base) T
  obtain ⟨_, G_l_whole, B_l_whole, K_l_whole⟩ := ok_l_wholeV (P := P) (w := w) (base := base) T
  obtain ⟨_, G_l_net_stands, B_l_net_stands, K_l_net_stands⟩ := ok_l_net_stands (P := P) (w := w) (base := base) T
  obtain ⟨_, G_l_kept_well, B_l_kept_well, K_l_kept_well⟩ := ok_l_kept_well (P := P) (w := w) (base := base) T
  refine F.ok sc_law (fun vs H Q E h => ?_) (fun cdv A' outer s H vs Q E hr h => ?_)
  · obtain ⟨a, ns, rfl, _⟩ := h
    rfl
  · obtain ⟨a, ns, rfl, hS, hl, q⟩ := h
    refine ⟨_, (pss_cons (ps_set (i := 1) sc_law.nd rfl (by first | exact Or.inl rfl | exact Or.inr rfl) (pe_lst (pa_cons (pe_make0 T.M_Net G_N_init (hr.mono (by decide)) rfl T.g_Net B_N_init .nil pass0) (pa_cons (pe_make0 T.M_Net G_N_init (hr.mono (by decide)) rfl T.g_Net B_N_init .nil pass0) pa_nil))))
      (pss_cons (ps_set (i := 2) sc_law.nd rfl (by first | exact Or.inl rfl | exact Or.inr rfl) (pe_lst (pa_cons (pe_lst (pa_cons (pe_lst pa_nil) (pa_cons (pe_lst pa_nil) pa_nil))) (pa_cons (pe_lst (pa_cons (pe_lst pa_nil) (pa_cons (pe_lst pa_nil) pa_nil))) pa_nil))))
      (pss_cons (ps_set (i := 3) sc_law.nd rfl (by first | exact Or.inl rfl | exact Or.inr rfl) (pe_call G_l_mixed (hr.mono (by decide)) rfl T.m_l_mixed K_l_mixed B_l_mixed .nil pass0 (pa_cons (pv 0) (pa_cons pe_int pa_nil))))
      (C8.pss_cut (ps_if (pt_cmpR op_eq (pe_op op_mod (pe_call G_l_cell_at (hr.mono (by decide)) rfl T.m_l_cell_at K_l_cell_at B_l_cell_at .nil pass0 (pa_cons (pv 0) (pa_cons pe_int pa_nil))) pe_int) pe_int (nomark _)) (pss_one (ps_set (i := 3) sc_law.nd rfl (by first | exact Or.inl rfl | exact Or.inr rfl) (pe_call G_l_filled (hr.mono (by decide)) rfl T.m_l_filled K_l_filled B_l_filled .nil pass0 (pa_cons (pe_ix (r := rIxL K) ix_list (pv 1) pe_int (fun _ _ => rfl)) (pa_cons (pe_ix (r := rIxL K) ix_list (pv 2) pe_int (fun _ _ => rfl)) (pa_cons (pe_op op_add (pe_op op_mul (pe_op op_fdiv (pv 3) pe_int) pe_int) pe_int) pa_nil)))))) pss_nil)
      (pss_cons (ps_set (i := 4) sc_law.nd rfl (by first | exact Or.inl rfl | exact Or.inr rfl) (pe_lst pa_nil))
      (pss_cons (ps_for PassesOwn.never rfl (pi_range1 (by rfl) T.b_range (pa_cons (pe_op op_fdiv (pe_callB call_len_seq (by rfl) T.b_len PySem.boot_len (pa_cons (pv 0) pa_nil)) pe_int) pa_nil)) (pg_name (i := 5) sc_law.nd rfl (by first | exact Or.inl rfl | exact Or.inr rfl)) (pss_cons (ps_set (i := 6) sc_law.nd rfl (by first | exact Or.inl rfl | exact Or.inr rfl) (pe_callTy call_int1 (by rfl) T.b_int (by decide +kernel) (pa_cons (pe_cmpR op_eq (pe_op op_mod (pe_op op_mod (pe_op op_mul (pe_ix (r := rIxL K) ix_list (pv 0) (pe_op op_mul pe_int (pv 5)) (fun _ _ => rfl)) pe_int) pe_int) pe_int) pe_int (nomark _)) pa_nil)))
      (pss_cons (ps_set (i := 7) sc_law.nd rfl (by first | exact Or.inl rfl | exact Or.inr rfl) (pe_call G_l_net_deed (hr.mono (by decide)) rfl T.m_l_net_deed K_l_net_deed B_l_net_deed .nil pass0 (pa_cons (pe_call G_l_mixed (hr.mono (by decide)) rfl T.m_l_mixed K_l_mixed B_l_mixed .nil pass0 (pa_cons (pv 0) (pa_cons (pe_op op_mul pe_int (pv 5)) pa_nil))) (pa_cons (pe_call G_l_mixed (hr.mono (by decide)) rfl T.m_l_mixed K_l_mixed B_l_mixed .nil pass0 (pa_cons (pv 0) (pa_cons (pe_op op_add (pe_op op_mul pe_int (pv 5)) pe_int) pa_nil))) (pa_cons (pv 3) (pa_cons (pe_ix (r := rIxL K) ix_list (pv 2) (pv 6) (fun _ _ => rfl)) pa_nil))))))
      (pss_cons (ps_set (i := 8) sc_law.nd rfl (by first | exact Or.inl rfl | exact Or.inr rfl) (pe_call G_l_refusal (hr.mono (by decide)) rfl T.m_l_refusal K_l_refusal B_l_refusal .nil pass0 (pa_cons (pe_ix (r := rIxL K) ix_list (pv 2) (pv 6) (fun _ _ => rfl)) (pa_cons (pv 7) pa_nil))))
      (pss_cons (ps_set (i := 9) sc_law.nd rfl (by first | exact Or.inl rfl | exact Or.inr rfl) (pe_call G_l_tried (hr.mono (by decide)) rfl T.m_l_tried K_l_tried B_l_tried .nil pass0 (pa_cons (pe_ix (r := rIxL K) ix_list (pv 1) (pv 6) (fun _ _ => rfl)) (pa_cons (pv 7) pa_nil))))
      (C8.pss_cut (ps_if (pt_cmpR (op_eqD hr.units) (pv 8) (pe_lst pa_nil) (nomark _)) (pss_one (ps_set (i := 8) sc_law.nd rfl (by first | exact Or.inl rfl | exact Or.inr rfl) (pe_call G_l_done (hr.mono (by decide)) rfl T.m_l_done K_l_done B_l_done .nil pass0 (pa_cons (pe_ix (r := rIxL K) ix_list (pv 2) (pv 6) (fun _ _ => rfl)) (pa_cons (pv 7) pa_nil))))) pss_nil)
      (pss_cons (ps_if (PW.pt (pw_or (pt_cmpR (op_neD hr.units) (pv 9) (pv 8) (nomark _)) (pw_or1 (PW.pt (pw_and (pt_val (pe_call G_l_whole (hr.mono (by decide)) rfl T.m_l_whole K_l_whole B_l_whole .nil pass0 (pa_cons (pv 8) pa_nil))) (pw_and1 (pt_not (pt_val (pe_call G_l_whole (hr.mono (by decide)) rfl T.m_l_whole K_l_whole B_l_whole .nil pass0 (pa_cons (pv 9) pa_nil)))))))))) (pss_one (ps_ret pe_bl)) pss_nil)
      (pss_one (ps_if (PW.pt (pw_and (pt_cmpR op_eq (pe_op op_mod (pv 5) pe_int) pe_int (nomark _)) (pw_and1 (pt_not (pt_val (pe_call G_l_net_stands (hr.mono (by decide)) rfl T.m_l_net_stands K_l_net_stands B_l_net_stands .nil pass0 (pa_cons (pe_ix (r := rIxL K) ix_list (pv 1) (pv 6) (fun _ _ => rfl)) (pa_cons (pe_ix (r := rIxL K) ix_list (pv 2) (pv 6) (fun _ _ => rfl)) (pa_cons (pv 4) pa_nil))))))))) (pss_one (ps_ret pe_bl)) pss_nil)))))))))
      (pss_cons (ps_if (PW.pt (pw_or (pt_not (pt_val (pe_call G_l_net_stands (hr.mono (by decide)) rfl T.m_l_net_stands K_l_net_stands B_l_net_stands .nil pass0 (pa_cons (pe_ix (r := rIxL K) ix_list (pv 1) pe_int (fun _ _ => rfl)) (pa_cons (pe_ix (r := rIxL K) ix_list (pv 2) pe_int (fun _ _ => rfl)) (pa_cons (pv 4) pa_nil)))))) (pw_or1 (pt_not (pt_val (pe_call G_l_net_stands (hr.mono (by decide)) rfl T.m_l_net_stands K_l_net_stands B_l_net_stands .nil pass0 (pa_cons (pe_ix (r := rIxL K) ix_list (pv 1) pe_int (fun _ _ => rfl)) (pa_cons (pe_ix (r := rIxL K) ix_list (pv 2) pe_int (fun _ _ => rfl)) (pa_cons (pv 4) pa_nil))))))))) (pss_one (ps_ret pe_bl)) pss_nil)
      (pss_one (ps_ret (pe_call G_l_kept_well (hr.mono (by decide)) rfl T.m_l_kept_well K_l_kept_well B_l_kept_well .nil pass0 (pa_cons (pv 4) pa_nil))))))))))), ?_⟩
    walk_at "go"
    intro p0 dx0 np0 nd0 ne0
    refine ⟨p0, dx0, rfl, upd_same, fun g0 r0 H1 ng0 nr0 hN0 k0 => ⟨rfl, ?_⟩⟩
    have sa : Same H (upd (upd H dx0 (.own p0)) p0 (.ins A.C_Net dx0 [])) := same_new (same_up nd0) np0
    have s1 : Same H H1 := same_keep sa k0 fun x hx => by rw [List.mem_singleton] at hx; rw [hx]; exact np0
    replace ng0 := sa.free ng0
    replace nr0 := sa.free nr0
    clear k0 sa
    walk_at "go"
    intro p1 dx1 np1 nd1 ne1
    refine ⟨p1, dx1, rfl, upd_same, fun g1 r1 H2 ng1 nr1 hN1 k1 => ⟨rfl, ?_⟩⟩
    have sb : Same H1 (upd (upd H1 dx1 (.own p1)) p1 (.ins A.C_Net dx1 [])) := same_new (same_up nd1) np1
    have s12 : Same H1 H2 := same_keep sb k1 fun x hx => by rw [List.mem_singleton] at hx; rw [hx]; exact np1
    replace ng1 := sb.free ng1
    replace nr1 := sb.free nr1
    have s2 := s1.trans s12
    obtain ⟨us0, hr0, _⟩ := hN0.rt
    have d1 : g0 ≠ g1 := ne_of_none hN0.gt ng1
    have d2 : g0 ≠ r1 := ne_of_none hN0.gt nr1
    have d3 : r0 ≠ g1 := ne_of_none hr0 ng1
    have d4 : r0 ≠ r1 := ne_of_none hr0 nr1
    clear hr0
    replace hN0 := hN0.same s12
    replace ng1 := s1.free ng1
    replace nr1 := s1.free nr1
    clear s1 s12 sb k1
    obtain ⟨us0, hr0, _⟩ := hN0.rt
    obtain ⟨us1, hr1, _⟩ := hN1.rt
    walk_at "go"
    refine ⟨(by show 2 ≤ sizeLine; decide), fun NW nNW => ?_⟩
    have s3 : Same H2 (upd H2 NW (.lst [.ref p0, .ref p1])) := same_up nNW
    have hNW : (upd H2 NW (.lst [.ref p0, .ref p1])) NW = some (.lst [.ref p0, .ref p1]) := upd_same
    generalize upd H2 NW (.lst [.ref p0, .ref p1]) = H3 at s3 hNW
    walk_at "go"
    refine ⟨Nat.zero_le _, fun a0 na0 => ?_⟩
    have s4 : Same H3 (upd H3 a0 (.lst [])) := same_up na0
    have ha0 : (upd H3 a0 (.lst [])) a0 = some (.lst []) := upd_same
    generalize upd H3 a0 (.lst []) = H4 at s4 ha0
    walk_at "go"
    refine ⟨Nat.zero_le _, fun b0 nb0 => ?_⟩
    have s5 : Same H4 (upd H4 b0 (.lst [])) := same_up nb0
    have hb0 : (upd H4 b0 (.lst [])) b0 = some (.lst []) := upd_same
    generalize upd H4 b0 (.lst []) = H5 at s5 hb0
    walk_at "go"
    refine ⟨(by show 2 ≤ sizeLine; decide), fun o0 no0 => ?_⟩
    have s6 : Same H5 (upd H5 o0 (.lst [.ref a0, .ref b0])) := same_up no0
    have ho0 : (upd H5 o0 (.lst [.ref a0, .ref b0])) o0 = some (.lst [.ref a0, .ref b0]) := upd_same
    generalize upd H5 o0 (.lst [.ref a0, .ref b0]) = H6 at s6 ho0
    walk_at "go"
    refine ⟨Nat.zero_le _, fun a1 na1 => ?_⟩
    have s7 : Same H6 (upd H6 a1 (.lst [])) := same_up na1
    have ha1 : (upd H6 a1 (.lst [])) a1 = some (.lst []) := upd_same
    generalize upd H6 a1 (.lst []) = H7 at s7 ha1
    walk_at "go"
    refine ⟨Nat.zero_le _, fun b1 nb1 => ?_⟩
    have s8 : Same H7 (upd H7 b1 (.lst [])) := same_up nb1
    have hb1 : (upd H7 b1 (.lst [])) b1 = some (.lst []) := upd_same
    generalize upd H7 b1 (.lst []) = H8 at s8 hb1
    walk_at "go"
    refine ⟨(by show 2 ≤ sizeLine; decide), fun o1 no1 => ?_⟩
    have s9 : Same H8 (upd H8 o1 (.lst [.ref a1, .ref b1])) := same_up no1
    have ho1 : (upd H8 o1 (.lst [.ref a1, .ref b1])) o1 = some (.lst [.ref a1, .ref b1]) := upd_same
    generalize upd H8 o1 (.lst [.ref a1, .ref b1]) = H9 at s9 ho1
    walk_at "go"
    refine ⟨(by show 2 ≤ sizeLine; decide), fun OW nOW => ?_⟩
    have s10 : Same H9 (upd H9 OW (.lst [.ref o0, .ref o1])) := same_up nOW
    have hOW : (upd H9 OW (.lst [.ref o0, .ref o1])) OW = some (.lst [.ref o0, .ref o1]) := upd_same
    generalize upd H9 OW (.lst [.ref o0, .ref o1]) = H10 at s10 hOW
    have t9 : Same H9 H10 := s10
    have t8 := s9.trans t9
    have t7 := s8.trans t8
    have t6 := s7.trans t7
    have t5 := s6.trans t6
    have t4 := s5.trans t5
    have t3 := s4.trans t4
    have t2 := s3.trans t3
    have sH := s2.trans t2
    -- all apart
    have x : ∀ {Ha Hb : Hp} {u v : Addr} {z : HO}, Same Ha Hb → Ha u = some z → Hb v = none → u ≠ v := fun s e n => ne_of_none (s _ _ e) n
    have S0 : Side A.C_Net H10 p0 g0 r0 o0 a0 b0 [] [] ⟨[], []⟩ := by
      refine ⟨hN0.same t2, ⟨t6 _ _ ho0, t4 _ _ ha0, t5 _ _ hb0, .nil, .nil, ?_⟩, ⟨by simp, by simp⟩, ?_⟩
      · have e1 := x s5 ha0 no0
        have e2 := x (Same.refl _) hb0 no0
        have e3 := x (Same.refl _) ha0 nb0
        simp [e1.symm, e2.symm, e3]
      · have e1 := x (s3.trans (s4.trans s5)) hr0 no0
        have e2 := x s3 hr0 na0
        have e3 := x (s3.trans s4) hr0 nb0
        simp [e1, e2, e3]
    have S1 : Side A.C_Net H10 p1 g1 r1 o1 a1 b1 [] [] ⟨[], []⟩ := by
      refine ⟨hN1.same t2, ⟨t9 _ _ ho1, t7 _ _ ha1, t8 _ _ hb1, .nil, .nil, ?_⟩, ⟨by simp, by simp⟩, ?_⟩
      · have e1 := x s8 ha1 no1
        have e2 := x (Same.refl _) hb1 no1
        have e3 := x (Same.refl _) ha1 nb1
        simp [e1.symm, e2.symm, e3]
      · have e1 := x (s3.trans (s4.trans (s5.trans (s6.trans (s7.trans s8))))) hr1 no1
        have e2 := x (s3.trans (s4.trans (s5.trans s6))) hr1 na1
        have e3 := x (s3.trans (s4.trans (s5.trans (s6.trans s7)))) hr1 nb1
        simp [e1, e2, e3]
    have u3 := s2.trans s3
    have u4 := u3.trans s4
    have u5 := u4.trans s5
    have u6 := u5.trans s6
    have u7 := u6.trans s7
    have u8 := u7.trans s8
    have fr0 : ∀ y ∈ foot g0 r0 o0 a0 b0 [] [], H y = none := by
      unfold foot
      simp only [List.mem_cons, List.append_nil, List.not_mem_nil, or_false]
      rintro y (e | e | e | e | e) <;> rw [e]
      · exact ng0
      · exact nr0
      · exact u5.free no0
      · exact u3.free na0
      · exact u4.free nb0
    have fr1 : ∀ y ∈ foot g1 r1 o1 a1 b1 [] [], H y = none := by
      unfold foot
      simp only [List.mem_cons, List.append_nil, List.not_mem_nil, or_false]
      rintro y (e | e | e | e | e) <;> rw [e]
      · exact ng1
      · exact nr1
      · exact u8.free no1
      · exact u6.free na1
      · exact u7.free nb1
    have hNW10 := t3 _ _ hNW
    have hdis : ∀ y ∈ foot g0 r0 o0 a0 b0 [] [], y ∉ foot g1 r1 o1 a1 b1 [] [] := by
      unfold foot
      simp only [List.mem_cons, List.append_nil, List.not_mem_nil, or_false, not_or]
      have f6 := s3.trans (s4.trans (s5.trans s6))
      have f7 := f6.trans s7
      have f8 := f7.trans s8
      have c3 := s3
      have c4 := s3.trans s4
      have c5 := c4.trans s5
      have k4 := s5.trans s6
      have k5 := s6
      rintro y (e | e | e | e | e) <;> rw [e]
      · exact ⟨d1, d2, x f8 hN0.gt no1, x f6 hN0.gt na1, x f7 hN0.gt nb1⟩
      · exact ⟨d3, d4, x f8 hr0 no1, x f6 hr0 na1, x f7 hr0 nb1⟩
      · exact ⟨(x c5 hN1.gt no0).symm, (x c5 hr1 no0).symm, x (s7.trans s8) ho0 no1, x (Same.refl _) ho0 na1, x s7 ho0 nb1⟩
      · exact ⟨(x c3 hN1.gt na0).symm, (x c3 hr1 na0).symm, x (s5.trans (s6.trans (s7.trans s8))) ha0 no1, x (s5.trans s6) ha0 na1, x (s5.trans (s6.trans s7)) ha0 nb1⟩
      · exact ⟨(x c4 hN1.gt nb0).symm, (x c4 hr1 nb0).symm, x (s6.trans (s7.trans s8)) hb0 no1, x s6 hb0 na1, x (s6.trans s7) hb0 nb1⟩
    have hW0 : NW ∉ foot g0 r0 o0 a0 b0 [] [] ∧ NW ∉ foot g1 r1 o1 a1 b1 [] [] ∧ OW ∉ foot g0 r0 o0 a0 b0 [] [] ∧ OW ∉ foot g1 r1 o1 a1 b1 [] [] := by
      have n9 : ∀ y, H9 y ≠ none → OW ≠ y := fun y hy z => hy (by rw [← z]; exact nOW)
      unfold foot
      simp only [List.mem_cons, List.append_nil, List.not_mem_nil, or_false, not_or]
      refine ⟨⟨(x (Same.refl _) hN0.gt nNW).symm, (x (Same.refl _) hr0 nNW).symm, x (s4.trans s5) hNW no0, x (Same.refl _) hNW na0, x s4 hNW nb0⟩, ⟨(x (Same.refl _) hN1.gt nNW).symm, (x (Same.refl _) hr1 nNW).symm, x (s4.trans (s5.trans (s6.trans (s7.trans s8)))) hNW no1, x (s4.trans (s5.trans s6)) hNW na1, x (s4.trans (s5.trans (s6.trans s7))) hNW nb1⟩, ⟨?_, ?_, ?_, ?_, ?_⟩, ⟨?_, ?_, ?_, ?_, ?_⟩⟩
      · exact n9 _ (by rw [(s3.trans (s4.trans (s5.trans (s6.trans (s7.trans (s8.trans s9)))))) _ _ hN0.gt]; simp)
      · exact n9 _ (by rw [(s3.trans (s4.trans (s5.trans (s6.trans (s7.trans (s8.trans s9)))))) _ _ hr0]; simp)
      · exact n9 _ (by rw [(s7.trans (s8.trans s9)) _ _ ho0]; simp)
      · exact n9 _ (by rw [(s5.trans (s6.trans (s7.trans (s8.trans s9)))) _ _ ha0]; simp)
      · exact n9 _ (by rw [(s6.trans (s7.trans (s8.trans s9))) _ _ hb0]; simp)
      · exact n9 _ (by rw [(s3.trans (s4.trans (s5.trans (s6.trans (s7.trans (s8.trans s9)))))) _ _ hN1.gt]; simp)
      · exact n9 _ (by rw [(s3.trans (s4.trans (s5.trans (s6.trans (s7.trans (s8.trans s9)))))) _ _ hr1]; simp)
      · exact n9 _ (by rw [ho1]; simp)
      · exact n9 _ (by rw [(s8.trans s9) _ _ ha1]; simp)
      · exact n9 _ (by rw [s9 _ _ hb1]; simp)
    clear s2 s3 s4 s5 s6 s7 s8 s9 s10 t2 t3 t4 t5 t6 t7 t8 t9 u3 u4 u5 u6 u7 u8 x ha0 hb0 ho0 ha1 hb1 ho1 hNW hr0 hr1 hN0 hN1 d1 d2 d3 d4
    clear na0 nb0 no0 na1 nb1 no1 ng0 nr0 ng1 nr1 nNW nOW
    walk_at "go"
    refine ⟨a, ns, 3, rfl, sH.seq hS, by decide, by decide, ?_⟩
    have b0' := mixed_pos ns 3
    generalize mixed ns 3 = bs at b0'
    dsimp only [gName, List.set]
    refine ⟨fun σ' H' => ∃ (b : Int) (gts rts : List Addr) (N : NetD), σ' = [some (.ref a), some (.ref NW), some (.ref OW), some (.int b), none, none, none, none, none, none] ∧ 0 ≤ b ∧ Side A.C_Net H' p0 g0 r0 o0 a0 b0 gts rts N ∧
      Keep (foot g0 r0 o0 a0 b0 [] []) H10 H' ∧ ∀ x ∈ foot g0 r0 o0 a0 b0 gts rts, x ∈ foot g0 r0 o0 a0 b0 [] [] ∨ H10 x = none, ?_, ?_⟩
    · walk_at "go"
      refine ⟨a, ns, 0, rfl, sH.seq hS, by decide, ?_⟩
      walk_at "go"
      refine ite2 (fun h => ?_) (fun h => ?_)
      · walk_at "step"
        refine ⟨p0, g0, r0, o0, a0, b0, _, rfl, S0, by omega, by omega, fun H11 gts rts N S11 k11 f11 => ?_⟩
        exact ⟨_, gts, rts, N, rfl, by omega, S11, k11, f11⟩
      · exact ⟨bs, [], [], _, rfl, b0'.1, S0, Keep.of_same (Same.refl _), fun x hx => .inl hx⟩
    rintro σ' H11 ⟨b, gts, rts, N, rfl, hb, S11, k11, f11⟩
    walk_at "go"
    refine ⟨Nat.zero_le _, fun k nk => ?_⟩
    have T0 : Two A.C_Net H [NW, OW] (upd H11 k (.lst [])) k [] ⟨p0, g0, r0, o0, a0, b0, gts, rts, N⟩ ⟨p1, g1, r1, o1, a1, b1, [], [], ⟨[], []⟩⟩ := Two.mk0 sH fr0 fr1 hdis (fun y hy => by
      simp only [List.mem_cons, List.not_mem_nil, or_false] at hy
      rcases hy with e | e <;> subst e
      · exact ⟨hW0.1, hW0.2.1, by rw [hNW10]; simp⟩
      · exact ⟨hW0.2.2.1, hW0.2.2.2, by rw [hOW]; simp⟩) S0 S1 S11 k11 f11 nk
    have hNW := (same_up (o := HO.lst []) nk) _ _ (k11 _ _ hNW10 hW0.1)
    have hOW2 := (same_up (o := HO.lst []) nk) _ _ (k11 _ _ hOW hW0.2.2.1)
    generalize upd H11 k (.lst []) = H12 at T0 hNW hOW2
    clear S0 S1 S11 k11 f11 nk hdis fr0 fr1 hW0 hNW10 hOW sH
    dsimp only [gName, List.set]
    walk_at "go"
    refine ⟨a, _, rfl, .inl (T0.sm.seq hS), ?_⟩
    rw [List.length_map]
    walk_at "go"
    refine for_range (lo := 0) (n := _) (fun i σ' H' => ∃ (ps : List V) (u v : SD) (w5 w6 w7 w8 w9 : Option V), σ' = [some (.ref a), some (.ref NW), some (.ref OW), some (.int b), some (.ref k), w5, w6, w7, w8, w9] ∧
      Two A.C_Net H [NW, OW] H' k ps u v ∧ u.p = p0 ∧ u.o = o0 ∧ v.p = p1 ∧ v.o = o1 ∧ ps.length ≤ 70 * i ∧ H' NW = some (.lst [.ref p0, .ref p1]) ∧ H' OW = some (.lst [.ref o0, .ref o1]))
      ⟨[], _, _, none, none, none, none, none, rfl, T0, rfl, rfl, rfl, rfl, Nat.zero_le _, hNW, hOW2⟩ ?_ ?_
    · rintro i σ' H' hi ⟨ps, u, v, w5, w6, w7, w8, w9, rfl, T1, up, uo, vp, vo, hpl, hNW, hOW⟩
      have hi31 : i < 32 := by omega
      have hSi := T1.sm.seq hS
      walk_at "go"
      refine ⟨a, _, _, _, rfl, rfl, hSi, atI_of (j := 2 * i) (by omega) (map_int_get (by omega)), ?_⟩
      generalize ns.getD (2 * i) 0 = z0
      walk_at "go"
      rw [dec_int]
      walk_at "go"
      generalize decide (z0 * 48271 % 10103 % 4 = 0) = at1
      have key : ∃ c d : SD, Two A.C_Net H [NW, OW] H' k ps c d ∧ atI [V.ref p0, V.ref p1] (if at1 = true then 1 else 0) = some (.ref c.p) ∧ atI [V.ref o0, V.ref o1] (if at1 = true then 1 else 0) = some (.ref c.o) ∧
          ∀ H2 ps2 c2, Two A.C_Net H [NW, OW] H2 k ps2 c2 d → c2.p = c.p → c2.o = c.o → ∃ u2 v2, Two A.C_Net H [NW, OW] H2 k ps2 u2 v2 ∧ u2.p = p0 ∧ u2.o = o0 ∧ v2.p = p1 ∧ v2.o = o1 := by
        cases at1 with
        | true => exact ⟨v, u, T1.swap, by rw [vp]; exact atI_nat (j := 1) rfl, by rw [vo]; exact atI_nat (j := 1) rfl, fun H2 ps2 c2 T2 e1 e2 => ⟨u, c2, T2.swap, up, uo, by rw [e1, vp], by rw [e2, vo]⟩⟩
        | false => exact ⟨u, v, T1, by rw [up]; exact atI_nat (j := 0) rfl, by rw [uo]; exact atI_nat (j := 0) rfl, fun H2 ps2 c2 T2 e1 e2 => ⟨c2, v, T2, by rw [e1, up], by rw [e2, uo], vp, vo⟩⟩
      obtain ⟨c, d, T2, iN, iO, back⟩ := key
      generalize (if at1 = true then (1 : Int) else 0) = at2 at iN iO
      clear T1 up uo vp vo
      walk_at "step"
      refine ⟨a, ns, _, rfl, hSi, by omega, by omega, ?_⟩
      have m1 := mixed_pos ns (2 * (0 + (i : Int)))
      generalize mixed ns (2 * (0 + (i : Int))) = n1 at m1
      walk_at "step"
      refine ⟨a, ns, _, rfl, hSi, by omega, by omega, ?_⟩
      have m2 := mixed_pos ns (2 * (0 + (i : Int)) + 1)
      generalize mixed ns (2 * (0 + (i : Int)) + 1) = n2 at m2
      walk_at "step"
      refine ⟨OW, _, _, _, rfl, rfl, SqL.of hOW, iO, ?_⟩
      walk_at "step"
      have gl := T2.s1.net.l1
      have rl := T2.s1.net.l2
      refine ⟨_, _, _, _, _, _, _, _, _, rfl, T2.s1.own, gl, rl, m1.1, m2.1, hb, fun H3 dv dd s3 hdv hok => ?_⟩
      have T3 := T2.same s3
      replace hNW := s3 _ _ hNW
      replace hOW := s3 _ _ hOW
      walk_at "step"
      refine ⟨OW, _, _, _, rfl, rfl, SqL.of hOW, iO, ?_⟩
      walk_at "step"
      refine ⟨_, _, _, _, _, _, _, dd, rfl, T3.s1.own, gl, rl, hdv, fun H4 L4 s4 n4 h4 => ?_⟩
      have T4 := T3.same s4
      replace hNW := s4 _ _ hNW
      replace hOW := s4 _ _ hOW
      have hdv4 := hdv.same s4
      walk_at "step"
      refine ⟨NW, _, _, _, rfl, rfl, SqL.of hNW, iN, ?_⟩
      walk_at "step"
      refine ⟨_, _, _, _, dv, dd, rfl, T4.s1.net, hdv4, hok, fun y9 H5 hy => ?_⟩
      dsimp only [gName, List.set]
      refine ⟨fun σ' H6 => ∃ (c5 : SD) (y8 : V), σ' = [some (.ref a), some (.ref NW), some (.ref OW), some (.int b), some (.ref k), some (.int (0 + (i : Int))), some (.int at2), some dv, some y8, some y9] ∧ Two A.C_Net H [NW, OW] H6 k ps c5 d ∧ c5.p = c.p ∧ c5.o = c.o ∧ Alike H6 y8 y9 ∧
          H6 NW = some (.lst [.ref p0, .ref p1]) ∧ H6 OW = some (.lst [.ref o0, .ref o1]), ?_, ?_⟩
      · skip
        --{
        rcases hy with ⟨cl, M5, hcl, rfl, s5, n5, h5⟩ | ⟨hno, rfl, N5, k5⟩
        · rw [hcl] at h4
          have h45 := s5 _ _ h4
          have okc := refusal_ok hcl
          refine doS_if1 false ?_ (fun z => by cases z) fun _ H6 s6 => ?_
          · intro Q' q'
            walk_at "step"
            refine ⟨Nat.zero_le _, fun E6 hE6 => ?_⟩
            have hL6 := (same_up (o := HO.lst []) hE6) _ _ h45
            have ok2 : okD 2 (.list [.str cl]) := ⟨(okD_list (k := 0) (ds := [.str cl]) fun x hx => by rw [List.mem_singleton] at hx; rw [hx]; exact okD_str okc).1, by have := (okD_list (k := 0) (ds := [.str cl]) fun x hx => by rw [List.mem_singleton] at hx; rw [hx]; exact okD_str okc).2; omega⟩
            refine ⟨_, _, Dp.lst (SqL.of hL6) (.cons (.str _) .nil), Dp.lst (SqL.of upd_same) .nil, ok2.shaped (by decide), (intsD_ok []).shaped (by decide), ?_⟩
            have e : PyData.eqv (.list [.str cl]) (.list []) = false := by simp [PyData.eqv, PyData.eqvAll]
            rw [e]
            exact ⟨_, rfl, q' _ (same_up hE6)⟩
          · have s46 := s5.trans s6
            exact ⟨c, V.ref L4, rfl, T4.same s46, rfl, rfl, .inl ⟨L4, M5, cl, rfl, rfl, s6 _ _ h45, s6 _ _ h5, okc⟩, s46 _ _ hNW, s46 _ _ hOW⟩
        · rw [hno] at h4
          have hgr : ∀ x ∈ [c.g, c.r], x ∈ c.foot := fun x hx => by
            simp only [List.mem_cons, List.not_mem_nil, or_false] at hx
            unfold SD.foot foot
            rcases hx with e | e <;> simp [e]
          have hin : ∀ x ∈ [c.g, c.r], x ∈ k :: (c.foot ++ d.foot) := fun x hx => by simp [hgr x hx]
          have hL4 : L4 ∉ [c.g, c.r] := fun m => Side.there T3.s1 L4 (hgr _ m) n4
          have h45 := k5 _ _ h4 hL4
          have nw5 := T4.watch k5 hin (by simp) hNW
          have ow5 := T4.watch k5 hin (by simp) hOW
          have o5 : OwnAt H5 c.o c.og c.orr c.gts c.rts c.N := T4.s1.own.keep k5 fun y hy m => by
            rcases List.mem_cons.mp hy with e | hy
            · subst e
              obtain ⟨xs, h⟩ := T4.s1.own.lists _ m
              rw [T4.s1.net.gt] at h
              cases h
            · rw [List.mem_singleton] at hy
              subst hy
              exact T4.s1.ap m
          have dv5 := hdv4.keep k5 fun y hy xs e => by
            obtain ⟨z, hz, n, _⟩ := Side.known T4.s1 y (hgr y hy)
            rw [e] at hz
            exact n xs (Option.some.inj hz).symm
          refine doS_if1 true ?_ (fun _ H6 s6 => ?_) fun z => by cases z
          · intro Q' q'
            walk_at "step"
            refine ⟨Nat.zero_le _, fun E6 hE6 => ?_⟩
            have hL6 := (same_up (o := HO.lst []) hE6) _ _ h45
            refine ⟨_, _, Dp.lst (SqL.of hL6) .nil, Dp.lst (SqL.of upd_same) .nil, (intsD_ok []).shaped (by decide), (intsD_ok []).shaped (by decide), ?_⟩
            rw [show PyData.eqv (.list []) (.list []) = true from (intsD_ok []).refl]
            exact ⟨_, rfl, q' _ (same_up hE6)⟩
          · replace nw5 := s6 _ _ nw5
            replace ow5 := s6 _ _ ow5
            walk_at "step"
            refine ⟨OW, _, _, _, rfl, rfl, SqL.of ow5, iO, ?_⟩
            walk_at "step"
            refine ⟨_, _, _, _, _, _, _, dd, rfl, o5.same s6, gl, rl, T4.s1.net.nd, dv5.same s6, hno, fun H7 gts' rts' o7 k7 f7 => ?_⟩
            obtain ⟨S7, k47, f47⟩ := Side.deed T4.s1 hok (N5.same s6) (k5.trans (Keep.of_same s6)) o7 k7 f7
            have hfo : ∀ x ∈ c.foot, x ∈ k :: (c.foot ++ d.foot) := fun x hx => by simp [hx]
            exact ⟨⟨c.p, c.g, c.r, c.o, c.og, c.orr, gts', rts', done c.N dd⟩, doneV c.N dd, rfl, T4.deed S7 k47 f47, rfl, rfl, alike_done _ _ _, T4.watch k47 hfo (by simp) hNW, T4.watch k47 hfo (by simp) hOW⟩
        --}
      rintro σ' H6 ⟨c5, y8, rfl, T5, e1, e2, hal, hNW, hOW⟩
      rw [← e1] at iN
      rw [← e2] at iO
      refine seq_if1 false (an_or (a := false) (b := false) ?_ fun _ => ?_) (fun z => by cases z) (fun _ => ?_)
      · intro Q' q'
        --{
        obtain ⟨dt, q8, q9, ok⟩ := Alike.dp (K := K) hal
        walk_at "step"
        refine ⟨dt, dt, q9, q8, ok.shaped (by decide), ok.shaped (by decide), ?_⟩
        rw [ok.refl]
        exact ⟨_, rfl, q'⟩
        --}
      · intro Q' q'
        --{
        rcases hal with ⟨L, M, cs, rfl, rfl, h1, h2, _⟩ | ⟨rfl, rfl⟩ | ⟨z, rfl, rfl⟩
        · walk_at "step"
          refine .inr ⟨.inr ⟨_, _, rfl, h1⟩, ?_⟩
          walk_at "step"
          exact q'
        · walk_at "step"
          refine .inr ⟨.inl rfl, ?_⟩
          walk_at "step"
          exact q'
        · walk_at "step"
          refine .inl ⟨⟨_, rfl⟩, ?_⟩
          walk_at "step"
          refine .inl ⟨⟨_, rfl⟩, ?_⟩
          walk_at "step"
          exact q'
        --}
      have hko : k ∉ c5.o :: c5.og :: c5.orr :: (c5.gts ++ c5.rts) := fun m => T5.ks (List.mem_cons_of_mem _ (List.mem_cons_of_mem _ m))
      have hkr : k ≠ c5.r := fun z => T5.ks (by unfold SD.foot foot; simp [z])
      walk_at "step"
      refine ite2 (fun _ => ?_) (fun _ => ?_)
      · walk_at "step"
        refine ⟨NW, _, _, _, rfl, rfl, SqL.of hNW, iN, ?_⟩
        walk_at "step"
        refine ⟨OW, _, _, _, rfl, rfl, SqL.of hOW, iO, ?_⟩
        walk_at "step"
        refine ⟨_, _, _, _, _, _, k, _, _, _, ps, rfl, T5.s1.net, T5.s1.own, T5.s1.nm, T5.kl, by omega, hkr, hko, fun H7 news kp hk7 hlen hnew => ?_⟩
        have T7 := T5.told kp hk7 hnew
        have hkm : ∀ x ∈ [k], x ∈ k :: (c5.foot ++ d.foot) := fun x hx => by
          rw [List.mem_singleton] at hx
          simp [hx]
        obtain ⟨u2, v2, T8, q1, q2, q3, q4⟩ := back _ _ _ T7 e1 e2
        walk_at "step"
        exact ⟨_, u2, v2, _, _, _, _, _, rfl, T8, q1, q2, q3, q4, by rw [List.length_append]; omega, T5.watch kp hkm (by simp) hNW, T5.watch kp hkm (by simp) hOW⟩
      · obtain ⟨u2, v2, T8, q1, q2, q3, q4⟩ := back _ _ _ T5 e1 e2
        walk_at "step"
        exact ⟨_, u2, v2, _, _, _, _, _, rfl, T8, q1, q2, q3, q4, by omega, hNW, hOW⟩
    rintro σ' H' ⟨ps, u, v, w5, w6, w7, w8, w9, rfl, T1, up, uo, vp, vo, hpl, hNW, hOW⟩
    --{
    have hpl : ps.length ≤ 2300 := by omega
    have hko : k ∉ u.o :: u.og :: u.orr :: (u.gts ++ u.rts) := fun m => T1.ks (List.mem_cons_of_mem _ (List.mem_cons_of_mem _ m))
    have hkr : k ≠ u.r := fun z => T1.ks (by unfold SD.foot foot; simp [z])
    have hko2 : k ∉ v.o :: v.og :: v.orr :: (v.gts ++ v.rts) := fun m => T1.kt (List.mem_cons_of_mem _ (List.mem_cons_of_mem _ m))
    have hkr2 : k ≠ v.r := fun z => T1.kt (by unfold SD.foot foot; simp [z])
    rw [← up, ← vp] at hNW
    rw [← uo, ← vo] at hOW
    walk_at "step"
    refine ⟨_, _, _, _, _, _, k, _, _, _, ps, rfl, T1.s1.net, T1.s1.own, T1.s1.nm, T1.kl, by omega, hkr, hko, fun H7 news kp hk7 hlen hnew => ?_⟩
    have T7 := T1.told kp hk7 hnew
    have hkm : ∀ x ∈ [k], x ∈ k :: (u.foot ++ v.foot) := fun x hx => by
      rw [List.mem_singleton] at hx
      simp [hx]
    replace hNW := T1.watch kp hkm (by simp) hNW
    replace hOW := T1.watch kp hkm (by simp) hOW
    walk_at "step"
    refine ⟨_, _, _, _, _, _, k, _, _, _, _, rfl, T7.t1.net, T7.t1.own, T7.t1.nm, T7.kl, by rw [List.length_append]; omega, hkr2, hko2, fun H8 news2 kp2 hk8 hlen2 hnew2 => ?_⟩
    have T8 := T7.told kp2 hk8 hnew2
    walk_at "step"
    exact ⟨k, _, rfl, SqL.of T8.kl, T8.kf.pairs, q _⟩
    --}
end
end Toll

set_option Elab.async false
set_option maxRecDepth 100000
set_option maxHeartbeats 4000000
namespace Toll
open PySem L2
theorem all_mk {l : PySem.W.OpenLaw} {w : World} {K : PySem.W.Frag} {h : Heap} {mg : Str → Option Value} {fa o_Net o_NoName o_SameGate o_FullNet o_NoGate o_NoNumber o_NoRoad o_Already f_is_name f_N_init f_N_gate f_N_road f_N_blind f_N_mend f_N_close f_N_reopen f_N_gates f_N_roads f_N_leaving f_N_need_gate f_N__turn_gate f_N__turn_road f_l_cell_at f_l_whole f_l_mixed f_l_name f_l_some_number f_l_net_deed f_l_refusal f_l_done f_l_tried f_l_net_stands f_l_kept_well f_l_filled f_law : Addr} (X : K.In h) (G : h.Ns mainGlobals mg) (hfa : mg "law" = some (.ref fa))
    {od_is_name an_is_name od_N_init an_N_init od_N_gate an_N_gate od_N_road an_N_road od_N_blind an_N_blind od_N_mend an_N_mend od_N_close an_N_close od_N_reopen an_N_reopen od_N_gates an_N_gates od_N_roads an_N_roads od_N_leaving an_N_leaving od_N_need_gate an_N_need_gate od_N__turn_gate an_N__turn_gate od_N__turn_road an_N__turn_road od_l_cell_at an_l_cell_at od_l_whole an_l_whole od_l_mixed an_l_mixed od_l_name an_l_name od_l_some_number an_l_some_number od_l_net_deed an_l_net_deed od_l_refusal an_l_refusal od_l_done an_l_done od_l_tried an_l_tried od_l_net_stands an_l_net_stands od_l_kept_well an_l_kept_well od_l_filled an_l_filled od_law an_law : Option Addr} {sl_is_name sl_N_init sl_N_gate sl_N_road sl_N_blind sl_N_mend sl_N_close sl_N_reopen sl_N_gates sl_N_roads sl_N_leaving sl_N_need_gate sl_N__turn_gate sl_N__turn_road sl_l_cell_at sl_l_whole sl_l_mixed sl_l_name sl_l_some_number sl_l_net_deed sl_l_refusal sl_l_done sl_l_tried sl_l_net_stands sl_l_kept_well sl_l_filled sl_law : Array (Option Value)} {oc_is_name kV_is_name dc_is_name pm_is_name cd_is_name ct_is_name oc_N_init kV_N_init dc_N_init pm_N_init cd_N_init ct_N_init oc_N_gate kV_N_gate dc_N_gate pm_N_gate cd_N_gate ct_N_gate oc_N_road kV_N_road dc_N_road pm_N_road cd_N_road ct_N_road oc_N_blind kV_N_blind dc_N_blind pm_N_blind cd_N_blind ct_N_blind oc_N_mend kV_N_mend dc_N_mend pm_N_mend cd_N_mend ct_N_mend oc_N_close kV_N_close dc_N_close pm_N_close cd_N_close ct_N_close oc_N_reopen kV_N_reopen dc_N_reopen pm_N_reopen cd_N_reopen ct_N_reopen oc_N_gates kV_N_gates dc_N_gates pm_N_gates cd_N_gates ct_N_gates oc_N_roads kV_N_roads dc_N_roads pm_N_roads cd_N_roads ct_N_roads oc_N_leaving kV_N_leaving dc_N_leaving pm_N_leaving cd_N_leaving ct_N_leaving oc_N_need_gate kV_N_need_gate dc_N_need_gate pm_N_need_gate cd_N_need_gate ct_N_need_gate oc_N__turn_gate kV_N__turn_gate dc_N__turn_gate pm_N__turn_gate cd_N__turn_gate ct_N__turn_gate oc_N__turn_road kV_N__turn_road dc_N__turn_road pm_N__turn_road cd_N__turn_road ct_N__turn_road oc_l_cell_at kV_l_cell_at dc_l_cell_at pm_l_cell_at cd_l_cell_at ct_l_cell_at oc_l_whole kV_l_whole dc_l_whole pm_l_whole cd_l_whole ct_l_whole oc_l_mixed kV_l_mixed dc_l_mixed pm_l_mixed cd_l_mixed ct_l_mixed oc_l_name kV_l_name dc_l_name pm_l_name cd_l_name ct_l_name oc_l_some_number kV_l_some_number dc_l_some_number pm_l_some_number cd_l_some_number ct_l_some_number oc_l_net_deed kV_l_net_deed dc_l_net_deed pm_l_net_deed cd_l_net_deed ct_l_net_deed oc_l_refusal kV_l_refusal dc_l_refusal pm_l_refusal cd_l_refusal ct_l_refusal oc_l_done kV_l_done dc_l_done pm_l_done cd_l_done ct_l_done oc_l_tried kV_l_tried dc_l_tried pm_l_tried cd_l_tried ct_l_tried oc_l_net_stands kV_l_net_stands dc_l_net_stands pm_l_net_stands cd_l_net_stands ct_l_net_stands oc_l_kept_well kV_l_kept_well dc_l_kept_well pm_l_kept_well cd_l_kept_well ct_l_kept_well oc_l_filled kV_l_filled dc_l_filled pm_l_filled cd_l_filled ct_l_filled oc_law kV_law dc_law pm_law cd_law ct_law : Value}
    {t_SMALL_SIGNS t_MOST_SIGNS t_NAME_SIGNS t_MOST_GATES t_MOST_ROADS t_MOST_MINUTES t_MOST_TOLL : Tok}
    (a_Net : PySem.W.nsIn K mainGlobals "Net" = some (some (.ref o_Net)))
    (a_NoName : PySem.W.nsIn K mainGlobals "NoName" = some (some (.ref o_NoName)))
    (a_SameGate : PySem.W.nsIn K mainGlobals "SameGate" = some (some (.ref o_SameGate)))
    (a_FullNet : PySem.W.nsIn K mainGlobals "FullNet" = some (some (.ref o_FullNet)))
    (a_NoGate : PySem.W.nsIn K mainGlobals "NoGate" = some (some (.ref o_NoGate)))
    (a_NoNumber : PySem.W.nsIn K mainGlobals "NoNumber" = some (some (.ref o_NoNumber)))
    (a_NoRoad : PySem.W.nsIn K mainGlobals "NoRoad" = some (some (.ref o_NoRoad)))
    (a_Already : PySem.W.nsIn K mainGlobals "Already" = some (some (.ref o_Already)))
    (a_is_name : PySem.W.nsIn K mainGlobals "is_name" = some (some (.ref f_is_name)))
    (l_is_name : K.lookup f_is_name = some ⟨oc_is_name, od_is_name, .func (PySem.W.fnOf "is_name" "is_name" (defArgs s_is_name) (defBody s_is_name) (defScope s_is_name) .none kV_is_name dc_is_name pm_is_name an_is_name cd_is_name ct_is_name), sl_is_name⟩) (c_is_name : PySem.W.codeIn K cd_is_name "is_name" = true) (k_is_name : PySem.W.keepIn K (.ref f_is_name) = true)
    (a_N_init : PySem.W.findIn K (.ref o_Net) "__init__" = some (some (.ref f_N_init))) (i_N_init : PySem.W.isFn K (.ref f_N_init) = true)
    (l_N_init : K.lookup f_N_init = some ⟨oc_N_init, od_N_init, .func (PySem.W.fnOf "__init__" "Net.__init__" (defArgs s_N_init) (defBody s_N_init) (defScope s_N_init) .none kV_N_init dc_N_init pm_N_init an_N_init cd_N_init ct_N_init), sl_N_init⟩) (c_N_init : PySem.W.codeIn K cd_N_init "Net.__init__" = true) (k_N_init : PySem.W.keepIn K (.ref f_N_init) = true)
    (a_N_gate : PySem.W.findIn K (.ref o_Net) "gate" = some (some (.ref f_N_gate))) (i_N_gate : PySem.W.isFn K (.ref f_N_gate) = true)
    (l_N_gate : K.lookup f_N_gate = some ⟨oc_N_gate, od_N_gate, .func (PySem.W.fnOf "gate" "Net.gate" (defArgs s_N_gate) (defBody s_N_gate) (defScope s_N_gate) .none kV_N_gate dc_N_gate pm_N_gate an_N_gate cd_N_gate ct_N_gate), sl_N_gate⟩) (c_N_gate : PySem.W.codeIn K cd_N_gate "Net.gate" = true) (k_N_gate : PySem.W.keepIn K (.ref f_N_gate) = true)
    (a_N_road : PySem.W.findIn K (.ref o_Net) "road" = some (some (.ref f_N_road))) (i_N_road : PySem.W.isFn K (.ref f_N_road) = true)
    (l_N_road : K.lookup f_N_road = some ⟨oc_N_road, od_N_road, .func (PySem.W.fnOf "road" "Net.road" (defArgs s_N_road) (defBody s_N_road) (defScope s_N_road) .none kV_N_road dc_N_road pm_N_road an_N_road cd_N_road ct_N_road), sl_N_road⟩) (c_N_road : PySem.W.codeIn K cd_N_road "Net.road" = true) (k_N_road : PySem.W.keepIn K (.ref f_N_road) = true)
    (a_N_blind : PySem.W.findIn K (.ref o_Net) "blind" = some (some (.ref f_N_blind))) (i_N_blind : PySem.W.isFn K (.ref f_N_blind) = true)
    (l_N_blind : K.lookup f_N_blind = some ⟨oc_N_blind, od_N_blind, .func (PySem.W.fnOf "blind" "Net.blind" (defArgs s_N_blind) (defBody s_N_blind) (defScope s_N_blind) .none kV_N_blind dc_N_blind pm_N_blind an_N_blind cd_N_blind ct_N_blind), sl_N_blind⟩) (c_N_blind : PySem.W.codeIn K cd_N_blind "Net.blind" = true) (k_N_blind : PySem.W.keepIn K (.ref f_N_blind) = true)
    (a_N_mend : PySem.W.findIn K (.ref o_Net) "mend" = some (some (.ref f_N_mend))) (i_N_mend : PySem.W.isFn K (.ref f_N_mend) = true)
    (l_N_mend : K.lookup f_N_mend = some ⟨oc_N_mend, od_N_mend, .func (PySem.W.fnOf "mend" "Net.mend" (defArgs s_N_mend) (defBody s_N_mend) (defScope s_N_mend) .none kV_N_mend dc_N_mend pm_N_mend an_N_mend cd_N_mend ct_N_mend), sl_N_mend⟩) (c_N_mend : PySem.W.codeIn K cd_N_mend "Net.mend" = true) (k_N_mend : PySem.W.keepIn K (.ref f_N_mend) = true)
    (a_N_close : PySem.W.findIn K (.ref o_Net) "close" = some (some (.ref f_N_close))) (i_N_close : PySem.W.isFn K (.ref f_N_close) = true)
    (l_N_close : K.lookup f_N_close = some ⟨oc_N_close, od_N_close, .func (PySem.W.fnOf "close" "Net.close" (defArgs s_N_close) (defBody s_N_close) (defScope s_N_close) .none kV_N_close dc_N_close pm_N_close an_N_close cd_N_close ct_N_close), sl_N_close⟩) (c_N_close : PySem.W.codeIn K cd_N_close "Net.close" = true) (k_N_close : PySem.W.keepIn K (.ref f_N_close) = true)
    (a_N_reopen : PySem.W.findIn K (.ref o_Net) "reopen" = some (some (.ref f_N_reopen))) (i_N_reopen : PySem.W.isFn K (.ref f_N_reopen) = true)
    (l_N_reopen : K.lookup f_N_reopen = some ⟨oc_N_reopen, od_N_reopen, .func (PySem.W.fnOf "reopen" "Net.reopen" (defArgs s_N_reopen) (defBody s_N_reopen) (defScope s_N_reopen) .none kV_N_reopen dc_N_reopen pm_N_reopen an_N_reopen cd_N_reopen ct_N_reopen), sl_N_reopen⟩) (c_N_reopen : PySem.W.codeIn K cd_N_reopen "Net.reopen" = true) (k_N_reopen : PySem.W.keepIn K (.ref f_N_reopen) = true)
    (a_N_gates : PySem.W.findIn K (.ref o_Net) "gates" = some (some (.ref f_N_gates))) (i_N_gates : PySem.W.isFn K (.ref f_N_gates) = true)
    (l_N_gates : K.lookup f_N_gates = some ⟨oc_N_gates, od_N_gates, .func (PySem.W.fnOf "gates" "Net.gates" (defArgs s_N_gates) (defBody s_N_gates) (defScope s_N_gates) .none kV_N_gates dc_N_gates pm_N_gates an_N_gates cd_N_gates ct_N_gates), sl_N_gates⟩) (c_N_gates : PySem.W.codeIn K cd_N_gates "Net.gates" = true) (k_N_gates : PySem.W.keepIn K (.ref f_N_gates) = true)
    (a_N_roads : PySem.W.findIn K (.ref o_Net) "roads" = some (some (.ref f_N_roads))) (i_N_roads : PySem.W.isFn K (.ref f_N_roads) = true)
    (l_N_roads : K.lookup f_N_roads = some ⟨oc_N_roads, od_N_roads, .func (PySem.W.fnOf "roads" "Net.roads" (defArgs s_N_roads) (defBody s_N_roads) (defScope s_N_roads) .none kV_N_roads dc_N_roads pm_N_roads an_N_roads cd_N_roads ct_N_roads), sl_N_roads⟩) (c_N_roads : PySem.W.codeIn K cd_N_roads "Net.roads" = true) (k_N_roads : PySem.W.keepIn K (.ref f_N_roads) = true)
    (a_N_leaving : PySem.W.findIn K (.ref o_Net) "leaving" = some (some (.ref f_N_leaving))) (i_N_leaving : PySem.W.isFn K (.ref f_N_leaving) = true)
    (l_N_leaving : K.lookup f_N_leaving = some ⟨oc_N_leaving, od_N_leaving, .func (PySem.W.fnOf "leaving" "Net.leaving" (defArgs s_N_leaving) (defBody s_N_leaving) (defScope s_N_leaving) .none kV_N_leaving dc_N_leaving pm_N_leaving an_N_leaving cd_N_leaving ct_N_leaving), sl_N_leaving⟩) (c_N_leaving : PySem.W.codeIn K cd_N_leaving "Net.leaving" = true) (k_N_leaving : PySem.W.keepIn K (.ref f_N_leaving) = true)
    (a_N_need_gate : PySem.W.findIn K (.ref o_Net) "need_gate" = some (some (.ref f_N_need_gate))) (i_N_need_gate : PySem.W.isFn K (.ref f_N_need_gate) = true)
    (l_N_need_gate : K.lookup f_N_need_gate = some ⟨oc_N_need_gate, od_N_need_gate, .func (PySem.W.fnOf "need_gate" "Net.need_gate" (defArgs s_N_need_gate) (defBody s_N_need_gate) (defScope s_N_need_gate) .none kV_N_need_gate dc_N_need_gate pm_N_need_gate an_N_need_gate cd_N_need_gate ct_N_need_gate), sl_N_need_gate⟩) (c_N_need_gate : PySem.W.codeIn K cd_N_need_gate "Net.need_gate" = true) (k_N_need_gate : PySem.W.keepIn K (.ref f_N_need_gate) = true)
    (a_N__turn_gate : PySem.W.findIn K (.ref o_Net) "_turn_gate" = some (some (.ref f_N__turn_gate))) (i_N__turn_gate : PySem.W.isFn K (.ref f_N__turn_gate) = true)
    (l_N__turn_gate : K.lookup f_N__turn_gate = some ⟨oc_N__turn_gate, od_N__turn_gate, .func (PySem.W.fnOf "_turn_gate" "Net._turn_gate" (defArgs s_N__turn_gate) (defBody s_N__turn_gate) (defScope s_N__turn_gate) .none kV_N__turn_gate dc_N__turn_gate pm_N__turn_gate an_N__turn_gate cd_N__turn_gate ct_N__turn_gate), sl_N__turn_gate⟩) (c_N__turn_gate : PySem.W.codeIn K cd_N__turn_gate "Net._turn_gate" = true) (k_N__turn_gate : PySem.W.keepIn K (.ref f_N__turn_gate) = true)
    (a_N__turn_road : PySem.W.findIn K (.ref o_Net) "_turn_road" = some (some (.ref f_N__turn_road))) (i_N__turn_road : PySem.W.isFn K (.ref f_N__turn_road) = true)
    (l_N__turn_road : K.lookup f_N__turn_road = some ⟨oc_N__turn_road, od_N__turn_road, .func (PySem.W.fnOf "_turn_road" "Net._turn_road" (defArgs s_N__turn_road) (defBody s_N__turn_road) (defScope s_N__turn_road) .none kV_N__turn_road dc_N__turn_road pm_N__turn_road an_N__turn_road cd_N__turn_road ct_N__turn_road), sl_N__turn_road⟩) (c_N__turn_road : PySem.W.codeIn K cd_N__turn_road "Net._turn_road" = true) (k_N__turn_road : PySem.W.keepIn K (.ref f_N__turn_road) = true)
    (a_l_cell_at : PySem.W.nsIn K mainGlobals "_law_cell_at" = some (some (.ref f_l_cell_at)))
    (l_l_cell_at : K.lookup f_l_cell_at = some ⟨oc_l_cell_at, od_l_cell_at, .func (PySem.W.fnOf "_law_cell_at" "_law_cell_at" (defArgs s_l_cell_at) (defBody s_l_cell_at) (defScope s_l_cell_at) .none kV_l_cell_at dc_l_cell_at pm_l_cell_at an_l_cell_at cd_l_cell_at ct_l_cell_at), sl_l_cell_at⟩) (c_l_cell_at : PySem.W.codeIn K cd_l_cell_at "_law_cell_at" = true) (k_l_cell_at : PySem.W.keepIn K (.ref f_l_cell_at) = true)
    (a_l_whole : PySem.W.nsIn K mainGlobals "_law_whole" = some (some (.ref f_l_whole)))
    (l_l_whole : K.lookup f_l_whole = some ⟨oc_l_whole, od_l_whole, .func (PySem.W.fnOf "_law_whole" "_law_whole" (defArgs s_l_whole) (defBody s_l_whole) (defScope s_l_whole) .none kV_l_whole dc_l_whole pm_l_whole an_l_whole cd_l_whole ct_l_whole), sl_l_whole⟩) (c_l_whole : PySem.W.codeIn K cd_l_whole "_law_whole" = true) (k_l_whole : PySem.W.keepIn K (.ref f_l_whole) = true)
    (a_l_mixed : PySem.W.nsIn K mainGlobals "_law_mixed" = some (some (.ref f_l_mixed)))
    (l_l_mixed : K.lookup f_l_mixed = some ⟨oc_l_mixed, od_l_mixed, .func (PySem.W.fnOf "_law_mixed" "_law_mixed" (defArgs s_l_mixed) (defBody s_l_mixed) (defScope s_l_mixed) .none kV_l_mixed dc_l_mixed pm_l_mixed an_l_mixed cd_l_mixed ct_l_mixed), sl_l_mixed⟩) (c_l_mixed : PySem.W.codeIn K cd_l_mixed "_law_mixed" = true) (k_l_mixed : PySem.W.keepIn K (.ref f_l_mixed) = true)
    (a_l_name : PySem.W.nsIn K mainGlobals "_law_name" = some (some (.ref f_l_name)))
    (l_l_name : K.lookup f_l_name = some ⟨oc_l_name, od_l_name, .func (PySem.W.fnOf "_law_name" "_law_name" (defArgs s_l_name) (defBody s_l_name) (defScope s_l_name) .none kV_l_name dc_l_name pm_l_name an_l_name cd_l_name ct_l_name), sl_l_name⟩) (c_l_name : PySem.W.codeIn K cd_l_name "_law_name" = true) (k_l_name : PySem.W.keepIn K (.ref f_l_name) = true)
    (a_l_some_number : PySem.W.nsIn K mainGlobals "_law_some_number" = some (some (.ref f_l_some_number)))
    (l_l_some_number : K.lookup f_l_some_number = some ⟨oc_l_some_number, od_l_some_number, .func (PySem.W.fnOf "_law_some_number" "_law_some_number" (defArgs s_l_some_number) (defBody s_l_some_number) (defScope s_l_some_number) .none kV_l_some_number dc_l_some_number pm_l_some_number an_l_some_number cd_l_some_number ct_l_some_number), sl_l_some_number⟩) (c_l_some_number : PySem.W.codeIn K cd_l_some_number "_law_some_number" = true) (k_l_some_number : PySem.W.keepIn K (.ref f_l_some_number) = true)
    (a_l_net_deed : PySem.W.nsIn K mainGlobals "_law_net_deed" = some (some (.ref f_l_net_deed)))
    (l_l_net_deed : K.lookup f_l_net_deed = some ⟨oc_l_net_deed, od_l_net_deed, .func (PySem.W.fnOf "_law_net_deed" "_law_net_deed" (defArgs s_l_net_deed) (defBody s_l_net_deed) (defScope s_l_net_deed) .none kV_l_net_deed dc_l_net_deed pm_l_net_deed an_l_net_deed cd_l_net_deed ct_l_net_deed), sl_l_net_deed⟩) (c_l_net_deed : PySem.W.codeIn K cd_l_net_deed "_law_net_deed" = true) (k_l_net_deed : PySem.W.keepIn K (.ref f_l_net_deed) = true)
    (a_l_refusal : PySem.W.nsIn K mainGlobals "_law_refusal" = some (some (.ref f_l_refusal)))
    (l_l_refusal : K.lookup f_l_refusal = some ⟨oc_l_refusal, od_l_refusal, .func (PySem.W.fnOf "_law_refusal" "_law_refusal" (defArgs s_l_refusal) (defBody s_l_refusal) (defScope s_l_refusal) .none kV_l_refusal dc_l_refusal pm_l_refusal an_l_refusal cd_l_refusal ct_l_refusal), sl_l_refusal⟩) (c_l_refusal : PySem.W.codeIn K cd_l_refusal "_law_refusal" = true) (k_l_refusal : PySem.W.keepIn K (.ref f_l_refusal) = true)
    (a_l_done : PySem.W.nsIn K mainGlobals "_law_done" = some (some (.ref f_l_done)))
    (l_l_done : K.lookup f_l_done = some ⟨oc_l_done, od_l_done, .func (PySem.W.fnOf "_law_done" "_law_done" (defArgs s_l_done) (defBody s_l_done) (defScope s_l_done) .none kV_l_done dc_l_done pm_l_done an_l_done cd_l_done ct_l_done), sl_l_done⟩) (c_l_done : PySem.W.codeIn K cd_l_done "_law_done" = true) (k_l_done : PySem.W.keepIn K (.ref f_l_done) = true)
    (a_l_tried : PySem.W.nsIn K mainGlobals "_law_tried" = some (some (.ref f_l_tried)))
    (l_l_tried : K.lookup f_l_tried = some ⟨oc_l_tried, od_l_tried, .func (PySem.W.fnOf "_law_tried" "_law_tried" (defArgs s_l_tried) (defBody s_l_tried) (defScope s_l_tried) .none kV_l_tried dc_l_tried pm_l_tried an_l_tried cd_l_tried ct_l_tried), sl_l_tried⟩) (c_l_tried : PySem.W.codeIn K cd_l_tried "_law_tried" = true) (k_l_tried : PySem.W.keepIn K (.ref f_l_tried) = true)
    (a_l_net_stands : PySem.W.nsIn K mainGlobals "_law_net_stands" = some (some (.ref f_l_net_stands)))
    (l_l_net_stands : K.lookup f_l_net_stands = some ⟨oc_l_net_stands, od_l_net_stands, .func (PySem.W.fnOf "_law_net_stands" "_law_net_stands" (defArgs s_l_net_stands) (defBody s_l_net_stands) (defScope s_l_net_stands) .none kV_l_net_stands dc_l_net_stands pm_l_net_stands an_l_net_stands cd_l_net_stands ct_l_net_stands), sl_l_net_stands⟩) (c_l_net_stands : PySem.W.codeIn K cd_l_net_stands "_law_net_stands" = true) (k_l_net_stands : PySem.W.keepIn K (.ref f_l_net_stands) = true)
    (a_l_kept_well : PySem.W.nsIn K mainGlobals "_law_kept_well" = some (some (.ref f_l_kept_well)))
    (l_l_kept_well : K.lookup f_l_kept_well = some ⟨oc_l_kept_well, od_l_kept_well, .func (PySem.W.fnOf "_law_kept_well" "_law_kept_well" (defArgs s_l_kept_well) (defBody s_l_kept_well) (defScope s_l_kept_well) .none kV_l_kept_well dc_l_kept_well pm_l_kept_well an_l_kept_well cd_l_kept_well ct_l_kept_well), sl_l_kept_well⟩) (c_l_kept_well : PySem.W.codeIn K cd_l_kept_well "_law_kept_well" = true) (k_l_kept_well : PySem.W.keepIn K (.ref f_l_kept_well) = true)
    (a_l_filled : PySem.W.nsIn K mainGlobals "_law_filled" = some (some (.ref f_l_filled)))
    (l_l_filled : K.lookup f_l_filled = some ⟨oc_l_filled, od_l_filled, .func (PySem.W.fnOf "_law_filled" "_law_filled" (defArgs s_l_filled) (defBody s_l_filled) (defScope s_l_filled) .none kV_l_filled dc_l_filled pm_l_filled an_l_filled cd_l_filled ct_l_filled), sl_l_filled⟩) (c_l_filled : PySem.W.codeIn K cd_l_filled "_law_filled" = true) (k_l_filled : PySem.W.keepIn K (.ref f_l_filled) = true)
    (a_law : PySem.W.nsIn K mainGlobals "law" = some (some (.ref f_law)))
    (l_law : K.lookup f_law = some ⟨oc_law, od_law, .func (PySem.W.fnOf "law" "law" (defArgs s_law) (defBody s_law) (defScope s_law) .none kV_law dc_law pm_law an_law cd_law ct_law), sl_law⟩) (c_law : PySem.W.codeIn K cd_law "law" = true) (k_law : PySem.W.keepIn K (.ref f_law) = true)
    (pg_Net : PySem.W.plainGet K o_Net Str.empty = true) (hd_Net : PySem.W.hasDictIn K o_Net = true) (po_Net : PySem.W.plainOver K o_Net = true) (sa_Net : PySem.W.findIn K (.ref o_Net) "__setattr__" = some (some (.builtin "object.__setattr__"))) (mk_Net : PySem.W.makesIn K o_Net = true) (kc_Net : PySem.W.keepIn K (.ref o_Net) = true)
    (na_Net__gates : PySem.W.findIn K (.ref o_Net) "_gates" = some none)
    (na_Net__roads : PySem.W.findIn K (.ref o_Net) "_roads" = some none)
    (xi_NoName : PySem.W.excIn K o_NoName [.type "ValueError", .type "Exception", .type "BaseException", .type "object"] "ValueError.__new__" = true) (ke_NoName : PySem.W.keepIn K (.ref o_NoName) = true) (be_NoName : PySem.W.subIn K (.ref o_NoName) (.type "BaseException") = some true) (te_NoName : PySem.W.typeIn K (.ref o_NoName) = some (.type "type")) (he_NoName : PySem.W.hasDictIn K o_NoName = true) (ie_NoName : PySem.W.isClsIn K o_NoName = true)
    (xi_SameGate : PySem.W.excIn K o_SameGate [.type "ValueError", .type "Exception", .type "BaseException", .type "object"] "ValueError.__new__" = true) (ke_SameGate : PySem.W.keepIn K (.ref o_SameGate) = true) (be_SameGate : PySem.W.subIn K (.ref o_SameGate) (.type "BaseException") = some true) (te_SameGate : PySem.W.typeIn K (.ref o_SameGate) = some (.type "type")) (he_SameGate : PySem.W.hasDictIn K o_SameGate = true) (ie_SameGate : PySem.W.isClsIn K o_SameGate = true)
    (xi_FullNet : PySem.W.excIn K o_FullNet [.type "ValueError", .type "Exception", .type "BaseException", .type "object"] "ValueError.__new__" = true) (ke_FullNet : PySem.W.keepIn K (.ref o_FullNet) = true) (be_FullNet : PySem.W.subIn K (.ref o_FullNet) (.type "BaseException") = some true) (te_FullNet : PySem.W.typeIn K (.ref o_FullNet) = some (.type "type")) (he_FullNet : PySem.W.hasDictIn K o_FullNet = true) (ie_FullNet : PySem.W.isClsIn K o_FullNet = true)
    (xi_NoGate : PySem.W.excIn K o_NoGate [.type "ValueError", .type "Exception", .type "BaseException", .type "object"] "ValueError.__new__" = true) (ke_NoGate : PySem.W.keepIn K (.ref o_NoGate) = true) (be_NoGate : PySem.W.subIn K (.ref o_NoGate) (.type "BaseException") = some true) (te_NoGate : PySem.W.typeIn K (.ref o_NoGate) = some (.type "type")) (he_NoGate : PySem.W.hasDictIn K o_NoGate = true) (ie_NoGate : PySem.W.isClsIn K o_NoGate = true)
    (xi_NoNumber : PySem.W.excIn K o_NoNumber [.type "ValueError", .type "Exception", .type "BaseException", .type "object"] "ValueError.__new__" = true) (ke_NoNumber : PySem.W.keepIn K (.ref o_NoNumber) = true) (be_NoNumber : PySem.W.subIn K (.ref o_NoNumber) (.type "BaseException") = some true) (te_NoNumber : PySem.W.typeIn K (.ref o_NoNumber) = some (.type "type")) (he_NoNumber : PySem.W.hasDictIn K o_NoNumber = true) (ie_NoNumber : PySem.W.isClsIn K o_NoNumber = true)
    (xi_NoRoad : PySem.W.excIn K o_NoRoad [.type "ValueError", .type "Exception", .type "BaseException", .type "object"] "ValueError.__new__" = true) (ke_NoRoad : PySem.W.keepIn K (.ref o_NoRoad) = true) (be_NoRoad : PySem.W.subIn K (.ref o_NoRoad) (.type "BaseException") = some true) (te_NoRoad : PySem.W.typeIn K (.ref o_NoRoad) = some (.type "type")) (he_NoRoad : PySem.W.hasDictIn K o_NoRoad = true) (ie_NoRoad : PySem.W.isClsIn K o_NoRoad = true)
    (xi_Already : PySem.W.excIn K o_Already [.type "ValueError", .type "Exception", .type "BaseException", .type "object"] "ValueError.__new__" = true) (ke_Already : PySem.W.keepIn K (.ref o_Already) = true) (be_Already : PySem.W.subIn K (.ref o_Already) (.type "BaseException") = some true) (te_Already : PySem.W.typeIn K (.ref o_Already) = some (.type "type")) (he_Already : PySem.W.hasDictIn K o_Already = true) (ie_Already : PySem.W.isClsIn K o_Already = true)
    (v_NoName_NoName : PySem.W.subIn K (.ref o_NoName) (.ref o_NoName) = some true)
    (v_NoName_SameGate : PySem.W.subIn K (.ref o_NoName) (.ref o_SameGate) = some false)
    (v_NoName_FullNet : PySem.W.subIn K (.ref o_NoName) (.ref o_FullNet) = some false)
    (v_NoName_NoGate : PySem.W.subIn K (.ref o_NoName) (.ref o_NoGate) = some false)
    (v_NoName_NoNumber : PySem.W.subIn K (.ref o_NoName) (.ref o_NoNumber) = some false)
    (v_NoName_NoRoad : PySem.W.subIn K (.ref o_NoName) (.ref o_NoRoad) = some false)
    (v_NoName_Already : PySem.W.subIn K (.ref o_NoName) (.ref o_Already) = some false)
    (v_SameGate_NoName : PySem.W.subIn K (.ref o_SameGate) (.ref o_NoName) = some false)
    (v_SameGate_SameGate : PySem.W.subIn K (.ref o_SameGate) (.ref o_SameGate) = some true)
    (v_SameGate_FullNet : PySem.W.subIn K (.ref o_SameGate) (.ref o_FullNet) = some false)
    (v_SameGate_NoGate : PySem.W.subIn K (.ref o_SameGate) (.ref o_NoGate) = some false)
    (v_SameGate_NoNumber : PySem.W.subIn K (.ref o_SameGate) (.ref o_NoNumber) = some false)
    (v_SameGate_NoRoad : PySem.W.subIn K (.ref o_SameGate) (.ref o_NoRoad) = some false)
    (v_SameGate_Already : PySem.W.subIn K (.ref o_SameGate) (.ref o_Already) = some false)
    (v_FullNet_NoName : PySem.W.subIn K (.ref o_FullNet) (.ref o_NoName) = some false)
    (v_FullNet_SameGate : PySem.W.subIn K (.ref o_FullNet) (.ref o_SameGate) = some false)
    (v_FullNet_FullNet : PySem.W.subIn K (.ref o_FullNet) (.ref o_FullNet) = some true)
    (v_FullNet_NoGate : PySem.W.subIn K (.ref o_FullNet) (.ref o_NoGate) = some false)
    (v_FullNet_NoNumber : PySem.W.subIn K (.ref o_FullNet) (.ref o_NoNumber) = some false)
    (v_FullNet_NoRoad : PySem.W.subIn K (.ref o_FullNet) (.ref o_NoRoad) = some false)
    (v_FullNet_Already : PySem.W.subIn K (.ref o_FullNet) (.ref o_Already) = some false)
    (v_NoGate_NoName : PySem.W.subIn K (.ref o_NoGate) (.ref o_NoName) = some false)
    (v_NoGate_SameGate : PySem.W.subIn K (.ref o_NoGate) (.ref o_SameGate) = some false)
    (v_NoGate_FullNet : PySem.W.subIn K (.ref o_NoGate) (.ref o_FullNet) = some false)
    (v_NoGate_NoGate : PySem.W.subIn K (.ref o_NoGate) (.ref o_NoGate) = some true)
    (v_NoGate_NoNumber : PySem.W.subIn K (.ref o_NoGate) (.ref o_NoNumber) = some false)
    (v_NoGate_NoRoad : PySem.W.subIn K (.ref o_NoGate) (.ref o_NoRoad) = some false)
    (v_NoGate_Already : PySem.W.subIn K (.ref o_NoGate) (.ref o_Already) = some false)
    (v_NoNumber_NoName : PySem.W.subIn K (.ref o_NoNumber) (.ref o_NoName) = some false)
    (v_NoNumber_SameGate : PySem.W.subIn K (.ref o_NoNumber) (.ref o_SameGate) = some false)
    (v_NoNumber_FullNet : PySem.W.subIn K (.ref o_NoNumber) (.ref o_FullNet) = some false)
    (v_NoNumber_NoGate : PySem.W.subIn K (.ref o_NoNumber) (.ref o_NoGate) = some false)
    (v_NoNumber_NoNumber : PySem.W.subIn K (.ref o_NoNumber) (.ref o_NoNumber) = some true)
    (v_NoNumber_NoRoad : PySem.W.subIn K (.ref o_NoNumber) (.ref o_NoRoad) = some false)
    (v_NoNumber_Already : PySem.W.subIn K (.ref o_NoNumber) (.ref o_Already) = some false)
    (v_NoRoad_NoName : PySem.W.subIn K (.ref o_NoRoad) (.ref o_NoName) = some false)
    (v_NoRoad_SameGate : PySem.W.subIn K (.ref o_NoRoad) (.ref o_SameGate) = some false)
    (v_NoRoad_FullNet : PySem.W.subIn K (.ref o_NoRoad) (.ref o_FullNet) = some false)
    (v_NoRoad_NoGate : PySem.W.subIn K (.ref o_NoRoad) (.ref o_NoGate) = some false)
    (v_NoRoad_NoNumber : PySem.W.subIn K (.ref o_NoRoad) (.ref o_NoNumber) = some false)
    (v_NoRoad_NoRoad : PySem.W.subIn K (.ref o_NoRoad) (.ref o_NoRoad) = some true)
    (v_NoRoad_Already : PySem.W.subIn K (.ref o_NoRoad) (.ref o_Already) = some false)
    (v_Already_NoName : PySem.W.subIn K (.ref o_Already) (.ref o_NoName) = some false)
    (v_Already_SameGate : PySem.W.subIn K (.ref o_Already) (.ref o_SameGate) = some false)
    (v_Already_FullNet : PySem.W.subIn K (.ref o_Already) (.ref o_FullNet) = some false)
    (v_Already_NoGate : PySem.W.subIn K (.ref o_Already) (.ref o_NoGate) = some false)
    (v_Already_NoNumber : PySem.W.subIn K (.ref o_Already) (.ref o_NoNumber) = some false)
    (v_Already_NoRoad : PySem.W.subIn K (.ref o_Already) (.ref o_NoRoad) = some false)
    (v_Already_Already : PySem.W.subIn K (.ref o_Already) (.ref o_Already) = some true)
    (u_SMALL_SIGNS : PySem.W.nsIn K mainGlobals "SMALL_SIGNS" = some (some (.str k_SMALL_SIGNS t_SMALL_SIGNS)))
    (u_MOST_SIGNS : PySem.W.nsIn K mainGlobals "MOST_SIGNS" = some (some (.int 8 t_MOST_SIGNS)))
    (u_NAME_SIGNS : PySem.W.nsIn K mainGlobals "NAME_SIGNS" = some (some (.str k_NAME_SIGNS t_NAME_SIGNS)))
    (u_MOST_GATES : PySem.W.nsIn K mainGlobals "MOST_GATES" = some (some (.int 60 t_MOST_GATES)))
    (u_MOST_ROADS : PySem.W.nsIn K mainGlobals "MOST_ROADS" = some (some (.int 200 t_MOST_ROADS)))
    (u_MOST_MINUTES : PySem.W.nsIn K mainGlobals "MOST_MINUTES" = some (some (.int 1000000 t_MOST_MINUTES)))
    (u_MOST_TOLL : PySem.W.nsIn K mainGlobals "MOST_TOLL" = some (some (.int 1000000 t_MOST_TOLL)))
    (z_all : PySem.W.nsIn K mainGlobals "all" = some none)
    (z_len : PySem.W.nsIn K mainGlobals "len" = some none)
    (z_list : PySem.W.nsIn K mainGlobals "list" = some none)
    (z_enumerate : PySem.W.nsIn K mainGlobals "enumerate" = some none)
    (z_isinstance : PySem.W.nsIn K mainGlobals "isinstance" = some none)
    (z_int : PySem.W.nsIn K mainGlobals "int" = some none)
    (z_bool : PySem.W.nsIn K mainGlobals "bool" = some none)
    (z_range : PySem.W.nsIn K mainGlobals "range" = some none)
    (z_str : PySem.W.nsIn K mainGlobals "str" = some none)
    (z_max : PySem.W.nsIn K mainGlobals "max" = some none)
    (z_tuple : PySem.W.nsIn K mainGlobals "tuple" = some none) :
    ∃ fd : FuncData, (∀ (s : Shared) (v : Value), BindsTo s fd ⟨[v], []⟩ [("_law_script", v)]) ∧ ∀ base : Heap, K.In base → base.Ns mainGlobals mg → FnOk l.prog w K mg base CX0 6 fa fd ["_law_script"] (spLaw K) := by
  have e := hfa.symm.trans (PySem.W.mg_of X G a_law)
  cases e
  let A : Ads := { is_name := f_is_name, N_init := f_N_init, N_gate := f_N_gate, N_road := f_N_road, N_blind := f_N_blind, N_mend := f_N_mend, N_close := f_N_close, N_reopen := f_N_reopen, N_gates := f_N_gates, N_roads := f_N_roads, N_leaving := f_N_leaving, N_need_gate := f_N_need_gate, N__turn_gate := f_N__turn_gate, N__turn_road := f_N__turn_road, l_cell_at := f_l_cell_at, l_whole := f_l_whole, l_mixed := f_l_mixed, l_name := f_l_name, l_some_number := f_l_some_number, l_net_deed := f_l_net_deed, l_refusal := f_l_refusal, l_done := f_l_done, l_tried := f_l_tried, l_net_stands := f_l_net_stands, l_kept_well := f_l_kept_well, l_filled := f_l_filled, law := fa, C_Net := o_Net, C_NoName := o_NoName, C_SameGate := o_SameGate, C_FullNet := o_FullNet, C_NoGate := o_NoGate, C_NoNumber := o_NoNumber, C_NoRoad := o_NoRoad, C_Already := o_Already, tSMALL_SIGNS := t_SMALL_SIGNS, tMOST_SIGNS := t_MOST_SIGNS, tNAME_SIGNS := t_NAME_SIGNS, tMOST_GATES := t_MOST_GATES, tMOST_ROADS := t_MOST_ROADS, tMOST_MINUTES := t_MOST_MINUTES, tMOST_TOLL := t_MOST_TOLL }
  have T : Txt K mg A :=
    { m_is_name := PySem.W.mg_of X G a_is_name
      F_is_name := ⟨_, fun_mk (st := s_is_name) l_is_name c_is_name k_is_name⟩
      M_N_init := ⟨a_N_init, i_N_init, k_N_init⟩
      F_N_init := ⟨_, fun_mk (st := s_N_init) l_N_init c_N_init k_N_init⟩
      M_N_gate := ⟨a_N_gate, i_N_gate, k_N_gate⟩
      F_N_gate := ⟨_, fun_mk (st := s_N_gate) l_N_gate c_N_gate k_N_gate⟩
      M_N_road := ⟨a_N_road, i_N_road, k_N_road⟩
      F_N_road := ⟨_, fun_mk (st := s_N_road) l_N_road c_N_road k_N_road⟩
      M_N_blind := ⟨a_N_blind, i_N_blind, k_N_blind⟩
      F_N_blind := ⟨_, fun_mk (st := s_N_blind) l_N_blind c_N_blind k_N_blind⟩
      M_N_mend := ⟨a_N_mend, i_N_mend, k_N_mend⟩
      F_N_mend := ⟨_, fun_mk (st := s_N_mend) l_N_mend c_N_mend k_N_mend⟩
      M_N_close := ⟨a_N_close, i_N_close, k_N_close⟩
      F_N_close := ⟨_, fun_mk (st := s_N_close) l_N_close c_N_close k_N_close⟩
      M_N_reopen := ⟨a_N_reopen, i_N_reopen, k_N_reopen⟩
      F_N_reopen := ⟨_, fun_mk (st := s_N_reopen) l_N_reopen c_N_reopen k_N_reopen⟩
      M_N_gates := ⟨a_N_gates, i_N_gates, k_N_gates⟩
      F_N_gates := ⟨_, fun_mk (st := s_N_gates) l_N_gates c_N_gates k_N_gates⟩
      M_N_roads := ⟨a_N_roads, i_N_roads, k_N_roads⟩
      F_N_roads := ⟨_, fun_mk (st := s_N_roads) l_N_roads c_N_roads k_N_roads⟩
      M_N_leaving := ⟨a_N_leaving, i_N_leaving, k_N_leaving⟩
      F_N_leaving := ⟨_, fun_mk (st := s_N_leaving) l_N_leaving c_N_leaving k_N_leaving⟩
      M_N_need_gate := ⟨a_N_need_gate, i_N_need_gate, k_N_need_gate⟩
      F_N_need_gate := ⟨_, fun_mk (st := s_N_need_gate) l_N_need_gate c_N_need_gate k_N_need_gate⟩
      M_N__turn_gate := ⟨a_N__turn_gate, i_N__turn_gate, k_N__turn_gate⟩
      F_N__turn_gate := ⟨_, fun_mk (st := s_N__turn_gate) l_N__turn_gate c_N__turn_gate k_N__turn_gate⟩
      M_N__turn_road := ⟨a_N__turn_road, i_N__turn_road, k_N__turn_road⟩
      F_N__turn_road := ⟨_, fun_mk (st := s_N__turn_road) l_N__turn_road c_N__turn_road k_N__turn_road⟩
      m_l_cell_at := PySem.W.mg_of X G a_l_cell_at
      F_l_cell_at := ⟨_, fun_mk (st := s_l_cell_at) l_l_cell_at c_l_cell_at k_l_cell_at⟩
      m_l_whole := PySem.W.mg_of X G a_l_whole
      F_l_whole := ⟨_, fun_mk (st := s_l_whole) l_l_whole c_l_whole k_l_whole⟩
      m_l_mixed := PySem.W.mg_of X G a_l_mixed
      F_l_mixed := ⟨_, fun_mk (st := s_l_mixed) l_l_mixed c_l_mixed k_l_mixed⟩
      m_l_name := PySem.W.mg_of X G a_l_name
      F_l_name := ⟨_, fun_mk (st := s_l_name) l_l_name c_l_name k_l_name⟩
      m_l_some_number := PySem.W.mg_of X G a_l_some_number
      F_l_some_number := ⟨_, fun_mk (st := s_l_some_number) l_l_some_number c_l_some_number k_l_some_number⟩
      m_l_net_deed := PySem.W.mg_of X G a_l_net_deed
      F_l_net_deed := ⟨_, fun_mk (st := s_l_net_deed) l_l_net_deed c_l_net_deed k_l_net_deed⟩
      m_l_refusal := PySem.W.mg_of X G a_l_refusal
      F_l_refusal := ⟨_, fun_mk (st := s_l_refusal) l_l_refusal c_l_refusal k_l_refusal⟩
      m_l_done := PySem.W.mg_of X G a_l_done
      F_l_done := ⟨_, fun_mk (st := s_l_done) l_l_done c_l_done k_l_done⟩
      m_l_tried := PySem.W.mg_of X G a_l_tried
      F_l_tried := ⟨_, fun_mk (st := s_l_tried) l_l_tried c_l_tried k_l_tried⟩
      m_l_net_stands := PySem.W.mg_of X G a_l_net_stands
      F_l_net_stands := ⟨_, fun_mk (st := s_l_net_stands) l_l_net_stands c_l_net_stands k_l_net_stands⟩
      m_l_kept_well := PySem.W.mg_of X G a_l_kept_well
      F_l_kept_well := ⟨_, fun_mk (st := s_l_kept_well) l_l_kept_well c_l_kept_well k_l_kept_well⟩
      m_l_filled := PySem.W.mg_of X G a_l_filled
      F_l_filled := ⟨_, fun_mk (st := s_l_filled) l_l_filled c_l_filled k_l_filled⟩
      m_law := PySem.W.mg_of X G a_law
      F_law := ⟨_, fun_mk (st := s_law) l_law c_law k_law⟩
      g_Net := PySem.W.mg_of X G a_Net
      c_Net := ⟨pg_Net, hd_Net, po_Net, sa_Net⟩
      M_Net := ⟨mk_Net, a_N_init, i_N_init, kc_Net⟩
      na_Net__gates := na_Net__gates
      na_Net__roads := na_Net__roads
      e_NoName := ⟨PySem.W.mg_of X G a_NoName, xi_NoName, ke_NoName, be_NoName, te_NoName, he_NoName, ie_NoName⟩
      v_NoName_NoName := v_NoName_NoName
      v_NoName_SameGate := v_NoName_SameGate
      v_NoName_FullNet := v_NoName_FullNet
      v_NoName_NoGate := v_NoName_NoGate
      v_NoName_NoNumber := v_NoName_NoNumber
      v_NoName_NoRoad := v_NoName_NoRoad
      v_NoName_Already := v_NoName_Already
      e_SameGate := ⟨PySem.W.mg_of X G a_SameGate, xi_SameGate, ke_SameGate, be_SameGate, te_SameGate, he_SameGate, ie_SameGate⟩
      v_SameGate_NoName := v_SameGate_NoName
      v_SameGate_SameGate := v_SameGate_SameGate
      v_SameGate_FullNet := v_SameGate_FullNet
      v_SameGate_NoGate := v_SameGate_NoGate
      v_SameGate_NoNumber := v_SameGate_NoNumber
      v_SameGate_NoRoad := v_SameGate_NoRoad
      v_SameGate_Already := v_SameGate_Already
      e_FullNet := ⟨PySem.W.mg_of X G a_FullNet, xi_FullNet, ke_FullNet, be_FullNet, te_FullNet, he_FullNet, ie_FullNet⟩
      v_FullNet_NoName := v_FullNet_NoName
      v_FullNet_SameGate := v_FullNet_SameGate
      v_FullNet_FullNet := v_FullNet_FullNet
      v_FullNet_NoGate := v_FullNet_NoGate
      v_FullNet_NoNumber := v_FullNet_NoNumber
      v_FullNet_NoRoad := v_FullNet_NoRoad
      v_FullNet_Already := v_FullNet_Already
      e_NoGate := ⟨PySem.W.mg_of X G a_NoGate, xi_NoGate, ke_NoGate, be_NoGate, te_NoGate, he_NoGate, ie_NoGate⟩
      v_NoGate_NoName := v_NoGate_NoName
      v_NoGate_SameGate := v_NoGate_SameGate
      v_NoGate_FullNet := v_NoGate_FullNet
      v_NoGate_NoGate := v_NoGate_NoGate
      v_NoGate_NoNumber := v_NoGate_NoNumber
      v_NoGate_NoRoad := v_NoGate_NoRoad
      v_NoGate_Already := v_NoGate_Already
      e_NoNumber := ⟨PySem.W.mg_of X G a_NoNumber, xi_NoNumber, ke_NoNumber, be_NoNumber, te_NoNumber, he_NoNumber, ie_NoNumber⟩
      v_NoNumber_NoName := v_NoNumber_NoName
      v_NoNumber_SameGate := v_NoNumber_SameGate
      v_NoNumber_FullNet := v_NoNumber_FullNet
      v_NoNumber_NoGate := v_NoNumber_NoGate
      v_NoNumber_NoNumber := v_NoNumber_NoNumber
      v_NoNumber_NoRoad := v_NoNumber_NoRoad
      v_NoNumber_Already := v_NoNumber_Already
      e_NoRoad := ⟨PySem.W.mg_of X G a_NoRoad, xi_NoRoad, ke_NoRoad, be_NoRoad, te_NoRoad, he_NoRoad, ie_NoRoad⟩
      v_NoRoad_NoName := v_NoRoad_NoName
      v_NoRoad_SameGate := v_NoRoad_SameGate
      v_NoRoad_FullNet := v_NoRoad_FullNet
      v_NoRoad_NoGate := v_NoRoad_NoGate
      v_NoRoad_NoNumber := v_NoRoad_NoNumber
      v_NoRoad_NoRoad := v_NoRoad_NoRoad
      v_NoRoad_Already := v_NoRoad_Already
      e_Already := ⟨PySem.W.mg_of X G a_Already, xi_Already, ke_Already, be_Already, te_Already, he_Already, ie_Already⟩
      v_Already_NoName := v_Already_NoName
      v_Already_SameGate := v_Already_SameGate
      v_Already_FullNet := v_Already_FullNet
      v_Already_NoGate := v_Already_NoGate
      v_Already_NoNumber := v_Already_NoNumber
      v_Already_NoRoad := v_Already_NoRoad
      v_Already_Already := v_Already_Already
      m_SMALL_SIGNS := PySem.W.mg_of X G u_SMALL_SIGNS
      m_MOST_SIGNS := PySem.W.mg_of X G u_MOST_SIGNS
      m_NAME_SIGNS := PySem.W.mg_of X G u_NAME_SIGNS
      m_MOST_GATES := PySem.W.mg_of X G u_MOST_GATES
      m_MOST_ROADS := PySem.W.mg_of X G u_MOST_ROADS
      m_MOST_MINUTES := PySem.W.mg_of X G u_MOST_MINUTES
      m_MOST_TOLL := PySem.W.mg_of X G u_MOST_TOLL
      b_all := PySem.W.mg_none_of X G z_all
      b_len := PySem.W.mg_none_of X G z_len
      b_list := PySem.W.mg_none_of X G z_list
      b_enumerate := PySem.W.mg_none_of X G z_enumerate
      b_isinstance := PySem.W.mg_none_of X G z_isinstance
      b_int := PySem.W.mg_none_of X G z_int
      b_bool := PySem.W.mg_none_of X G z_bool
      b_range := PySem.W.mg_none_of X G z_range
      b_str := PySem.W.mg_none_of X G z_str
      b_max := PySem.W.mg_none_of X G z_max
      b_tuple := PySem.W.mg_none_of X G z_tuple }
  exact ⟨PySem.W.fnOf "law" "law" (defArgs s_law) (defBody s_law) (defScope s_law) .none kV_law dc_law pm_law an_law cd_law ct_law, fun s v => .of_eq rfl, fun base _ _ => ok_law (fun_mk (st := s_law) l_law c_law k_law) T⟩
theorem walk {l : PySem.W.OpenLaw} {q : Program} {loose : List Str} {XP : (Str → Option Value) → Heap → Prop} {YP : World → Heap → Prop} {d : DefRec} {K : Params → PySem.W.Frag} (hn : l.most = some 63) (hdf : d.params.defaults = [])
    (hY : ∀ (w : World) (h : Heap), YP w h → (K w.params).In h)
    (F : ∀ (w : World) (mg : Str → Option Value) (fa : Addr) (h : Heap), (K w.params).In h → h.Ns mainGlobals mg → mg d.name = some (.ref fa) →
      ∃ fd : FuncData, (∀ (s : Shared) (u : Value), BindsTo s fd ⟨[u], []⟩ [("_law_script", u)]) ∧ ∀ base : Heap, (K w.params).In base → base.Ns mainGlobals mg → FnOk l.prog w (K w.params) mg base CX0 6 fa fd ["_law_script"] (spLaw (K w.params))) :
    PySem.W.WalkO q loose XP YP l.row.toRowW d [] (fun f vs => PySem.call f vs) :=
  L2.walk_of (n := 63) (k := 6) (x := "_law_script") (CX := fun _ => CX0) (sp := fun w => spLaw (K w.params)) hn (by decide) hdf ⟨rfl, by decide, by decide⟩ hY F (fun _ _ a ns hl _ hS => ⟨a, ns, rfl, hS, hl, fun _ => rfl⟩) fun _ _ _ _ _ z => z
end Toll
open PySem PySem.W PyProof.Rows
set_option maxRecDepth 100000 in
set_option maxHeartbeats 0 in
theorem PySem.Challenge.cw_tollguess_k02_net_deed_by_deed_holds : PySem.Challenge.rw_tollguess_k02_net_deed_by_deed.Holds := by
  w_on; o_law; k_head; (case hw => w_witness2)
  k_fill
  refine Toll.walk (l := PySem.Challenge.rw_tollguess_k02_net_deed_by_deed) rfl rfl (fun w h Y => PySem.W.kIn_of Y) ?F
  case F =>
    intro w mg fa h KX G hmg
    refine' Toll.all_mk KX G hmg ?a_Net ?a_NoName ?a_SameGate ?a_FullNet ?a_NoGate ?a_NoNumber ?a_NoRoad ?a_Already ?a_is_name ?l_is_name ?c_is_name ?k_is_name ?a_N_init ?i_N_init ?l_N_init ?c_N_init ?k_N_init ?a_N_gate ?i_N_gate ?l_N_gate ?c_N_gate ?k_N_gate ?a_N_road ?i_N_road ?l_N_road ?c_N_road ?k_N_road ?a_N_blind ?i_N_blind ?l_N_blind ?c_N_blind ?k_N_blind ?a_N_mend ?i_N_mend ?l_N_mend ?c_N_mend ?k_N_mend ?a_N_close ?i_N_close ?l_N_close ?c_N_close ?k_N_close ?a_N_reopen ?i_N_reopen ?l_N_reopen ?c_N_reopen ?k_N_reopen ?a_N_gates ?i_N_gates ?l_N_gates ?c_N_gates ?k_N_gates ?a_N_roads ?i_N_roads ?l_N_roads ?c_N_roads ?k_N_roads ?a_N_leaving ?i_N_leaving ?l_N_leaving ?c_N_leaving ?k_N_leaving ?a_N_need_gate ?i_N_need_gate ?l_N_need_gate ?c_N_need_gate ?k_N_need_gate ?a_N__turn_gate ?i_N__turn_gate ?l_N__turn_gate ?c_N__turn_gate ?k_N__turn_gate ?a_N__turn_road ?i_N__turn_road ?l_N__turn_road ?c_N__turn_road ?k_N__turn_road ?a_l_cell_at ?l_l_cell_at ?c_l_cell_at ?k_l_cell_at ?a_l_whole ?l_l_whole ?c_l_whole ?k_l_whole ?a_l_mixed ?l_l_mixed ?c_l_mixed ?k_l_mixed ?a_l_name ?l_l_name ?c_l_name ?k_l_name ?a_l_some_number ?l_l_some_number ?c_l_some_number ?k_l_some_number ?a_l_net_deed ?l_l_net_deed ?c_l_net_deed ?k_l_net_deed ?a_l_refusal ?l_l_refusal ?c_l_refusal ?k_l_refusal ?a_l_done ?l_l_done ?c_l_done ?k_l_done ?a_l_tried ?l_l_tried ?c_l_tried ?k_l_tried ?a_l_net_stands ?l_l_net_stands ?c_l_net_stands ?k_l_net_stands ?a_l_kept_well ?l_l_kept_well ?c_l_kept_well ?k_l_kept_well ?a_l_filled ?l_l_filled ?c_l_filled ?k_l_filled ?a_law ?l_law ?c_law ?k_law ?pg_Net ?hd_Net ?po_Net ?sa_Net ?mk_Net ?kc_Net ?na_Net__gates ?na_Net__roads ?xi_NoName ?ke_NoName ?be_NoName ?te_NoName ?he_NoName ?ie_NoName ?xi_SameGate ?ke_SameGate ?be_SameGate ?te_SameGate ?he_SameGate ?ie_SameGate ?xi_FullNet ?ke_FullNet ?be_FullNet ?te_FullNet ?he_FullNet ?ie_FullNet ?xi_NoGate ?ke_NoGate ?be_NoGate ?te_NoGate ?he_NoGate ?ie_NoGate ?xi_NoNumber ?ke_NoNumber ?be_NoNumber ?te_NoNumber ?he_NoNumber ?ie_NoNumber ?xi_NoRoad ?ke_NoRoad ?be_NoRoad ?te_NoRoad ?he_NoRoad ?ie_NoRoad ?xi_Already ?ke_Already ?be_Already ?te_Already ?he_Already ?ie_Already ?v_NoName_NoName ?v_NoName_SameGate ?v_NoName_FullNet ?v_NoName_NoGate ?v_NoName_NoNumber ?v_NoName_NoRoad ?v_NoName_Already ?v_SameGate_NoName ?v_SameGate_SameGate ?v_SameGate_FullNet ?v_SameGate_NoGate ?v_SameGate_NoNumber ?v_SameGate_NoRoad ?v_SameGate_Already ?v_FullNet_NoName ?v_FullNet_SameGate ?v_FullNet_FullNet ?v_FullNet_NoGate ?v_FullNet_NoNumber ?v_FullNet_NoRoad ?v_FullNet_Already ?v_NoGate_NoName ?v_NoGate_SameGate ?v_NoGate_FullNet ?v_NoGate_NoGate ?v_NoGate_NoNumber ?v_NoGate_NoRoad ?v_NoGate_Already ?v_NoNumber_NoName ?v_NoNumber_SameGate ?v_NoNumber_FullNet ?v_NoNumber_NoGate ?v_NoNumber_NoNumber ?v_NoNumber_NoRoad ?v_NoNumber_Already ?v_NoRoad_NoName ?v_NoRoad_SameGate ?v_NoRoad_FullNet ?v_NoRoad_NoGate ?v_NoRoad_NoNumber ?v_NoRoad_NoRoad ?v_NoRoad_Already ?v_Already_NoName ?v_Already_SameGate ?v_Already_FullNet ?v_Already_NoGate ?v_Already_NoNumber ?v_Already_NoRoad ?v_Already_Already ?u_SMALL_SIGNS ?u_MOST_SIGNS ?u_NAME_SIGNS ?u_MOST_GATES ?u_MOST_ROADS ?u_MOST_MINUTES ?u_MOST_TOLL ?z_all ?z_len ?z_list ?z_enumerate ?z_isinstance ?z_int ?z_bool ?z_range ?z_str ?z_max ?z_tuple
    (case a_Net => k_is); (case a_NoName => k_is); (case a_SameGate => k_is); (case a_FullNet => k_is); (case a_NoGate => k_is); (case a_NoNumber => k_is); (case a_NoRoad => k_is); (case a_Already => k_is); (case a_is_name => k_is); (case l_is_name => k_is); (case c_is_name => k_is); (case k_is_name => k_is); (case a_N_init => k_is); (case i_N_init => k_is); (case l_N_init => k_is); (case c_N_init => k_is); (case k_N_init => k_is); (case a_N_gate => k_is); (case i_N_gate => k_is); (case l_N_gate => k_is); (case c_N_gate => k_is); (case k_N_gate => k_is); (case a_N_road => k_is); (case i_N_road => k_is); (case l_N_road => k_is); (case c_N_road => k_is); (case k_N_road => k_is); (case a_N_blind => k_is); (case i_N_blind => k_is); (case l_N_blind => k_is); (case c_N_blind => k_is); (case k_N_blind => k_is); (case a_N_mend => k_is); (case i_N_mend => k_is); (case l_N_mend => k_is); (case c_N_mend => k_is); (case k_N_mend => k_is); (case a_N_close => k_is); (case i_N_close => k_is); (case l_N_close => k_is); (case c_N_close => k_is); (case k_N_close => k_is); (case a_N_reopen => k_is); (case i_N_reopen => k_is); (case l_N_reopen => k_is); (case c_N_reopen => k_is); (case k_N_reopen => k_is); (case a_N_gates => k_is); (case i_N_gates => k_is); (case l_N_gates => k_is); (case c_N_gates => k_is); (case k_N_gates => k_is); (case a_N_roads => k_is); (case i_N_roads => k_is); (case l_N_roads => k_is); (case c_N_roads => k_is); (case k_N_roads => k_is); (case a_N_leaving => k_is); (case i_N_leaving => k_is); (case l_N_leaving => k_is); (case c_N_leaving => k_is); (case k_N_leaving => k_is); (case a_N_need_gate => k_is); (case i_N_need_gate => k_is); (case l_N_need_gate => k_is); (case c_N_need_gate => k_is); (case k_N_need_gate => k_is); (case a_N__turn_gate => k_is); (case i_N__turn_gate => k_is); (case l_N__turn_gate => k_is); (case c_N__turn_gate => k_is); (case k_N__turn_gate => k_is); (case a_N__turn_road => k_is); (case i_N__turn_road => k_is); (case l_N__turn_road => k_is); (case c_N__turn_road => k_is); (case k_N__turn_road => k_is); (case a_l_cell_at => k_is); (case l_l_cell_at => k_is); (case c_l_cell_at => k_is); (case k_l_cell_at => k_is); (case a_l_whole => k_is); (case l_l_whole => k_is); (case c_l_whole => k_is); (case k_l_whole => k_is); (case a_l_mixed => k_is); (case l_l_mixed => k_is); (case c_l_mixed => k_is); (case k_l_mixed => k_is); (case a_l_name => k_is); (case l_l_name => k_is); (case c_l_name => k_is); (case k_l_name => k_is); (case a_l_some_number => k_is); (case l_l_some_number => k_is); (case c_l_some_number => k_is); (case k_l_some_number => k_is); (case a_l_net_deed => k_is); (case l_l_net_deed => k_is); (case c_l_net_deed => k_is); (case k_l_net_deed => k_is); (case a_l_refusal => k_is); (case l_l_refusal => k_is); (case c_l_refusal => k_is); (case k_l_refusal => k_is); (case a_l_done => k_is); (case l_l_done => k_is); (case c_l_done => k_is); (case k_l_done => k_is); (case a_l_tried => k_is); (case l_l_tried => k_is); (case c_l_tried => k_is); (case k_l_tried => k_is); (case a_l_net_stands => k_is); (case l_l_net_stands => k_is); (case c_l_net_stands => k_is); (case k_l_net_stands => k_is); (case a_l_kept_well => k_is); (case l_l_kept_well => k_is); (case c_l_kept_well => k_is); (case k_l_kept_well => k_is); (case a_l_filled => k_is); (case l_l_filled => k_is); (case c_l_filled => k_is); (case k_l_filled => k_is); (case a_law => k_is); (case l_law => k_is); (case c_law => k_is); (case k_law => k_is); (case pg_Net => k_is); (case hd_Net => k_is); (case po_Net => k_is); (case sa_Net => k_is); (case mk_Net => k_is); (case kc_Net => k_is); (case na_Net__gates => k_is); (case na_Net__roads => k_is); (case xi_NoName => k_exc); (case ke_NoName => k_is); (case be_NoName => k_is); (case te_NoName => k_is); (case he_NoName => k_is); (case ie_NoName => k_is); (case xi_SameGate => k_exc); (case ke_SameGate => k_is); (case be_SameGate => k_is); (case te_SameGate => k_is); (case he_SameGate => k_is); (case ie_SameGate => k_is); (case xi_FullNet => k_exc); (case ke_FullNet => k_is); (case be_FullNet => k_is); (case te_FullNet => k_is); (case he_FullNet => k_is); (case ie_FullNet => k_is); (case xi_NoGate => k_exc); (case ke_NoGate => k_is); (case be_NoGate => k_is); (case te_NoGate => k_is); (case he_NoGate => k_is); (case ie_NoGate => k_is); (case xi_NoNumber => k_exc); (case ke_NoNumber => k_is); (case be_NoNumber => k_is); (case te_NoNumber => k_is); (case he_NoNumber => k_is); (case ie_NoNumber => k_is); (case xi_NoRoad => k_exc); (case ke_NoRoad => k_is); (case be_NoRoad => k_is); (case te_NoRoad => k_is); (case he_NoRoad => k_is); (case ie_NoRoad => k_is); (case xi_Already => k_exc); (case ke_Already => k_is); (case be_Already => k_is); (case te_Already => k_is); (case he_Already => k_is); (case ie_Already => k_is); (case v_NoName_NoName => k_is); (case v_NoName_SameGate => k_is); (case v_NoName_FullNet => k_is); (case v_NoName_NoGate => k_is); (case v_NoName_NoNumber => k_is); (case v_NoName_NoRoad => k_is); (case v_NoName_Already => k_is); (case v_SameGate_NoName => k_is); (case v_SameGate_SameGate => k_is); (case v_SameGate_FullNet => k_is); (case v_SameGate_NoGate => k_is); (case v_SameGate_NoNumber => k_is); (case v_SameGate_NoRoad => k_is); (case v_SameGate_Already => k_is); (case v_FullNet_NoName => k_is); (case v_FullNet_SameGate => k_is); (case v_FullNet_FullNet => k_is); (case v_FullNet_NoGate => k_is); (case v_FullNet_NoNumber => k_is); (case v_FullNet_NoRoad => k_is); (case v_FullNet_Already => k_is); (case v_NoGate_NoName => k_is); (case v_NoGate_SameGate => k_is); (case v_NoGate_FullNet => k_is); (case v_NoGate_NoGate => k_is); (case v_NoGate_NoNumber => k_is); (case v_NoGate_NoRoad => k_is); (case v_NoGate_Already => k_is); (case v_NoNumber_NoName => k_is); (case v_NoNumber_SameGate => k_is); (case v_NoNumber_FullNet => k_is); (case v_NoNumber_NoGate => k_is); (case v_NoNumber_NoNumber => k_is); (case v_NoNumber_NoRoad => k_is); (case v_NoNumber_Already => k_is); (case v_NoRoad_NoName => k_is); (case v_NoRoad_SameGate => k_is); (case v_NoRoad_FullNet => k_is); (case v_NoRoad_NoGate => k_is); (case v_NoRoad_NoNumber => k_is); (case v_NoRoad_NoRoad => k_is); (case v_NoRoad_Already => k_is); (case v_Already_NoName => k_is); (case v_Already_SameGate => k_is); (case v_Already_FullNet => k_is); (case v_Already_NoGate => k_is); (case v_Already_NoNumber => k_is); (case v_Already_NoRoad => k_is); (case v_Already_Already => k_is); (case u_SMALL_SIGNS => k_is); (case u_MOST_SIGNS => k_is); (case u_NAME_SIGNS => k_is); (case u_MOST_GATES => k_is); (case u_MOST_ROADS => k_is); (case u_MOST_MINUTES => k_is); (case u_MOST_TOLL => k_is); (case z_all => k_is); (case z_len => k_is); (case z_list => k_is); (case z_enumerate => k_is); (case z_isinstance => k_is); (case z_int => k_is); (case z_bool => k_is); (case z_range => k_is); (case z_str => k_is); (case z_max => k_is); (case z_tuple => k_is)
