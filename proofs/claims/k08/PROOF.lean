import PyProof.Rows.All
import Wide.All
import OpenK.AllK
import Wide.FinOn
import HandS.ForMost
import HandS.IsInst
import HandS.Walk
import HandS.Evl
import HandS.Codes
import HandS.Steps
import HandS.FStr
import HandS.RaiseMore
import HandS.ListItems
import HandS.ForExc
import HandS.TryMany
import HandS.ExcIs
import HandS.Style
import KE.LtData
import HandS.Gcd
import KE.DataCmp
import HandS.SetKeys
import HandS.TupAny
import KE.SortData
import HandS.Conv
import HandS.SortRule
import HandS.HotCalls
import HandS.SetFor
import PyProof.Rows.CountFlat
import HandS.Text
import PyProof.Rows.SortStr
import HandS.More
import HandS.Strs
import PySem.Challenge.RW_tollguess_k08_askings_refused
set_option Elab.async false
set_option maxRecDepth 100000
set_option maxHeartbeats 4000000
namespace Toll
open PySem L2
def DefOk (P : Program) (w : World) (K : PySem.W.Frag) (mg : Str → Option Value) (base : Heap) (CX : CXT) (k : Nat) (f : Addr) (ps : List Str) (sp : Sp) : Prop :=
  ∃ fd : FuncData, FnOk P w K mg base CX k f fd ps sp ∧ Binds K fd ps [] ∧ PySem.W.keepIn K (.ref f) = true
/-- an own error class over ValueError, without an __init__ -/
structure ErrC (K : PySem.W.Frag) (mg : Str → Option Value) (n : Str) (C : Addr) : Prop where
  g : mg n = some (.ref C)
  x : PySem.W.excIn K C [.type "ValueError", .type "Exception", .type "BaseException", .type "object"] "ValueError.__new__" = true
  k : PySem.W.keepIn K (.ref C) = true
  b : PySem.W.subIn K (.ref C) (.type "BaseException") = some true
  t : PySem.W.typeIn K (.ref C) = some (.type "type")
  h : PySem.W.hasDictIn K C = true
  i : PySem.W.isClsIn K C = true
theorem same_new {H H' : Hp} {p : Addr} {o : HO} (s : Same H H') (h : H p = none) : Same H (upd H' p o) := fun b u e => by
  rw [upd_ne (ne_of_none e h)]
  exact s b u e
theorem same_up {H : Hp} {p : Addr} {o : HO} (h : H p = none) : Same H (upd H p o) := same_new (Same.refl H) h
/-! ### the script's cells -/
def cellAt (ns : List Int) (k : Int) : Int := if k < (ns.length : Int) then ns.getD k.toNat 0 else 0
theorem map_int_get {ns : List Int} {i : Nat} (h : i < ns.length) : (ns.map V.int)[i]? = some (V.int (ns.getD i 0)) := by
  rw [List.getElem?_map, List.getElem?_eq_getElem h, List.getD_eq_getElem?_getD, List.getElem?_eq_getElem h]
  rfl
def mixCell (ns : List Int) (k : Int) : Int := if 0 < ns.length then ns.getD (k % (ns.length : Int)).toNat 0 else 0
@[irreducible] def mixed (ns : List Int) (k : Int) : Int :=
  let m := (mixCell ns k + 7919 * k) * 48271 % 2147483647
  (m * m + 16807 * m) % 2147483629
theorem mixed_def (ns : List Int) (k : Int) : mixed ns k = ((mixCell ns k + 7919 * k) * 48271 % 2147483647 * ((mixCell ns k + 7919 * k) * 48271 % 2147483647) + 16807 * ((mixCell ns k + 7919 * k) * 48271 % 2147483647)) % 2147483629 := by unfold mixed; rfl
theorem mixed_pos (ns : List Int) (k : Int) : 0 ≤ mixed ns k ∧ mixed ns k < 2147483629 :=
  by rw [mixed_def]; exact ⟨Int.emod_nonneg _ (by decide), Int.emod_lt_of_pos _ (by decide)⟩
/-! ### texts -/
def sx (cs : List Nat) : Str := ⟨cs.toArray⟩
theorem sx_len (cs : List Nat) : (sx cs).length = cs.length := by
  show cs.toArray.size = _
  simp
theorem sx_tl (cs : List Nat) : (sx cs).cps.toList = cs := by simp [sx]
theorem sx_inj {a b : List Nat} (h : sx a = sx b) : a = b := by
  have := congrArg (fun x : Str => x.cps.toList) h
  simpa [sx_tl] using this
theorem sx_app (a b : List Nat) : sx a ++ sx b = sx (a ++ b) := by
  show (⟨a.toArray ++ b.toArray⟩ : Str) = ⟨(a ++ b).toArray⟩
  simp
theorem sx_of (z : Str) : sx z.cps.toList = z := by
  cases z; simp [sx]
theorem joinL_len : ∀ l : List (List Nat), (TL.joinL [] l).length = (l.map List.length).sum
  | [] => rfl
  | [p] => by simp [TL.joinL]
  | p :: q :: r => by
    have ih := joinL_len (q :: r)
    rw [TL.joinL, List.length_append, List.length_append, ih]
    simp
theorem joinL_ones : ∀ cs : List Nat, TL.joinL [] (cs.map fun c => [c]) = cs
  | [] => rfl
  | [p] => rfl
  | p :: q :: r => by
    have ih := joinL_ones (q :: r)
    rw [List.map_cons] at ih
    rw [List.map_cons, List.map_cons, TL.joinL, ih]
    rfl
def one (c : Nat) : Str := ⟨#[c]⟩
theorem join_ones (cs : List Nat) : PySem.Txt.join (Str.ofString "") (cs.map one) = sx cs := by
  rw [TL.join_eq]
  have h : TL.tl (Str.join (Str.ofString "") (cs.map one)) = cs := by
    rw [TL.tl_join, List.map_map]
    exact joinL_ones cs
  rw [← sx_of (Str.join (Str.ofString "") (cs.map one))]
  exact congrArg sx h
theorem sum_ones (cs : List Nat) : ((cs.map one).map (·.length)).sum = cs.length := by
  induction cs with
  | nil => rfl
  | cons c cs ih =>
    rw [List.map_cons, List.map_cons, List.sum_cons, ih]
    show 1 + _ = _
    simp; omega
theorem ix_mod (z : Str) (n : Int) {L : Nat} (hL : z.cps.toList.length = L) (h0 : 0 < L) : atI z.cps.toList (n % (L : Int)) = some (z.cps.toList.getD (n % (L : Int)).toNat 0) := by
  have h1 := Int.emod_nonneg n (b := (L : Int)) (by omega)
  have h2 := Int.emod_lt_of_pos n (b := (L : Int)) (by omega)
  have h3 : (n % (L : Int)).toNat < z.cps.toList.length := by omega
  refine Eq.trans (congrArg _ (Int.toNat_of_nonneg h1).symm) (atI_nat ?_)
  rw [List.getD_eq_getElem?_getD, List.getElem?_eq_getElem h3]
  rfl
theorem ix_le (z : Str) (n : Int) (h1 : 0 ≤ n) (h2 : n < (z.cps.toList.length : Int)) : atI z.cps.toList n = some (z.cps.toList.getD n.toNat 0) := by
  have h3 : n.toNat < z.cps.toList.length := by omega
  refine Eq.trans (congrArg _ (Int.toNat_of_nonneg h1).symm) (atI_nat ?_)
  rw [List.getD_eq_getElem?_getD, List.getElem?_eq_getElem h3]
  rfl
theorem ixN_of {n : Nat} {i : Int} {j : Nat} (e : i = (j : Int)) (h : j < n) : ixN n i = some j := by
  subst e
  unfold ixN
  rw [if_pos (by omega), if_pos (by omega), Int.toNat_natCast]
theorem log_small {i : Int} (h0 : -1000000000 ≤ i) (h1 : i ≤ 1000000000) : i.natAbs.log2 < 1920 := by
  by_cases h : i.natAbs = 0
  · rw [h]; decide
  · refine Nat.lt_of_lt_of_le ((Nat.log2_lt h).mpr (show i.natAbs < 2 ^ 30 by omega)) (by decide)
theorem seq_if {c : TT} {t1 t2 r : TS} {D : Ends} {σ : L2.St} {H : Hp} (b : Bool) (hc : Ans c σ H b) (hT : b = true → t1 { D with nx := r D } σ H) (hF : b = false → t2 { D with nx := r D } σ H) : tSeq (tIfS c t1 t2) r D σ H := by
  refine hc _ ?_
  cases b with
  | true => exact hT rfl
  | false => exact hF rfl
theorem seq_if1 {c : TT} {t1 r : TS} {D : Ends} {σ : L2.St} {H : Hp} (b : Bool) (hc : Ans c σ H b) (hT : b = true → t1 { D with nx := r D } σ H) (hF : b = false → r D σ H) : tSeq (tIfS c t1 tNext) r D σ H := by
  refine hc _ ?_
  cases b with
  | true => exact hT rfl
  | false => exact hF rfl
theorem do_if1 {c : TT} {t1 : TS} {D : Ends} {σ : L2.St} {H : Hp} (b : Bool) (hc : Ans c σ H b) (hT : b = true → t1 D σ H) (hF : b = false → D.nx σ H) : tIfS c t1 tNext D σ H := by
  refine hc _ ?_
  cases b with
  | true => exact hT rfl
  | false => exact hF rfl
theorem do_if {c : TT} {t1 t2 : TS} {D : Ends} {σ : L2.St} {H : Hp} (b : Bool) (hc : Ans c σ H b) (hT : b = true → t1 D σ H) (hF : b = false → t2 D σ H) : tIfS c t1 t2 D σ H := by
  refine hc _ ?_
  cases b with
  | true => exact hT rfl
  | false => exact hF rfl
theorem an_or {t u : TT} {σ : L2.St} {H : Hp} {a b : Bool} (h1 : Ans t σ H a) (h2 : a = false → Ans u σ H b) : Ans (tOr t u) σ H (a || b) := fun Q q => by
  refine h1 _ ?_
  cases a with
  | true => exact q
  | false => exact h2 rfl _ q
theorem an_and {t u : TT} {σ : L2.St} {H : Hp} {a b : Bool} (h1 : Ans t σ H a) (h2 : a = true → Ans u σ H b) : Ans (tAnd t u) σ H (a && b) := fun Q q => by
  refine h1 _ ?_
  cases a with
  | true => exact h2 rfl _ q
  | false => exact q
theorem dec_int {i j : Int} : decide (V.int i = V.int j) = decide (i = j) := decide_eq_decide.mpr ⟨fun h => by injection h, fun h => by rw [h]⟩
theorem dec_str {i j : Str} : decide (V.str i = V.str j) = decide (i = j) := decide_eq_decide.mpr ⟨fun h => by injection h, fun h => by rw [h]⟩
theorem dec_bl {i j : Bool} : decide (V.bl i = V.bl j) = decide (i = j) := decide_eq_decide.mpr ⟨fun h => by injection h, fun h => by rw [h]⟩
theorem or_test {t u : TT} {σ : L2.St} {H : Hp} {Q : Bool → Hp → Prop} (a b : Bool) (h1 : ∀ Q' : Bool → Hp → Prop, Q' a H → t σ H Q') (h2 : a = false → ∀ Q' : Bool → Hp → Prop, Q' b H → u σ H Q') (h : Q (a || b) H) : tOr t u σ H Q := by
  refine h1 _ ?_
  cases a with
  | true => exact h
  | false => exact h2 rfl _ h
theorem and_test {t u : TT} {σ : L2.St} {H : Hp} {Q : Bool → Hp → Prop} (a b : Bool) (h1 : ∀ Q' : Bool → Hp → Prop, Q' a H → t σ H Q') (h2 : a = true → ∀ Q' : Bool → Hp → Prop, Q' b H → u σ H Q') (h : Q (a && b) H) : tAnd t u σ H Q := by
  refine h1 _ ?_
  cases a with
  | true => exact h2 rfl _ h
  | false => exact h
theorem atI_of {α : Type} {xs : List α} {z : Int} {j : Nat} {v : α} (e : z = (j : Int)) (h : xs[j]? = some v) : atI xs z = some v := by
  rw [e]
  exact atI_nat h
theorem cut_to (xs : List V) {n : Int} (h : 0 ≤ n) : cutV xs none (some n) = xs.take n.toNat := by
  unfold cutV
  obtain ⟨k, rfl⟩ := Int.eq_ofNat_of_zero_le h
  rw [HT.sIx_nat, HT.sIx_none, Nat.sub_zero, List.drop_zero, Int.toNat_natCast, List.take_eq_take_iff]
  omega
theorem cut_from (xs : List V) {n : Int} (h : 0 ≤ n) : cutV xs (some n) none = xs.drop n.toNat := by
  unfold cutV
  obtain ⟨k, rfl⟩ := Int.eq_ofNat_of_zero_le h
  rw [HT.sIx_nat, HT.sIx_none, Int.toNat_natCast]
  by_cases hk : k ≤ xs.length
  · rw [Nat.min_eq_left hk, List.take_of_length_le (by simp)]
  · rw [Nat.min_eq_right (by omega)]
    simp
    omega
/-! ### names -/
@[irreducible] def someS : Str := "abcdefghijklmnopqrstuvwxyz0123456789"
theorem someS_def : someS = ("abcdefghijklmnopqrstuvwxyz0123456789" : Str) := by unfold someS; rfl
theorem someS_len : someS.cps.toList.length = 36 := by unfold someS; decide +kernel
@[irreducible] def sgn (i : Int) : Nat := someS.cps.toList.getD i.toNat 0
theorem sgn_def (i : Int) : sgn i = someS.cps.toList.getD i.toNat 0 := by unfold sgn; rfl
theorem ix36 (n : Int) : atI someS.cps.toList (n % 36) = some (sgn (n % 36)) := by
  rw [sgn_def]
  exact ix_mod someS n (L := 36) someS_len (by decide)
theorem ix26 (n : Int) : atI someS.cps.toList (n % 26) = some (sgn (n % 26)) := by
  rw [sgn_def]
  exact ix_le someS (n % 26) (by omega) (by have := someS_len; omega)
@[irreducible] def sg0 (b : Int) : List Nat := (List.range 8).map fun (k : Nat) => sgn ((b / 64 + 7 * (k : Int) + b / 99991 * (k : Int)) % 36)
theorem sg0_def (b : Int) : sg0 b = (List.range 8).map fun (k : Nat) => sgn ((b / 64 + 7 * (k : Int) + b / 99991 * (k : Int)) % 36) := by unfold sg0; rfl
@[irreducible] def sg (b : Int) : List Nat := (sg0 b).set 0 (sgn (b / 64 % 26))
theorem sg_def (b : Int) : sg b = (sg0 b).set 0 (sgn (b / 64 % 26)) := by unfold sg; rfl
@[irreducible] def digs (t : Int) : List Nat := TL.numL t.toNat
theorem digs_def (t : Int) : digs t = TL.numL t.toNat := by unfold digs; rfl
theorem digs_sx {t : Int} (h : 0 ≤ t) : Str.ofString (toString t) = sx (digs t) := by
  obtain ⟨n, rfl⟩ := Int.eq_ofNat_of_zero_le h
  rw [digs_def, Int.toNat_natCast]
  exact SX.num_S n
theorem digs_len {t : Int} (h1 : t ≤ 1000) : (digs t).length ≤ 4 := by
  rw [digs_def]
  exact TL.numL_len (by decide) (by omega)
def nameL (b t : Int) : List Nat :=
  if b % 3 = 0 ∧ t < 8 then (sg b).take (1 + t).toNat
  else if b % 3 < 2 ∨ 25 < t then (sg b).take (1 + b / 3 % 5).toNat ++ digs t
  else ((sg b).set (b / 24 % (1 + b / 3 % 8)).toNat (sgn ((b / 2311 + t) % (if b / 24 % (1 + b / 3 % 8) = 0 then 26 else 36)))).take (1 + b / 3 % 8).toNat
@[irreducible] def nameOf (b t : Int) : Str := sx (nameL b t)
theorem nameOf_def (b t : Int) : nameOf b t = sx (nameL b t) := by unfold nameOf; rfl
theorem sg0_len (b : Int) : (sg0 b).length = 8 := by simp [sg0_def]
theorem sg_len (b : Int) : (sg b).length = 8 := by simp [sg_def, sg0_len]
/-- the list of the signs of a text, as it stands in a list of texts -/
def onesV (cs : List Nat) : List V := (cs.map one).map V.str
theorem onesV_len (cs : List Nat) : (onesV cs).length = cs.length := by simp [onesV]
theorem onesV_take (cs : List Nat) (n : Nat) : (onesV cs).take n = onesV (cs.take n) := by simp [onesV, List.map_take]
theorem onesV_set (cs : List Nat) (n c : Nat) : (onesV cs).set n (V.str ⟨#[c]⟩) = onesV (cs.set n c) := by
  unfold onesV
  rw [List.map_set, List.map_set]
  rfl
theorem sgn_lt (i : Int) : sgn i < 128 := by
  have h : someS.cps.toList.all (fun c => decide (c < 128)) = true := by unfold someS; decide +kernel
  rw [sgn_def, List.getD_eq_getElem?_getD]
  cases e : someS.cps.toList[i.toNat]? with
  | none => decide
  | some c => exact of_decide_eq_true (List.all_eq_true.mp h c (List.mem_of_getElem? e))
theorem sg_lt (b : Int) : ∀ c ∈ sg b, c < 128 := by
  intro c hc
  rw [sg_def] at hc
  rcases List.mem_or_eq_of_mem_set hc with h | h
  · rw [sg0_def] at h
    obtain ⟨k, _, rfl⟩ := List.mem_map.mp h
    exact sgn_lt _
  · rw [h]
    exact sgn_lt _
theorem digs_lt (t : Int) : ∀ c ∈ digs t, c < 128 := by
  intro c hc
  rw [digs_def] at hc
  have := TL.numL_digits _ c hc
  omega
theorem nameL_lt (b t : Int) : ∀ c ∈ nameL b t, c < 128 := by
  intro c hc
  unfold nameL at hc
  split at hc
  · exact sg_lt b c (List.mem_of_mem_take hc)
  · split at hc
    · rcases List.mem_append.mp hc with h | h
      · exact sg_lt b c (List.mem_of_mem_take h)
      · exact digs_lt t c h
    · rcases List.mem_or_eq_of_mem_set (List.mem_of_mem_take hc) with h | h
      · exact sg_lt b c h
      · rw [h]
        exact sgn_lt _
theorem nameOf_ok (b t : Int) : PyData.strOk (nameOf b t) = true := by
  rw [nameOf_def]
  show (nameL b t).toArray.all (· < 0x110000) = true
  rw [List.all_toArray, List.all_eq_true]
  intro c hc
  exact decide_eq_true (Nat.lt_trans (nameL_lt b t c hc) (by decide))
/-! ### what a name is -/
def smallC (c : Nat) : Bool := decide (97 ≤ c) && decide (c ≤ 122)
def signC (c : Nat) : Bool := smallC c || (decide (48 ≤ c) && decide (c ≤ 57))
def isName (cs : List Nat) : Bool := decide (0 < cs.length) && decide (cs.length ≤ 8) && smallC (cs.getD 0 0) && cs.all signC
theorem mem_small {z : Str} (h : z.cps.toList = List.range' 97 26) (c : Nat) : decide (c ∈ z.cps.toList) = smallC c := by
  rw [h]
  unfold smallC
  by_cases q : 97 ≤ c ∧ c ≤ 122
  · rw [decide_eq_true (List.mem_range'_1.mpr ⟨q.1, by omega⟩), decide_eq_true q.1, decide_eq_true q.2]
    rfl
  · rw [decide_eq_false (fun m => q (by have := List.mem_range'_1.mp m; omega))]
    by_cases q1 : 97 ≤ c
    · rw [decide_eq_true q1, decide_eq_false (fun q2 => q ⟨q1, q2⟩)]
      rfl
    · rw [decide_eq_false q1]
      rfl
theorem mem_sign {z : Str} (h : z.cps.toList = List.range' 97 26 ++ List.range' 48 10) (c : Nat) : decide (c ∈ z.cps.toList) = signC c := by
  have e : (c ∈ z.cps.toList) ↔ (97 ≤ c ∧ c ≤ 122) ∨ (48 ≤ c ∧ c ≤ 57) := by
    rw [h, List.mem_append, List.mem_range'_1, List.mem_range'_1]
    omega
  have e2 : decide (c ∈ z.cps.toList) = decide ((97 ≤ c ∧ c ≤ 122) ∨ (48 ≤ c ∧ c ≤ 57)) := decide_eq_decide.mpr e
  rw [e2]
  unfold signC smallC
  by_cases q1 : 97 ≤ c <;> by_cases q2 : c ≤ 122 <;> by_cases q3 : 48 ≤ c <;> by_cases q4 : c ≤ 57 <;> simp [q1, q2, q3, q4]
theorem someS_range : someS.cps.toList = List.range' 97 26 ++ List.range' 48 10 := by unfold someS; decide +kernel
theorem sgn_small {i : Int} (h0 : 0 ≤ i) (h1 : i < 26) : smallC (sgn i) = true := by
  rw [sgn_def, someS_range, List.getD_eq_getElem?_getD, List.getElem?_append_left (by simp; omega), List.getElem?_range' (by omega)]
  unfold smallC
  simp
  omega
theorem sgn_sign (i : Int) (h0 : 0 ≤ i) (h1 : i < 36) : signC (sgn i) = true := by
  by_cases h : i < 26
  · unfold signC
    rw [sgn_small h0 h]
    rfl
  · rw [sgn_def, someS_range, List.getD_eq_getElem?_getD, List.getElem?_append_right (by simp; omega), List.length_range', List.getElem?_range' (by omega)]
    unfold signC
    simp
    omega
theorem small_sign {c : Nat} (h : smallC c = true) : signC c = true := by
  unfold signC
  rw [h]
  rfl
theorem sg_sign (b : Int) : ∀ c ∈ sg b, signC c = true := by
  intro c hc
  rw [sg_def] at hc
  rcases List.mem_or_eq_of_mem_set hc with h | h
  · rw [sg0_def] at h
    obtain ⟨k, _, rfl⟩ := List.mem_map.mp h
    exact sgn_sign _ (by omega) (by omega)
  · rw [h]
    exact small_sign (sgn_small (by omega) (by omega))
theorem sg_head (b : Int) : ∃ c cs, sg b = c :: cs ∧ smallC c = true := by
  have hl := sg0_len b
  rw [sg_def]
  cases e : sg0 b with
  | nil => rw [e] at hl; cases hl
  | cons c cs => exact ⟨_, cs, rfl, sgn_small (by omega) (by omega)⟩
theorem digs_sign (t : Int) : ∀ c ∈ digs t, signC c = true := by
  intro c hc
  rw [digs_def] at hc
  have := TL.numL_digits _ c hc
  unfold signC
  simp
  omega
theorem isName_of {c : Nat} {cs : List Nat} (h1 : smallC c = true) (h2 : ∀ x ∈ cs, signC x = true) (h3 : cs.length ≤ 7) : isName (c :: cs) = true := by
  unfold isName
  rw [decide_eq_true (show 0 < (c :: cs).length by simp), decide_eq_true (show (c :: cs).length ≤ 8 by simp; omega), show (c :: cs).getD 0 0 = c from rfl, h1, List.all_cons, small_sign h1]
  simp only [Bool.true_and]
  exact List.all_eq_true.mpr h2
theorem isName_nameL {b t : Int} (h0 : 0 ≤ t) (h1 : t ≤ 999) : isName (nameL b t) = true := by
  obtain ⟨c, cs, e, hc⟩ := sg_head b
  have hl := sg_len b
  rw [e] at hl
  have hs : ∀ x ∈ cs, signC x = true := fun x hx => sg_sign b x (by rw [e]; exact List.mem_cons_of_mem _ hx)
  have hcl : cs.length = 7 := by simpa using hl
  unfold nameL
  split
  · rename_i h
    obtain ⟨n, hn⟩ : ∃ n : Nat, (1 + t).toNat = n + 1 := ⟨t.toNat, by omega⟩
    rw [hn, e, List.take_succ_cons]
    exact isName_of hc (fun x hx => hs x (List.mem_of_mem_take hx)) (by rw [List.length_take]; omega)
  · split
    · obtain ⟨n, hn, hn4⟩ : ∃ n : Nat, (1 + b / 3 % 5).toNat = n + 1 ∧ n ≤ 4 := ⟨(b / 3 % 5).toNat, by omega, by omega⟩
      rw [hn, e, List.take_succ_cons, List.cons_append]
      refine isName_of hc (fun x hx => ?_) ?_
      · rcases List.mem_append.mp hx with h | h
        · exact hs x (List.mem_of_mem_take h)
        · exact digs_sign t x h
      · have : (digs t).length ≤ 3 := by
          rw [digs_def]
          exact TL.numL_len (by decide) (by omega)
        rw [List.length_append, List.length_take]
        omega
    · obtain ⟨n, hn, hn4⟩ : ∃ n : Nat, (1 + b / 3 % 8).toNat = n + 1 ∧ n ≤ 7 := ⟨(b / 3 % 8).toNat, by omega, by omega⟩
      have a0 := Int.emod_nonneg (b / 24) (b := 1 + b / 3 % 8) (by omega)
      rw [hn, e]
      by_cases ha : b / 24 % (1 + b / 3 % 8) = 0
      · rw [ha, if_pos rfl]
        show isName ((_ :: cs).take (n + 1)) = true
        rw [List.take_succ_cons]
        exact isName_of (sgn_small (by omega) (by omega)) (fun x hx => hs x (List.mem_of_mem_take hx)) (by rw [List.length_take]; omega)
      · rw [if_neg ha]
        obtain ⟨m, hm⟩ : ∃ m : Nat, (b / 24 % (1 + b / 3 % 8)).toNat = m + 1 := ⟨(b / 24 % (1 + b / 3 % 8)).toNat - 1, by omega⟩
        rw [hm, List.set_cons_succ, List.take_succ_cons]
        refine isName_of hc (fun x hx => ?_) (by rw [List.length_take, List.length_set]; omega)
        rcases List.mem_or_eq_of_mem_set (List.mem_of_mem_take hx) with h | h
        · exact hs x h
        · rw [h]
          exact sgn_sign _ (by omega) (by omega)
theorem isName_nameOf {b t : Int} (h0 : 0 ≤ t) (h1 : t ≤ 999) : isName (nameOf b t).cps.toList = true := by
  rw [nameOf_def, sx_tl]
  exact isName_nameL h0 h1
theorem nameOf_len {b t : Int} (h0 : 0 ≤ t) (h1 : t ≤ 999) : (nameOf b t).length ≤ 8 := by
  have h := isName_nameOf (b := b) h0 h1
  unfold isName at h
  simp only [Bool.and_eq_true, decide_eq_true_eq] at h
  exact h.1.1.2
end Toll

set_option Elab.async false
set_option maxRecDepth 100000
set_option maxHeartbeats 4000000
namespace Toll
open PySem L2
/-! ### data for == -/
def okD (k : Nat) (d : PyData) : Prop := d.canLay0 = true ∧ d.depth ≤ k
theorem okD_all {k : Nat} : ∀ {ds : List PyData}, (∀ d ∈ ds, okD k d) → PyData.canLayAll0 ds = true ∧ PyData.depthAll ds ≤ k
  | [], _ => ⟨by simp [PyData.canLayAll0], by simp [PyData.depthAll]⟩
  | d :: ds, h => by
    have ih := okD_all (ds := ds) fun x hx => h x (List.mem_cons_of_mem _ hx)
    have h1 := h d (List.mem_cons_self ..)
    refine ⟨by simp [PyData.canLayAll0, h1.1, ih.1], ?_⟩
    simp only [PyData.depthAll]
    have := h1.2
    have := ih.2
    omega
theorem okD_list {k : Nat} {ds : List PyData} (h : ∀ d ∈ ds, okD k d) : okD (k + 1) (.list ds) := by
  have := okD_all h
  refine ⟨by simp only [PyData.canLay0]; exact this.1, ?_⟩
  simp only [PyData.depth]
  omega
theorem okD_tup {k : Nat} {ds : List PyData} (h : ∀ d ∈ ds, okD k d) : okD (k + 1) (.tuple ds) := by
  have := okD_all h
  refine ⟨by simp only [PyData.canLay0]; exact this.1, ?_⟩
  simp only [PyData.depth]
  omega
theorem okD_int (i : Int) : okD 0 (.int i) := ⟨by simp [PyData.canLay0], by simp [PyData.depth]⟩
theorem okD_bool (i : Bool) : okD 0 (.bool i) := ⟨by simp [PyData.canLay0], by simp [PyData.depth]⟩
theorem okD_str {x : Str} (h : PyData.strOk x = true) : okD 0 (.str x) := ⟨by simp [PyData.canLay0, h], by simp [PyData.depth]⟩
theorem okD.shaped {k : Nat} {d : PyData} (h : okD k d) (hk : k ≤ 64) : SeqAt.shaped d = true := by
  show (d.canLay0 && decide (d.depth ≤ 64)) = true
  rw [Bool.and_eq_true]
  exact ⟨h.1, decide_eq_true (by have := h.2; omega)⟩
theorem okD.refl {k : Nat} {d : PyData} (h : okD k d) : PyData.eqv d d = true := SeqAt.eqv_refl d h.1
/-! ### lists of ints -/
def intsD (ns : List Int) : PyData := .list (ns.map PyData.int)
theorem intsD_ok (ns : List Int) : okD 1 (intsD ns) := okD_list fun d hd => by
  obtain ⟨i, _, rfl⟩ := List.mem_map.mp hd
  exact okD_int i
theorem dpAll_ints {K : PySem.W.Frag} {H : Hp} : ∀ ns : List Int, DpAll K H (ns.map V.int) (ns.map PyData.int)
  | [] => .nil
  | n :: ns => .cons (.int n) (dpAll_ints ns)
theorem dp_ints {K : PySem.W.Frag} {H : Hp} {a : Addr} {ns : List Int} (h : SqL K H a (ns.map V.int)) : Dp K H (.ref a) (intsD ns) := .lst h (dpAll_ints ns)
/-! ### a while by a number that falls -/
theorem while_m {c : TT} {tb : TS} {D : Ends} {σ : L2.St} {H : Hp} (W : Nat → L2.St → Hp → Prop) (m : Nat) (h0 : W m σ H)
    (hs : ∀ m σ H, W m σ H → ∃ b, Ans c σ H b ∧ (b = true → tb { D with nx := fun σ' H' => ∃ m', m' < m ∧ W m' σ' H', ct := fun σ' H' => ∃ m', m' < m ∧ W m' σ' H', bk := D.nx } σ H) ∧ (b = false → D.nx σ H)) : tWhile c tb D σ H := by
  refine ⟨W, ⟨m, h0⟩, fun m σ H w => ?_⟩
  obtain ⟨b, ha, hT, hF⟩ := hs m σ H w
  refine ha _ ?_
  cases b with
  | true => exact ⟨_, fun _ _ q => q, hT rfl⟩
  | false => exact hF rfl
theorem seq_while {c : TT} {tb r : TS} {D : Ends} {σ : L2.St} {H : Hp} (W : Nat → L2.St → Hp → Prop) (m : Nat) (h0 : W m σ H)
    (hs : ∀ m σ H, W m σ H → ∃ b, Ans c σ H b ∧ (b = true → tb { D with nx := fun σ' H' => ∃ m', m' < m ∧ W m' σ' H', ct := fun σ' H' => ∃ m', m' < m ∧ W m' σ' H', bk := r D } σ H) ∧ (b = false → r D σ H)) : tSeq (tWhile c tb) r D σ H :=
  while_m (D := { D with nx := r D }) W m h0 hs
/-! ### rows -/
structure Row where
  nm : Str
  mi : Int
  tl : Int
  rd : Int
  bk : Int
def rowVs (r : Row) : List V := [.str r.nm, .int r.mi, .int r.tl, .int r.rd, .int r.bk]
def RowV (H : Hp) (v : V) (r : Row) : Prop := ∃ t, v = .ref t ∧ H t = some (.tup (rowVs r))
theorem RowV.same {H H' : Hp} {v : V} {r : Row} (s : Same H H') (h : RowV H v r) : RowV H' v r := by
  obtain ⟨t, e, h⟩ := h
  exact ⟨t, e, s _ _ h⟩
theorem rows_same {H H' : Hp} {us : List V} {rows : List Row} (s : Same H H') (h : Paired (RowV H) us rows) : Paired (RowV H') us rows := L2.Paired.mapP h fun _ _ h => RowV.same s h
theorem paired_len {α β : Type} {F : α → β → Prop} : ∀ {l : List α} {m : List β}, Paired F l m → l.length = m.length
  | _, _, .nil => rfl
  | _, _, .cons _ t => by simp [paired_len t]
theorem paired_get {α β : Type} {F : α → β → Prop} : ∀ {l : List α} {m : List β} {i : Nat} {y : β}, Paired F l m → m[i]? = some y → ∃ x, l[i]? = some x ∧ F x y
  | _, _, _, _, .nil, e => by simp at e
  | _, _, 0, _, .cons r _, e => by simp at e; subst e; exact ⟨_, rfl, r⟩
  | _, _, i + 1, y, .cons _ t, e => by
    obtain ⟨x, h1, h2⟩ := paired_get (i := i) (y := y) t (by simpa using e)
    exact ⟨x, by simpa using h1, h2⟩
theorem paired_getL {α β : Type} {F : α → β → Prop} : ∀ {l : List α} {m : List β} {i : Nat} {x : α}, Paired F l m → l[i]? = some x → ∃ y, m[i]? = some y ∧ F x y
  | _, _, _, _, .nil, e => by simp at e
  | _, _, 0, _, .cons r _, e => by simp at e; subst e; exact ⟨_, rfl, r⟩
  | _, _, i + 1, y, .cons _ t, e => by
    obtain ⟨x, h1, h2⟩ := paired_getL (i := i) (x := y) t (by simpa using e)
    exact ⟨x, by simpa using h1, h2⟩
theorem paired_take {α β : Type} {F : α → β → Prop} : ∀ {l : List α} {m : List β} (n : Nat), Paired F l m → Paired F (l.take n) (m.take n)
  | _, _, 0, _ => .nil
  | _, _, _ + 1, .nil => .nil
  | _, _, n + 1, .cons r t => .cons r (paired_take n t)
theorem rows_upd {H : Hp} {L : Addr} {xs : List V} {o : HO} {us : List V} {rows : List Row} (hL : H L = some (.lst xs)) (h : Paired (RowV H) us rows) : Paired (RowV (upd H L o)) us rows := L2.Paired.mapP h fun _ _ ⟨t, e, ht⟩ => ⟨t, e, by rw [upd_ne (ne_of ht hL (by intro z; cases z))]; exact ht⟩
def rowsD (rows : List Row) : PyData := .list (rows.map fun r => .tuple [.str r.nm, .int r.mi, .int r.tl, .int r.rd, .int r.bk])
theorem rowsD_ok {rows : List Row} (h : ∀ r ∈ rows, PyData.strOk r.nm = true) : okD 2 (rowsD rows) := okD_list fun d hd => by
  obtain ⟨r, hr, rfl⟩ := List.mem_map.mp hd
  refine okD_tup fun e he => ?_
  simp only [List.mem_cons, List.not_mem_nil, or_false] at he
  rcases he with rfl | rfl | rfl | rfl | rfl
  · exact okD_str (h r hr)
  all_goals exact okD_int _
theorem dpAll_rows {K : PySem.W.Frag} {H : Hp} : ∀ {vs : List V} {rows : List Row}, Paired (RowV H) vs rows → DpAll K H vs (rows.map fun r => .tuple [.str r.nm, .int r.mi, .int r.tl, .int r.rd, .int r.bk])
  | _, _, .nil => .nil
  | _, _, .cons ⟨t, e, h⟩ r => by
    subst e
    exact .cons (.tup (SqT.of h) (.cons (.str _) (.cons (.int _) (.cons (.int _) (.cons (.int _) (.cons (.int _) .nil)))))) (dpAll_rows r)
theorem dp_rows {K : PySem.W.Frag} {H : Hp} {a : Addr} {vs : List V} {rows : List Row} (h : SqL K H a vs) (p : Paired (RowV H) vs rows) : Dp K H (.ref a) (rowsD rows) := .lst h (dpAll_rows p)
/-- the place of the least toll of a name among rows 1 .. i - 1 -/
def leastF (rows : List Row) (nm : Str) : Nat → Option Nat
  | 0 => none
  | i + 1 =>
    if i = 0 then none else
    match rows[i]? with
    | none => leastF rows nm i
    | some r => if r.nm = nm then
        match leastF rows nm i with
        | none => some i
        | some b => if r.tl < ((rows[b]?).map (·.tl)).getD 0 then some i else some b
      else leastF rows nm i
theorem leastF_lt {rows : List Row} {nm : Str} : ∀ {i b : Nat}, leastF rows nm i = some b → b < i
  | 0, b, h => by cases h
  | i + 1, b, h => by
    unfold leastF at h
    split at h
    · cases h
    · split at h
      · have := leastF_lt h
        omega
      · split at h
        · split at h
          · injection h with h; omega
          · rename_i c hc
            have := leastF_lt hc
            split at h <;> injection h with h <;> omega
        · have := leastF_lt h
          omega
def oV : Option Nat → V
  | none => .non
  | some i => .int (i : Int)
/-- the roads back from a row -/
def roadsF (rows : List Row) : Nat → Int → List Int
  | 0, _ => []
  | f + 1, p => if p ≤ 0 then [] else match rows[p.toNat]? with
    | none => []
    | some r => roadsF rows f r.bk ++ [r.rd]
def Backs (rows : List Row) : Prop := ∀ (i : Nat) (r : Row), rows[i]? = some r → r.bk < (i : Int) ∧ (i = 0 ∨ 0 ≤ r.bk)
/-- enough turns are enough -/
theorem roadsF_more {rows : List Row} (hb : Backs rows) : ∀ (f g : Nat) (p : Int), p ≤ (f : Int) → p ≤ (g : Int) → roadsF rows f p = roadsF rows g p
  | 0, 0, _, _, _ => rfl
  | 0, g + 1, p, h, _ => by
    unfold roadsF
    rw [if_pos (by omega)]
  | f + 1, 0, p, _, h => by
    unfold roadsF
    rw [if_pos (by omega)]
  | f + 1, g + 1, p, h1, h2 => by
    unfold roadsF
    by_cases hp : p ≤ 0
    · rw [if_pos hp, if_pos hp]
    · rw [if_neg hp, if_neg hp]
      cases e : rows[p.toNat]? with
      | none => rfl
      | some r =>
        have := (hb _ _ e).1
        show roadsF rows f r.bk ++ _ = roadsF rows g r.bk ++ _
        rw [roadsF_more hb f g r.bk (by omega) (by omega)]
def roadsOf (rows : List Row) (p : Int) : List Int := roadsF rows p.toNat p
theorem roadsOf_step {rows : List Row} (hb : Backs rows) {p : Int} (h : 0 < p) {r : Row} (hr : rows[p.toNat]? = some r) : roadsOf rows p = roadsOf rows r.bk ++ [r.rd] := by
  unfold roadsOf
  obtain ⟨n, rfl⟩ : ∃ n : Nat, p = ((n + 1 : Nat) : Int) := ⟨p.toNat - 1, by omega⟩
  rw [Int.toNat_natCast] at hr ⊢
  show roadsF rows (n + 1) _ = _
  conv => lhs; unfold roadsF
  rw [if_neg (by omega), Int.toNat_natCast, hr]
  show roadsF rows n r.bk ++ _ = _
  have := (hb _ _ hr).1
  rw [roadsF_more hb n r.bk.toNat r.bk (by omega) (by omega)]
theorem roadsOf_end (rows : List Row) {p : Int} (h : p ≤ 0) : roadsOf rows p = [] := by
  unfold roadsOf
  rw [show p.toNat = 0 by omega]
  rfl
theorem roadsF_len (rows : List Row) : ∀ f p, (roadsF rows f p).length ≤ f
  | 0, _ => by simp [roadsF]
  | f + 1, p => by
    unfold roadsF
    split
    · simp
    · split
      · simp
      · have := roadsF_len rows f
        simp [this]
/-- the law's rows -/
def nextRow (b : Int) (rows : List Row) (n : Int) : Row :=
  let back := n % (rows.length : Int)
  let r := rows.getD back.toNat ⟨nameOf 0 0, 0, 0, 0, 0⟩
  ⟨nameOf b (n / 7 % 6), r.mi + (1 + n / 1009 % 9), r.tl + n / 101 % 7 * (if n / 31 % 3 > 0 then 1 else 0), n / 10007 % 200, back⟩
def lawRows (ns : List Int) (b : Int) : Nat → List Row
  | 0 => [⟨nameOf b (cellAt ns 0 % 6), 0, 0, -1, -1⟩]
  | k + 1 => lawRows ns b k ++ [nextRow b (lawRows ns b k) (mixed ns (1 + (0 + (k : Int))))]
theorem lawRows_len (ns : List Int) (b : Int) : ∀ k, (lawRows ns b k).length = k + 1
  | 0 => rfl
  | k + 1 => by rw [lawRows, List.length_append, lawRows_len ns b k]; rfl
theorem lawRows_back (ns : List Int) (b : Int) : ∀ k, Backs (lawRows ns b k)
  | 0 => fun i r h => by
    cases i with
    | zero => simp [lawRows] at h; subst h; exact ⟨(by show (-1 : Int) < 0; decide), .inl rfl⟩
    | succ i => simp [lawRows] at h
  | k + 1 => fun i r h => by
    have hl := lawRows_len ns b k
    rw [lawRows, List.getElem?_append] at h
    split at h
    · exact lawRows_back ns b k i r h
    · have hi : i = k + 1 := by
        have := (List.getElem?_eq_some_iff.mp h).1
        simp at this
        omega
      subst hi
      rw [hl, Nat.sub_self] at h
      have e : nextRow b (lawRows ns b k) (mixed ns (1 + (0 + (k : Int)))) = r := by simpa using h
      rw [← e]
      unfold nextRow
      rw [hl]
      have h1 := Int.emod_nonneg (mixed ns (1 + (0 + (k : Int)))) (b := ((k + 1 : Nat) : Int)) (by omega)
      have h2 := Int.emod_lt_of_pos (mixed ns (1 + (0 + (k : Int)))) (b := ((k + 1 : Nat) : Int)) (by omega)
      exact ⟨h2, .inr h1⟩
theorem lawRows_nm (ns : List Int) (b : Int) : ∀ k r, r ∈ lawRows ns b k → ∃ t, 0 ≤ t ∧ t ≤ 1000 ∧ r.nm = nameOf b t
  | 0, r, h => by
    simp [lawRows] at h
    subst h
    exact ⟨cellAt ns 0 % 6, by omega, by omega, rfl⟩
  | k + 1, r, h => by
    rw [lawRows, List.mem_append] at h
    rcases h with h | h
    · exact lawRows_nm ns b k r h
    · rw [List.mem_singleton] at h
      subst h
      exact ⟨_, by omega, by omega, rfl⟩
end Toll

set_option Elab.async false
set_option maxRecDepth 100000
set_option maxHeartbeats 4000000
namespace Toll
open PySem L2
/-! ### a net: gates by name, roads by number -/
structure RoadD where
  one : Str
  other : Str
  mi : Int
  tl : Int
  op : Bool
structure NetD where
  gates : List (Str × Bool)
  roads : List RoadD
def gatesK (gs : List (Str × Bool)) : List (Key × V) := gs.map fun p => (Sum.inr p.1, V.bl p.2)
def seesOf (gs : List (Str × Bool)) (nm : Str) : Option Bool := (gs.find? fun p => decide (p.1 = nm)).map (·.2)
theorem key_inr {a b : Str} : ((Sum.inr a : Key) = Sum.inr b) ↔ a = b := ⟨fun h => by injection h, fun h => by rw [h]⟩
theorem valV_gates (gs : List (Str × Bool)) (nm : Str) : valV (gatesK gs) (Sum.inr nm : Key) = (seesOf gs nm).map V.bl := by
  induction gs with
  | nil => rfl
  | cons p gs ih =>
    unfold gatesK seesOf at *
    rw [List.map_cons]
    by_cases h : p.1 = nm
    · rw [valV_pos (key_inr.mpr h), List.find?_cons_of_pos (by simpa using h)]
      rfl
    · rw [valV_neg (fun z => h (key_inr.mp z)), List.find?_cons_of_neg (by simpa using h)]
      exact ih
def setSees (gs : List (Str × Bool)) (nm : Str) (b : Bool) : List (Str × Bool) := gs.map fun p => if p.1 = nm then (p.1, b) else p
theorem putK_new_gates {gs : List (Str × Bool)} {nm : Str} {b : Bool} (h : seesOf gs nm = none) : putK (gatesK gs) (Sum.inr nm : Key) (V.bl b) = gatesK (gs ++ [(nm, b)]) := by
  rw [putK_new _ (by rw [valV_gates, h]; rfl)]
  simp [gatesK]
theorem putK_old_gates {gs : List (Str × Bool)} {nm : Str} {b c : Bool} (h : seesOf gs nm = some c) : putK (gatesK gs) (Sum.inr nm : Key) (V.bl b) = gatesK (setSees gs nm b) := by
  have e : ((gatesK gs).any fun kv => decide (kv.1 = (Sum.inr nm : Key))) = true := by
    rw [valV_any, valV_gates, h]
    rfl
  unfold putK
  rw [if_pos e]
  unfold gatesK setSees
  rw [List.map_map, List.map_map]
  apply List.map_congr_left
  intro p _
  by_cases hp : p.1 = nm
  · simp [hp]
  · have : ¬ (Sum.inr p.1 : Key) = Sum.inr nm := fun z => hp (key_inr.mp z)
    simp [hp]
theorem seesOf_none {gs : List (Str × Bool)} {nm : Str} : seesOf gs nm = none ↔ nm ∉ gs.map (·.1) := by
  unfold seesOf
  rw [Option.map_eq_none_iff, List.find?_eq_none]
  refine ⟨fun h m => ?_, fun h p hp e => h (List.mem_map.mpr ⟨p, hp, of_decide_eq_true e⟩)⟩
  obtain ⟨p, hp, e⟩ := List.mem_map.mp m
  exact h p hp (decide_eq_true e)
theorem seesOf_nil (nm : Str) : seesOf [] nm = none := rfl
theorem seesOf_snoc {gs : List (Str × Bool)} {nm : Str} {b : Bool} (x : Str) (h : seesOf gs nm = none) : seesOf (gs ++ [(nm, b)]) x = if x = nm then some b else seesOf gs x := by
  unfold seesOf at *
  rw [List.find?_append]
  by_cases hx : x = nm
  · subst hx
    rw [Option.map_eq_none_iff] at h
    rw [h]
    simp
  · rw [if_neg hx]
    have : (List.find? (fun p => decide (p.1 = x)) [(nm, b)]) = none := by
      rw [List.find?_cons_of_neg (by simpa using fun z : nm = x => hx z.symm)]
      rfl
    rw [this, Option.or_none]
theorem seesOf_set {gs : List (Str × Bool)} {nm : Str} {b : Bool} (x : Str) : seesOf (setSees gs nm b) x = (seesOf gs x).map fun c => if x = nm then b else c := by
  induction gs with
  | nil => rfl
  | cons p gs ih =>
    unfold seesOf setSees at *
    rw [List.map_cons]
    by_cases h : p.1 = nm
    · rw [if_pos h]
      by_cases hx : p.1 = x
      · rw [List.find?_cons_of_pos (by simpa using hx), List.find?_cons_of_pos (by simpa using hx)]
        simp [← hx, h]
      · rw [List.find?_cons_of_neg (by simpa using hx), List.find?_cons_of_neg (by simpa using hx)]
        exact ih
    · rw [if_neg h]
      by_cases hx : p.1 = x
      · rw [List.find?_cons_of_pos (by simpa using hx), List.find?_cons_of_pos (by simpa using hx)]
        simp [← hx, h]
      · rw [List.find?_cons_of_neg (by simpa using hx), List.find?_cons_of_neg (by simpa using hx)]
        exact ih
theorem setSees_names (gs : List (Str × Bool)) (nm : Str) (b : Bool) : (setSees gs nm b).map (·.1) = gs.map (·.1) := by
  unfold setSees
  rw [List.map_map]
  apply List.map_congr_left
  intro p _
  by_cases h : p.1 = nm <;> simp [h]
theorem setSees_len (gs : List (Str × Bool)) (nm : Str) (b : Bool) : (setSees gs nm b).length = gs.length := by simp [setSees]
/-! ### a net in the heap -/
def roadVs (r : RoadD) : List V := [.str r.one, .str r.other, .int r.mi, .int r.tl, .bl r.op]
def RoadV (H : Hp) (v : V) (r : RoadD) : Prop := ∃ t, v = .ref t ∧ H t = some (.tup (roadVs r))
theorem gr_ : ¬ (("_gates" : Str) = "_roads") := by decide +kernel
def netF (g r : Addr) : List (Str × V) := putF "_roads" (.ref r) (putF "_gates" (.ref g) [])
theorem netF_eq (g r : Addr) : netF g r = ([("_gates", V.ref g), ("_roads", V.ref r)] : List (Str × V)) := by
  show (if ("_gates" : Str) = "_roads" then [(("_gates" : Str), V.ref r)] else (("_gates" : Str), V.ref g) :: putF "_roads" (V.ref r) []) = _
  rw [if_neg gr_]
  all_goals rfl
theorem netF_gates (g r : Addr) : (netF g r).lookup ("_gates" : Str) = some (.ref g) := by
  unfold netF
  rw [lookup_putF, if_neg gr_, lookup_putF, if_pos rfl]
theorem netF_roads (g r : Addr) : (netF g r).lookup ("_roads" : Str) = some (.ref r) := by
  unfold netF
  rw [lookup_putF, if_pos rfl]
theorem netF_no (g r : Addr) {m : Str} (h1 : ¬ m = "_roads") (h2 : ¬ m = "_gates") : (netF g r).lookup m = none := by
  unfold netF
  rw [lookup_putF, if_neg h1, lookup_putF, if_neg h2]
  all_goals rfl
structure NetAt (C : Addr) (H : Hp) (p g r : Addr) (N : NetD) : Prop where
  ob : ∃ dx, H p = some (.ins C dx (netF g r))
  gt : H g = some (.dK (gatesK N.gates))
  rt : ∃ us, H r = some (.lst us) ∧ Paired (RoadV H) us N.roads
  nd : (N.gates.map (·.1)).Nodup
  l1 : N.gates.length ≤ 60
  l2 : N.roads.length ≤ 200
/-- all but what stands in S is as it was -/
def Keep (S : List Addr) (H H' : Hp) : Prop := ∀ b o, H b = some o → b ∉ S → H' b = some o
theorem Keep.of_same {S : List Addr} {H H' : Hp} (s : Same H H') : Keep S H H' := fun b o e _ => s b o e
theorem Keep.trans {S : List Addr} {H H1 H2 : Hp} (a : Keep S H H1) (b : Keep S H1 H2) : Keep S H H2 := fun c o e n => b c o (a c o e n) n
theorem Keep.mono {S T : List Addr} {H H' : Hp} (a : Keep S H H') (h : ∀ x ∈ S, x ∈ T) : Keep T H H' := fun b o e n => a b o e fun m => n (h b m)
theorem Keep.upd {S : List Addr} {H H' : Hp} {p : Addr} {o : HO} (a : Keep S H H') (h : p ∈ S ∨ H p = none) : Keep S H (upd H' p o) := fun b u e n => by
  by_cases hb : b = p
  · subst hb
    rcases h with h | h
    · exact absurd h n
    · rw [h] at e
      cases e
  · rw [upd_ne hb]
    exact a b u e n
theorem roads_keep {S : List Addr} {H H' : Hp} {us : List V} {rs : List RoadD} (k : Keep S H H') (hS : ∀ a ∈ S, ∀ xs, H a ≠ some (.tup xs)) (h : Paired (RoadV H) us rs) : Paired (RoadV H') us rs :=
  L2.Paired.mapP h fun _ _ ⟨t, e, ht⟩ => ⟨t, e, k t _ ht fun m => hS t m _ ht⟩
theorem NetAt.same {C : Addr} {H H' : Hp} {p g r : Addr} {N : NetD} (n : NetAt C H p g r N) (s : Same H H') : NetAt C H' p g r N := by
  obtain ⟨⟨dx, ob⟩, gt, ⟨us, rt, pr⟩, nd, l1, l2⟩ := n
  exact ⟨⟨dx, s _ _ ob⟩, s _ _ gt, ⟨us, s _ _ rt, L2.Paired.mapP pr fun _ _ ⟨t, e, ht⟩ => ⟨t, e, s _ _ ht⟩⟩, nd, l1, l2⟩
/-- a net stands while what is changed is none of its own -/
theorem NetAt.keep {C : Addr} {S : List Addr} {H H' : Hp} {p g r : Addr} {N : NetD} (n : NetAt C H p g r N) (k : Keep S H H') (hp : p ∉ S) (hg : g ∉ S) (hr : r ∉ S) (hS : ∀ a ∈ S, ∀ xs, H a ≠ some (.tup xs)) : NetAt C H' p g r N := by
  obtain ⟨⟨dx, ob⟩, gt, ⟨us, rt, pr⟩, nd, l1, l2⟩ := n
  exact ⟨⟨dx, k _ _ ob hp⟩, k _ _ gt hg, ⟨us, k _ _ rt hr, roads_keep k hS pr⟩, nd, l1, l2⟩
theorem NetAt.pg {C : Addr} {H : Hp} {p g r : Addr} {N : NetD} (n : NetAt C H p g r N) : p ≠ g := by
  obtain ⟨⟨dx, ob⟩, gt, _⟩ := n
  exact ne_of ob gt (by intro z; cases z)
theorem NetAt.pr {C : Addr} {H : Hp} {p g r : Addr} {N : NetD} (n : NetAt C H p g r N) : p ≠ r := by
  obtain ⟨⟨dx, ob⟩, gt, ⟨us, rt, _⟩, _⟩ := n
  exact ne_of ob rt (by intro z; cases z)
theorem NetAt.gr {C : Addr} {H : Hp} {p g r : Addr} {N : NetD} (n : NetAt C H p g r N) : g ≠ r := by
  obtain ⟨_, gt, ⟨us, rt, _⟩, _⟩ := n
  exact ne_of gt rt (by intro z; cases z)
/-- a message's text fits -/
theorem repr_sz {x : Str} (h : x.length ≤ 1000) (ho : PyData.strOk x = true) : (reprText x).length ≤ 20000 := by
  have := PySem.StrLaws.reprText_len x fun c hc => by
    have h1 := Array.all_eq_true.mp ho
    obtain ⟨i, hi, e⟩ := Array.getElem_of_mem (Array.mem_toList_iff.mp hc)
    have := of_decide_eq_true (h1 i hi)
    rw [e] at this
    exact Nat.lt_trans this (by decide)
  omega
theorem str_len (x y : Str) : (x ++ y).length = x.length + y.length := by
  show (x.cps ++ y.cps).size = _
  rw [Array.size_append]
  rfl
theorem cat_sz {x y : Str} (hx : x.length ≤ 1000) (hy : y.length ≤ 50000) : (x ++ y).length ≤ sizeLine := Evl.sz_of (by rw [str_len]; omega)
theorem cat_sz2 {x y : Str} {n m : Nat} (hx : x.length ≤ n) (hy : y.length ≤ m) (h : n + m ≤ 100000) : (x ++ y).length ≤ sizeLine := Evl.sz_of (by rw [str_len]; omega)
theorem repr_ok {x : Str} (h : x.length ≤ 1000) (ho : PyData.strOk x = true) : (reprText x).length ≤ sizeLine := Evl.sz_of (by have := repr_sz h ho; omega)
theorem sz3 {x y z : Str} (hx : x.length ≤ 1000) (hy : y.length ≤ 50000) (hz : z.length ≤ 1000) : (x ++ y ++ z).length ≤ sizeLine := Evl.sz_of (by rw [str_len, str_len]; omega)
theorem NetAt.setGates {C : Addr} {H : Hp} {p g r : Addr} {N : NetD} (n : NetAt C H p g r N) {gs : List (Str × Bool)} (hd : (gs.map (·.1)).Nodup) (hl : gs.length ≤ 60) :
    NetAt C (upd H g (.dK (gatesK gs))) p g r { N with gates := gs } := by
  have h1 := n.pg
  have h2 := n.gr
  obtain ⟨⟨dx, ob⟩, gt, ⟨us, rt, pr⟩, nd, l1, l2⟩ := n
  exact ⟨⟨dx, by rw [upd_ne h1]; exact ob⟩, upd_same, ⟨us, by rw [upd_ne h2.symm]; exact rt, L2.Paired.mapP pr fun _ _ ⟨t, e, ht⟩ => ⟨t, e, by rw [upd_ne (ne_of ht gt (by intro z; cases z))]; exact ht⟩⟩, hd, hl, l2⟩
theorem NetAt.setRoads {C : Addr} {H : Hp} {p g r : Addr} {N : NetD} (n : NetAt C H p g r N) {us : List V} {rs : List RoadD} (pr : Paired (RoadV H) us rs) (hl : rs.length ≤ 200) :
    NetAt C (upd H r (.lst us)) p g r { N with roads := rs } := by
  have h1 := n.pr
  have h2 := n.gr
  obtain ⟨⟨dx, ob⟩, gt, ⟨us', rt, _⟩, nd, l1, l2⟩ := n
  exact ⟨⟨dx, by rw [upd_ne h1]; exact ob⟩, by rw [upd_ne h2]; exact gt, ⟨us, upd_same, L2.Paired.mapP pr fun _ _ ⟨t, e, ht⟩ => ⟨t, e, by rw [upd_ne (ne_of ht rt (by intro z; cases z))]; exact ht⟩⟩, nd, l1, hl⟩
theorem keep1 {H : Hp} {p : Addr} {o : HO} : Keep [p] H (upd H p o) := (Keep.of_same (Same.refl H)).upd (.inl (by simp))
theorem paired_set {α β : Type} {F : α → β → Prop} {x : α} {y : β} (r : F x y) : ∀ {l : List α} {m : List β} (i : Nat), Paired F l m → Paired F (l.set i x) (m.set i y)
  | _, _, _, .nil => .nil
  | _, _, 0, .cons _ t => .cons r t
  | _, _, i + 1, .cons q t => .cons q (paired_set r i t)
theorem roads_same {H H' : Hp} {us : List V} {rs : List RoadD} (s : Same H H') (h : Paired (RoadV H) us rs) : Paired (RoadV H') us rs := L2.Paired.mapP h fun _ _ ⟨t, e, ht⟩ => ⟨t, e, s _ _ ht⟩
def GateV (H : Hp) (v : V) (q : Str × Bool) : Prop := ∃ t, v = .ref t ∧ H t = some (.tup [.str q.1, .bl q.2])
theorem gatesV_same {H H' : Hp} {us : List V} {gs : List (Str × Bool)} (s : Same H H') (h : Paired (GateV H) us gs) : Paired (GateV H') us gs := L2.Paired.mapP h fun _ _ ⟨t, e, ht⟩ => ⟨t, e, s _ _ ht⟩
/-- the numbers of the open roads from a gate -/
def leavingF (rs : List RoadD) (nm : Str) : Nat → List Int
  | 0 => []
  | i + 1 => leavingF rs nm i ++ (match rs[i]? with
    | some r => if r.one = nm ∧ r.op = true then [(i : Int)] else []
    | none => [])
theorem leavingF_len (rs : List RoadD) (nm : Str) : ∀ i, (leavingF rs nm i).length ≤ i
  | 0 => Nat.le_refl _
  | i + 1 => by
    have := leavingF_len rs nm i
    unfold leavingF
    rw [List.length_append]
    split
    · split <;> simp <;> omega
    · simp; omega
theorem gates_paired {H : Hp} : ∀ {ts : List Addr} {gs : List (Str × Bool)}, Paired (fun (t : Addr) (q : Key × V) => H t = some (.tup [kV q.1, q.2])) ts (gatesK gs) → Paired (GateV H) (ts.map V.ref) gs
  | _, [], .nil => .nil
  | _, q :: gs, .cons h r => .cons ⟨_, rfl, h⟩ (gates_paired (gs := gs) r)
end Toll

set_option Elab.async false
set_option maxRecDepth 100000
set_option maxHeartbeats 4000000
namespace Toll
open PySem L2
/-! ### deeds, and what they come to -/
inductive Deed where
  | gate (nm : Str) (b : Bool)
  | road (one other : Str) (mi tl : Int)
  | turn (b : Bool) (nm : Str)
  | lane (b : Bool) (n : Int)
def deedVs : Deed → List V
  | .gate nm b => [.str "gate", .str nm, .bl b]
  | .road one other mi tl => [.str "road", .str one, .str other, .int mi, .int tl]
  | .turn false nm => [.str "blind", .str nm]
  | .turn true nm => [.str "mend", .str nm]
  | .lane false n => [.str "close", .int n]
  | .lane true n => [.str "reopen", .int n]
def NameOk (nm : Str) : Prop := nm.length ≤ 8 ∧ PyData.strOk nm = true ∧ isName nm.cps.toList = true
def Deed.ok : Deed → Prop
  | .gate nm _ => NameOk nm
  | .road one other _ _ => NameOk one ∧ NameOk other
  | .turn _ nm => NameOk nm
  | .lane _ _ => True
theorem nameOk_of {b t : Int} (h0 : 0 ≤ t) (h1 : t ≤ 999) : NameOk (nameOf b t) := ⟨nameOf_len h0 h1, nameOf_ok b t, isName_nameOf h0 h1⟩
def DeedV (H : Hp) (v : V) (d : Deed) : Prop := ∃ t, v = .ref t ∧ H t = some (.tup (deedVs d))
theorem DeedV.same {H H' : Hp} {v : V} {d : Deed} (s : Same H H') (h : DeedV H v d) : DeedV H' v d := by
  obtain ⟨t, e, h⟩ := h
  exact ⟨t, e, s _ _ h⟩
def refusal (N : NetD) : Deed → Option Str
  | .gate nm _ => if seesOf N.gates nm ≠ none then some "SameGate" else if 59 < N.gates.length then some "FullNet" else none
  | .road one other mi tl =>
    if seesOf N.gates one = none ∨ seesOf N.gates other = none then some "NoGate"
    else if one = other then some "SameGate"
    else if ¬ (0 < mi ∧ mi < 1000001) ∨ ¬ (0 ≤ tl ∧ tl < 1000001) then some "NoNumber"
    else if 199 < N.roads.length then some "FullNet" else none
  | .turn b nm => match seesOf N.gates nm with
    | none => some "NoGate"
    | some c => if c = b then some "Already" else none
  | .lane b n => if 0 ≤ n ∧ n < (N.roads.length : Int) then
      match N.roads[n.toNat]? with
      | none => some "NoRoad"
      | some r => if r.op = b then some "Already" else none
    else some "NoRoad"
def done (N : NetD) : Deed → NetD
  | .gate nm b => { N with gates := N.gates ++ [(nm, b)] }
  | .road one other mi tl => { N with roads := N.roads ++ [⟨one, other, mi, tl, true⟩] }
  | .turn b nm => { N with gates := setSees N.gates nm b }
  | .lane b n => match N.roads[n.toNat]? with
    | none => N
    | some r => { N with roads := N.roads.set n.toNat { r with op := b } }
def doneV (N : NetD) : Deed → V
  | .road _ _ _ _ => .int (N.roads.length : Int)
  | _ => .non
theorem refusal_turn (N : NetD) (b : Bool) (nm : Str) : refusal N (.turn b nm) = (match seesOf N.gates nm with
    | none => some ("NoGate" : Str)
    | some c => if c = b then some ("Already" : Str) else none) := rfl
theorem refusal_turn0 {N : NetD} {b : Bool} {nm : Str} (h : seesOf N.gates nm = none) : refusal N (.turn b nm) = some ("NoGate" : Str) := by
  rw [refusal_turn, h]
theorem refusal_turn1 {N : NetD} {b : Bool} {nm : Str} (h : seesOf N.gates nm = some b) : refusal N (.turn b nm) = some ("Already" : Str) := by
  rw [refusal_turn, h]
  exact if_pos rfl
theorem refusal_turn2 {N : NetD} {b : Bool} {nm : Str} (h : seesOf N.gates nm = some (!b)) : refusal N (.turn b nm) = none := by
  rw [refusal_turn, h]
  exact if_neg (by cases b <;> simp)
theorem refusal_lane (N : NetD) (b : Bool) (n : Int) : refusal N (.lane b n) = (if 0 ≤ n ∧ n < (N.roads.length : Int) then
      match N.roads[n.toNat]? with
      | none => some ("NoRoad" : Str)
      | some r => if r.op = b then some ("Already" : Str) else none
    else some ("NoRoad" : Str)) := rfl
theorem refusal_lane0 {N : NetD} {b : Bool} {n : Int} (h : ¬ (0 ≤ n ∧ n < (N.roads.length : Int))) : refusal N (.lane b n) = some ("NoRoad" : Str) := by
  rw [refusal_lane, if_neg h]
theorem lane_in {N : NetD} {n : Int} {r : RoadD} (h0 : 0 ≤ n) (h : N.roads[n.toNat]? = some r) : 0 ≤ n ∧ n < (N.roads.length : Int) := ⟨h0, by have := (List.getElem?_eq_some_iff.mp h).1; omega⟩
theorem refusal_lane1 {N : NetD} {b : Bool} {n : Int} {r : RoadD} (h0 : 0 ≤ n) (h : N.roads[n.toNat]? = some r) (e : r.op = b) : refusal N (.lane b n) = some ("Already" : Str) := by
  rw [refusal_lane, if_pos (lane_in h0 h), h]
  exact if_pos e
theorem refusal_lane2 {N : NetD} {b : Bool} {n : Int} {r : RoadD} (h0 : 0 ≤ n) (h : N.roads[n.toNat]? = some r) (e : r.op = !b) : refusal N (.lane b n) = none := by
  rw [refusal_lane, if_pos (lane_in h0 h), h]
  exact if_neg (by rw [e]; cases b <;> simp)
theorem done_lane {N : NetD} {b : Bool} {n : Int} {r : RoadD} (h : N.roads[n.toNat]? = some r) : done N (.lane b n) = { N with roads := N.roads.set n.toNat { r with op := b } } := by
  show (match N.roads[n.toNat]? with | none => N | some r => { N with roads := N.roads.set n.toNat { r with op := b } }) = _
  rw [h]
/-! ### the law's own account -/
structure OwnAt (H : Hp) (o og orr : Addr) (gts rts : List Addr) (N : NetD) : Prop where
  ho : H o = some (.lst [.ref og, .ref orr])
  hg : H og = some (.lst (gts.map V.ref))
  hr : H orr = some (.lst (rts.map V.ref))
  pg : Paired (fun (t : Addr) (q : Str × Bool) => H t = some (.lst [.str q.1, .bl q.2])) gts N.gates
  pr : Paired (fun (t : Addr) (r : RoadD) => H t = some (.lst (roadVs r))) rts N.roads
  nd : (o :: og :: orr :: (gts ++ rts)).Nodup
theorem paired_mem {α β : Type} {F G : α → β → Prop} : ∀ {l : List α} {m : List β}, Paired F l m → (∀ a ∈ l, ∀ b, F a b → G a b) → Paired G l m
  | _, _, .nil, _ => .nil
  | _, _, .cons r t, h => .cons (h _ (List.mem_cons_self ..) _ r) (paired_mem t fun a ha => h a (List.mem_cons_of_mem _ ha))
theorem OwnAt.keep {S : List Addr} {H H' : Hp} {o og orr : Addr} {gts rts : List Addr} {N : NetD} (a : OwnAt H o og orr gts rts N) (k : Keep S H H') (hS : ∀ x ∈ S, x ∉ o :: og :: orr :: (gts ++ rts)) : OwnAt H' o og orr gts rts N := by
  have q : ∀ x ∈ o :: og :: orr :: (gts ++ rts), ∀ u, H x = some u → H' x = some u := fun x hx u e => k x u e fun m => hS x m hx
  obtain ⟨ho, hg, hr, pg, pr, nd⟩ := a
  exact ⟨q _ (by simp) _ ho, q _ (by simp) _ hg, q _ (by simp) _ hr, paired_mem pg fun t ht _ e => q t (by simp [ht]) _ e, paired_mem pr fun t ht _ e => q t (by simp [ht]) _ e, nd⟩
theorem OwnAt.same {H H' : Hp} {o og orr : Addr} {gts rts : List Addr} {N : NetD} (a : OwnAt H o og orr gts rts N) (s : Same H H') : OwnAt H' o og orr gts rts N :=
  a.keep (S := []) (Keep.of_same s) fun x hx => by cases hx
/-! ### the list of the names -/
def namesV (gs : List (Str × Bool)) : List V := gs.map fun q => V.str q.1
theorem namesV_flat (gs : List (Str × Bool)) : (namesV gs).all flatV = true := by
  rw [List.all_eq_true]
  intro x hx
  obtain ⟨q, _, rfl⟩ := List.mem_map.mp hx
  rfl
theorem eqV_str (a b : Str) : eqV (V.str a) (V.str b) = decide (a = b) := by
  show (a == b) = _
  rfl
theorem inV_names (nm : Str) (gs : List (Str × Bool)) : inV (V.str nm) (namesV gs) = (seesOf gs nm).isSome := by
  induction gs with
  | nil => rfl
  | cons q gs ih =>
    unfold inV namesV seesOf at *
    rw [List.map_cons, List.any_cons, eqV_str, ih]
    by_cases h : q.1 = nm
    · rw [decide_eq_true h, List.find?_cons_of_pos (by simpa using h)]
      rfl
    · rw [decide_eq_false h, List.find?_cons_of_neg (by simpa using h)]
      rfl
theorem seesOf_at {gs : List (Str × Bool)} {nm : Str} {c : Bool} (h : seesOf gs nm = some c) : ∃ j : Nat, gs[j]? = some (nm, c) ∧ ∀ (m : Nat) (q : Str × Bool), m < j → gs[m]? = some q → q.1 ≠ nm := by
  induction gs with
  | nil => cases h
  | cons q gs ih =>
    by_cases e : q.1 = nm
    · refine ⟨0, ?_, fun m q hm => by omega⟩
      unfold seesOf at h
      rw [List.find?_cons_of_pos (by simpa using e)] at h
      have h2 : q.2 = c := by simpa using h
      rw [← e, ← h2]
      rfl
    · have h2 : seesOf gs nm = some c := by
        unfold seesOf at h ⊢
        rw [List.find?_cons_of_neg (by simpa using e)] at h
        exact h
      obtain ⟨j, hj, hn⟩ := ih h2
      refine ⟨j + 1, by simpa using hj, fun m q' hm hq => ?_⟩
      cases m with
      | zero =>
        have : q = q' := by simpa using hq
        subst this
        exact e
      | succ m => exact hn m q' (by omega) (by simpa using hq)
theorem rep_one (v : V) (b : Bool) : (List.replicate (if b = true then (1 : Int) else 0).toNat [v]).flatten = if b = true then [v] else [] := by
  cases b <;> rfl
def refV : Option Str → List V
  | none => []
  | some c => [.str c]
/-! ### the account changes -/
theorem OwnAt.addGate {H : Hp} {o og orr t : Addr} {gts rts : List Addr} {N : NetD} (a : OwnAt H o og orr gts rts N) {nm : Str} {b : Bool} (ht : H t = some (.lst [.str nm, .bl b])) (hn : t ∉ o :: og :: orr :: (gts ++ rts)) :
    OwnAt (upd H og (.lst (gts.map V.ref ++ [.ref t]))) o og orr (gts ++ [t]) rts { N with gates := N.gates ++ [(nm, b)] } := by
  obtain ⟨ho, hg, hr, pg, pr, nd⟩ := a
  have nd' := nd
  simp only [List.nodup_cons, List.mem_cons, List.mem_append, not_or] at nd hn
  have e : ∀ x, x ≠ og → ∀ u, H x = some u → (upd H og (.lst (gts.map V.ref ++ [.ref t]))) x = some u := fun x hx u h => by rw [upd_ne hx]; exact h
  refine ⟨e o nd.1.1 _ ho, by rw [upd_same]; simp, e orr (fun z => nd.2.1.1 z.symm) _ hr, Paired.snoc (paired_mem pg fun x hx _ h => e x (fun z => nd.2.1.2.1 (z ▸ hx)) _ h) (e t hn.2.1 _ ht), paired_mem pr fun x hx _ h => e x (fun z => nd.2.1.2.2 (z ▸ hx)) _ h, ?_⟩
  have p : (o :: og :: orr :: (gts ++ [t] ++ rts)).Perm (t :: o :: og :: orr :: (gts ++ rts)) := by
    have h1 : (gts ++ [t] ++ rts).Perm (t :: (gts ++ rts)) := by
      rw [List.append_assoc]
      exact List.perm_middle
    exact ((h1.cons orr).cons og |>.cons o).trans (((List.Perm.swap t orr _).cons og |>.cons o).trans (((List.Perm.swap t og _).cons o).trans (List.Perm.swap t o _)))
  refine p.nodup_iff.mpr (List.nodup_cons.mpr ⟨?_, nd'⟩)
  simp only [List.mem_cons, List.mem_append, not_or]
  exact hn
theorem OwnAt.addRoad {H : Hp} {o og orr t : Addr} {gts rts : List Addr} {N : NetD} (a : OwnAt H o og orr gts rts N) {r : RoadD} (ht : H t = some (.lst (roadVs r))) (hn : t ∉ o :: og :: orr :: (gts ++ rts)) :
    OwnAt (upd H orr (.lst (rts.map V.ref ++ [.ref t]))) o og orr gts (rts ++ [t]) { N with roads := N.roads ++ [r] } := by
  obtain ⟨ho, hg, hr, pg, pr, nd⟩ := a
  have nd' := nd
  simp only [List.nodup_cons, List.mem_cons, List.mem_append, not_or] at nd hn
  have e : ∀ x, x ≠ orr → ∀ u, H x = some u → (upd H orr (.lst (rts.map V.ref ++ [.ref t]))) x = some u := fun x hx u h => by rw [upd_ne hx]; exact h
  refine ⟨e o nd.1.2.1 _ ho, e og nd.2.1.1 _ hg, by rw [upd_same]; simp, paired_mem pg fun x hx _ h => e x (fun z => nd.2.2.1.1 (z ▸ hx)) _ h, Paired.snoc (paired_mem pr fun x hx _ h => e x (fun z => nd.2.2.1.2 (z ▸ hx)) _ h) (e t hn.2.2.1 _ ht), ?_⟩
  have p : (o :: og :: orr :: (gts ++ (rts ++ [t]))).Perm (t :: o :: og :: orr :: (gts ++ rts)) := by
    have h1 : (gts ++ (rts ++ [t])).Perm (t :: (gts ++ rts)) := by
      rw [← List.append_assoc]
      exact List.perm_append_singleton t (gts ++ rts)
    exact ((h1.cons orr).cons og |>.cons o).trans (((List.Perm.swap t orr _).cons og |>.cons o).trans (((List.Perm.swap t og _).cons o).trans (List.Perm.swap t o _)))
  refine p.nodup_iff.mpr (List.nodup_cons.mpr ⟨?_, nd'⟩)
  simp only [List.mem_cons, List.mem_append, not_or]
  exact hn
theorem paired_upd {α : Type} {H : Hp} {g : α → List V} {c : Addr} {y : α} : ∀ {l : List Addr} {m : List α} {j : Nat}, Paired (fun (t : Addr) (q : α) => H t = some (.lst (g q))) l m → l.Nodup → l[j]? = some c → Paired (fun (t : Addr) (q : α) => (upd H c (.lst (g y))) t = some (.lst (g q))) l (m.set j y)
  | _, _, _, .nil, _, e => by simp at e
  | a :: l, x :: m, 0, .cons r t, nd, e => by
    have e : a = c := by simpa using e
    subst e
    exact .cons upd_same (paired_mem t fun b hb q h => by rw [upd_ne (show b ≠ a from fun z => (List.nodup_cons.mp nd).1 (by rw [← z]; exact hb))]; exact h)
  | a :: l, x :: m, j + 1, .cons r t, nd, e => by
    have e2 : l[j]? = some c := by simpa using e
    have hc : c ∈ l := List.mem_of_getElem? e2
    exact .cons (by rw [upd_ne (show a ≠ c from fun z => (List.nodup_cons.mp nd).1 (by rw [z]; exact hc))]; exact r) (paired_upd t (List.nodup_cons.mp nd).2 e2)
theorem OwnAt.setGate {H : Hp} {o og orr t : Addr} {gts rts : List Addr} {N : NetD} (a : OwnAt H o og orr gts rts N) {j : Nat} {nm : Str} {b : Bool} (hj : gts[j]? = some t) :
    OwnAt (upd H t (.lst [.str nm, .bl b])) o og orr gts rts { N with gates := N.gates.set j (nm, b) } := by
  obtain ⟨ho, hg, hr, pg, pr, nd⟩ := a
  have nd' := nd
  have hm := List.mem_of_getElem? hj
  simp only [List.nodup_cons, List.mem_cons, List.mem_append, not_or] at nd
  have nda := List.nodup_append.mp nd.2.2.2
  have e : ∀ x, x ≠ t → ∀ u, H x = some u → (upd H t (.lst [.str nm, .bl b])) x = some u := fun x hx u h => by rw [upd_ne hx]; exact h
  refine ⟨e o (fun z => nd.1.2.2.1 (z ▸ hm)) _ ho, e og (fun z => nd.2.1.2.1 (z ▸ hm)) _ hg, e orr (fun z => nd.2.2.1.1 (z ▸ hm)) _ hr, ?_, paired_mem pr fun x hx _ h => e x (fun z => nda.2.2 t hm x hx z.symm) _ h, nd'⟩
  exact paired_upd (g := fun q : Str × Bool => [V.str q.1, V.bl q.2]) (y := (nm, b)) pg nda.1 hj
theorem OwnAt.setRoad {H : Hp} {o og orr t : Addr} {gts rts : List Addr} {N : NetD} (a : OwnAt H o og orr gts rts N) {j : Nat} {r : RoadD} (hj : rts[j]? = some t) :
    OwnAt (upd H t (.lst (roadVs r))) o og orr gts rts { N with roads := N.roads.set j r } := by
  obtain ⟨ho, hg, hr, pg, pr, nd⟩ := a
  have nd' := nd
  have hm := List.mem_of_getElem? hj
  simp only [List.nodup_cons, List.mem_cons, List.mem_append, not_or] at nd
  have nda := List.nodup_append.mp nd.2.2.2
  have e : ∀ x, x ≠ t → ∀ u, H x = some u → (upd H t (.lst (roadVs r))) x = some u := fun x hx u h => by rw [upd_ne hx]; exact h
  refine ⟨e o (fun z => nd.1.2.2.2 (z ▸ hm)) _ ho, e og (fun z => nd.2.1.2.2 (z ▸ hm)) _ hg, e orr (fun z => nd.2.2.1.2 (z ▸ hm)) _ hr, paired_mem pg fun x hx _ h => e x (fun z => nda.2.2 x hx t hm z) _ h, ?_, nd'⟩
  exact paired_upd (g := roadVs) (y := r) pr nda.2.1 hj
theorem setSees_at {nm : Str} {b c : Bool} : ∀ {gs : List (Str × Bool)} {j : Nat}, (gs.map (·.1)).Nodup → gs[j]? = some (nm, c) → setSees gs nm b = gs.set j (nm, b)
  | [], _, _, h => by simp at h
  | q :: gs, 0, nd, h => by
    have h : q = (nm, c) := by simpa using h
    subst h
    have hn := (List.nodup_cons.mp nd).1
    unfold setSees
    rw [List.map_cons, if_pos rfl, List.set_cons_zero]
    congr 1
    conv => rhs; rw [← List.map_id gs]
    apply List.map_congr_left
    intro p hp
    rw [if_neg]
    · rfl
    · intro z
      exact hn (List.mem_map.mpr ⟨p, hp, z⟩)
  | q :: gs, j + 1, nd, h => by
    have h2 : gs[j]? = some (nm, c) := by simpa using h
    have ih := setSees_at (gs := gs) (j := j) (nm := nm) (b := b) (c := c) (List.nodup_cons.mp nd).2 h2
    have hq : q.1 ≠ nm := by
      intro z
      refine (List.nodup_cons.mp nd).1 (List.mem_map.mpr ⟨(nm, c), List.mem_of_getElem? h2, z.symm⟩)
    unfold setSees at *
    rw [List.map_cons, if_neg hq, List.set_cons_succ, ih]
theorem paired_some {α : Type} {H : Hp} {g : α → List V} {x : Addr} : ∀ {l : List Addr} {m : List α}, Paired (fun (t : Addr) (q : α) => H t = some (.lst (g q))) l m → x ∈ l → ∃ xs, H x = some (.lst xs)
  | _, _, .nil, h => by cases h
  | _, _, .cons r t, h => by
    rcases List.mem_cons.mp h with e | e
    · exact ⟨_, by rw [e]; exact r⟩
    · exact paired_some t e
theorem OwnAt.lists {H : Hp} {o og orr : Addr} {gts rts : List Addr} {N : NetD} (a : OwnAt H o og orr gts rts N) : ∀ x ∈ o :: og :: orr :: (gts ++ rts), ∃ xs, H x = some (.lst xs) := by
  intro x hx
  obtain ⟨ho, hg, hr, pg, pr, nd⟩ := a
  simp only [List.mem_cons, List.mem_append] at hx
  rcases hx with e | e | e | e | e
  · exact ⟨_, by rw [e]; exact ho⟩
  · exact ⟨_, by rw [e]; exact hg⟩
  · exact ⟨_, by rw [e]; exact hr⟩
  · exact paired_some (g := fun q : Str × Bool => [V.str q.1, V.bl q.2]) pg e
  · exact paired_some (g := roadVs) pr e
theorem OwnAt.fresh {H : Hp} {o og orr p : Addr} {gts rts : List Addr} {N : NetD} (a : OwnAt H o og orr gts rts N) (hp : H p = none) : p ∉ o :: og :: orr :: (gts ++ rts) := fun m => by
  obtain ⟨xs, e⟩ := a.lists p m
  rw [hp] at e
  cases e
end Toll

set_option Elab.async false
set_option maxRecDepth 100000
set_option maxHeartbeats 4000000
namespace Toll
open PySem L2
/-! ### lists told ahead, and their copies -/
def flatD : V → Option PyData
  | .int i => some (.int i)
  | .bl b => some (.bool b)
  | .str x => if PyData.strOk x = true then some (.str x) else none
  | _ => none
theorem flatD_str (x : Str) : flatD (.str x) = if PyData.strOk x = true then some (.str x) else none := rfl
/-- an item of a told list: an int, or a tuple of flat values -/
def ItemV (H : Hp) (v : V) (d : PyData) : Prop := (∃ i, v = .int i ∧ d = .int i) ∨ ∃ t xs ds, v = .ref t ∧ H t = some (.tup xs) ∧ Paired (fun x e => flatD x = some e) xs ds ∧ d = .tuple ds
theorem flatD_ok {v : V} {d : PyData} (h : flatD v = some d) : okD 0 d := by
  cases v with
  | int i => injection h with h; subst h; exact okD_int i
  | bl b => injection h with h; subst h; exact okD_bool b
  | str x =>
    by_cases hx : PyData.strOk x = true
    · rw [flatD_str, if_pos hx] at h
      injection h with h
      subst h
      exact okD_str hx
    · rw [flatD_str, if_neg hx] at h
      cases h
  | non => cases h
  | byt b => cases h
  | flt b => cases h
  | ref a => cases h
  | ty n => cases h
theorem flatD_dp {K : PySem.W.Frag} {H : Hp} {v : V} {d : PyData} (h : flatD v = some d) : Dp K H v d := by
  cases v with
  | int i => injection h with h; subst h; exact .int i
  | bl b => injection h with h; subst h; exact .bl b
  | str x =>
    rw [flatD_str] at h
    by_cases hx : PyData.strOk x = true
    · rw [if_pos hx] at h
      injection h with h
      subst h
      exact .str x
    · rw [if_neg hx] at h
      cases h
  | non => cases h
  | byt b => cases h
  | flt b => cases h
  | ref a => cases h
  | ty n => cases h
theorem flats_dp {K : PySem.W.Frag} {H : Hp} : ∀ {xs : List V} {ds : List PyData}, Paired (fun x e => flatD x = some e) xs ds → DpAll K H xs ds
  | _, _, .nil => .nil
  | _, _, .cons r t => .cons (flatD_dp r) (flats_dp t)
theorem flats_ok : ∀ {xs : List V} {ds : List PyData}, Paired (fun x e => flatD x = some e) xs ds → ∀ d ∈ ds, okD 0 d
  | _, _, .cons r t, d, h => by
    rcases List.mem_cons.mp h with e | e
    · rw [e]; exact flatD_ok r
    · exact flats_ok t d e
theorem ItemV.ok {H : Hp} {v : V} {d : PyData} (h : ItemV H v d) : okD 1 d := by
  rcases h with ⟨i, _, rfl⟩ | ⟨t, xs, ds, _, _, p, rfl⟩
  · exact ⟨(okD_int i).1, by have := (okD_int i).2; omega⟩
  · exact okD_tup (flats_ok p)
theorem ItemV.dp {K : PySem.W.Frag} {H : Hp} {v : V} {d : PyData} (h : ItemV H v d) : Dp K H v d := by
  rcases h with ⟨i, rfl, rfl⟩ | ⟨t, xs, ds, rfl, e, p, rfl⟩
  · exact .int i
  · exact .tup (SqT.of e) (flats_dp p)
theorem items_dp {K : PySem.W.Frag} {H : Hp} : ∀ {vs : List V} {ds : List PyData}, Paired (ItemV H) vs ds → DpAll K H vs ds
  | _, _, .nil => .nil
  | _, _, .cons r t => .cons r.dp (items_dp t)
theorem items_ok {H : Hp} : ∀ {vs : List V} {ds : List PyData}, Paired (ItemV H) vs ds → ∀ d ∈ ds, okD 1 d
  | _, _, .cons r t, d, h => by
    rcases List.mem_cons.mp h with e | e
    · rw [e]; exact r.ok
    · exact items_ok t d e
theorem ItemV.keep {S : List Addr} {H H' : Hp} (k : Keep S H H') (hS : ∀ a ∈ S, ∀ xs, H a ≠ some (.tup xs)) {v : V} {d : PyData} (h : ItemV H v d) : ItemV H' v d := by
  rcases h with h | ⟨t, xs, ds, e1, e2, p, e3⟩
  · exact .inl h
  · exact .inr ⟨t, xs, ds, e1, k t _ e2 fun m => hS t m _ e2, p, e3⟩
/-- one pair: two lists of the same items -/
def PairV (H : Hp) (v : V) : Prop := ∃ (q a b : Addr) (vs : List V) (ds : List PyData), v = .ref q ∧ H q = some (.lst [.ref a, .ref b]) ∧ H a = some (.lst vs) ∧ H b = some (.lst vs) ∧ Paired (ItemV H) vs ds
theorem PairV.keep {S : List Addr} {H H' : Hp} (k : Keep S H H') (hS : ∀ a ∈ S, ∀ xs, H a ≠ some (.tup xs)) {v : V} (h : PairV H v) (hn : ∀ q a b, v = .ref q → H q = some (.lst [.ref a, .ref b]) → q ∉ S ∧ a ∉ S ∧ b ∉ S) : PairV H' v := by
  obtain ⟨q, a, b, vs, ds, rfl, hq, ha, hb, p⟩ := h
  obtain ⟨n1, n2, n3⟩ := hn q a b rfl hq
  exact ⟨q, a, b, vs, ds, rfl, k _ _ hq n1, k _ _ ha n2, k _ _ hb n3, L2.Paired.mapP p fun _ _ h => h.keep k hS⟩
end Toll

set_option Elab.async false
set_option linter.all false
set_option maxRecDepth 100000
set_option maxHeartbeats 4000000
namespace L2
open PySem PySem.Spec PyProof.Rows
/-! xs[::k], k a number from 1 on: some of the items -/
theorem step_count (n : Nat) (st : Int) (h : 1 ≤ st) : (sliceRange 0 (n : Int) st).length ≤ n := by
  unfold sliceRange
  rw [List.length_map, List.length_range, if_pos (by omega)]
  split
  · have : ((n : Int) - 0 + st - 1) / st ≤ (n : Int) := by
      refine Int.ediv_le_of_le_mul (by omega) ?_
      have h1 : (n : Int) * 1 ≤ (n : Int) * st := Int.mul_le_mul_of_nonneg_left h (by omega)
      by_cases hn : n = 0
      · subst hn; omega
      · have : (n : Int) * st = ((n : Int) - 1) * st + st := by rw [Int.sub_mul]; omega
        have h2 : ((n : Int) - 1) * 1 ≤ ((n : Int) - 1) * st := Int.mul_le_mul_of_nonneg_left h (by omega)
        omega
    omega
  · simp
def stepV (xs : List V) (st : Int) : List V := (sliceRange 0 (xs.length : Int) st).filterMap (xs[·]?)
theorem stepV_len (xs : List V) (st : Int) (h : 1 ≤ st) : (stepV xs st).length ≤ xs.length := Nat.le_trans (List.length_filterMap_le _ _) (step_count _ st h)
theorem stepV_mem (xs : List V) (st : Int) : ∀ y ∈ stepV xs st, y ∈ xs := by
  intro y hy
  obtain ⟨i, _, e⟩ := List.mem_filterMap.mp hy
  exact List.mem_of_getElem? e
theorem vals_pick {xs : List V} {us : List Value} (r : Vals xs us) : ∀ (is : List Nat), Vals (is.filterMap (xs[·]?)) (is.filterMap (us[·]?))
  | [] => .nil
  | i :: is => by
    have ih := vals_pick r is
    cases e : xs[i]? with
    | none =>
      have e2 : us[i]? = none := by
        rw [List.getElem?_eq_none_iff] at e ⊢
        rw [← r.length]
        exact e
      rw [List.filterMap_cons_none e, List.filterMap_cons_none e2]
      exact ih
    | some x =>
      obtain ⟨u, e2, rx⟩ : ∃ u, us[i]? = some u ∧ RelV x u := Toll.paired_getL r e
      rw [List.filterMap_cons_some e, List.filterMap_cons_some e2]
      exact .cons rx ih
def rTupOf (K : PySem.W.Frag) : List V → Hp → VK → Prop := fun xs H Q => ∃ p ys, xs = [.ref p] ∧ ((SqL K H p ys ∧ ∀ l, H l = none → Q (.ref l) (upd H l (.tup ys))) ∨ (SqT K H p ys ∧ Q (.ref p) H))
def rListOf (K : PySem.W.Frag) : List V → Hp → VK → Prop := fun xs H Q => ∃ p ys, xs = [.ref p] ∧ (SqL K H p ys ∨ SqT K H p ys) ∧ ∀ l, H l = none → Q (.ref l) (upd H l (.lst ys))
def tStepL (K : PySem.W.Frag) (te ts : TE) : TE := fun σ H Q => te σ H fun x H1 => ts σ H1 fun y H2 => ∃ a xs st, x = .ref a ∧ y = .int st ∧ 1 ≤ st ∧ SqL K H2 a xs ∧ ∀ p, H2 p = none → Q (.ref p) (upd H2 p (.lst (stepV xs st)))
section
variable {X : Cx}
theorem pe_stepL {e es : Expr} {te ts : TE} {p3 pos : Pos} (he : PE X e te) (hs : PE X es ts) : PE X (.Subscript e (.Slice none none (some es) p3) pos) (tStepL X.K te ts) := by
  refine ⟨fun pins s σ H Q I h => ?_⟩
  refine Subscript_ (thn (he.run pins s σ H _ I h) fun v s1 ⟨x, H1, I1, r1, q1⟩ => ?_)
  refine wpAny_Slice (thn (po_none.run pins s1 σ H1 (fun o H2 => o = none ∧ H2 = H1) I1 ⟨rfl, rfl⟩) fun vl s2 ⟨l, H2, I2, pl, el, e2⟩ => ?_)
  subst el e2
  refine thn (po_none.run pins s2 σ H2 (fun o H3 => o = none ∧ H3 = H2) I2 ⟨rfl, rfl⟩) fun vu s3 ⟨u, H3, I3, pu, eu, e3⟩ => ?_
  subst eu e3
  rw [evalPart_some]
  refine thn (hs.run pins s3 σ H3 _ I3 q1) fun vs s4 ⟨y, H4, I4, ry, q4⟩ => ?_
  obtain ⟨a, xs, st, ex, ey, h1, hx, q⟩ := q4
  subst ex ey
  cases r1
  obtain ⟨tk, rfl⟩ := ry
  have I5 : Inv X pins σ H4 { s4 with heap := s4.heap.push { cls := .type "slice", data := .fields #[vl, vu, .int st tk] } } := I4.kept (t' := s4.toks) fun b ob q => Heap.get?_push_of_some _ q
  obtain ⟨its, r, ht, hz⟩ := I5.list hx
  have hlen := r.length
  show wpAny (model X.prog X.w) X.A (subscriptTail e (.Slice none none (some es) p3) (.ref a) (.ref s4.heap.objs.size)) (EP X pins σ Q) X.xe { s4 with heap := s4.heap.push { cls := .type "slice", data := .fields #[vl, vu, .int st tk] } }
  refine tail_any (ops := [.ref a, .ref s4.heap.objs.size]) ht.isList.typeIs (PySem.slot_list_getitem.lookup) ?_ (by with_unfolding_all rfl)
  refine wpAny_getItem_list_slice ht.isList (Heap.IsSliceOf.new _ vl vu (.int st tk)) pl pu (.int st tk) (by intro z; injection z with z; omega) ?_ (by rw [List.size_toArray]; omega)
  have hp : slicePick its.toArray none none (some st) = ((sliceRange 0 (xs.length : Int) st).filterMap (its[·]?)).toArray := by
    unfold slicePick
    have hb : sliceBounds none none (some st) its.toArray.size = (0, ((its.length : Nat) : Int), st) := by
      unfold sliceBounds
      simp only [Option.getD_some, List.size_toArray]
      rw [if_pos (by omega), if_pos (by omega)]
    rw [hb, hlen]
    simp only [List.getElem?_toArray]
  rw [hp]
  refine ⟨.ref _, _, I5.laid (t' := s4.toks) (o := .lst (stepV xs st)) (fun b ob q => Heap.get?_push_of_some _ q) (Nat.le_refl _) ?_, rfl, q _ (I5.hok.fresh (Nat.le_refl _))⟩
  exact ⟨Nat.le_trans (stepV_len xs st h1) hz, _, 0, vals_pick r _, Heap.get?_push_size _ rfl⟩
end
end L2

set_option Elab.async false
set_option linter.all false
set_option maxRecDepth 100000
set_option maxHeartbeats 4000000
namespace Toll
open PySem L2
theorem up_same {H H' : Hp} {a : Addr} {o : HO} (e : Same H H') (h : H a = some o) : H' a = some o := e a o h
theorem upd_at {H : Hp} {p a : Addr} {o u : HO} (n : a ≠ p) (h : H a = some u) : upd H p o a = some u := by rw [upd_ne n]; exact h
theorem passF {P : Program} {w : World} {X : Cx} : Passes (L2.CX P w) X E0 := fun _ _ _ _ _ _ _ h => by
  obtain ⟨_, _, _, _, _, _, _, _, _, _, _, _, h⟩ := h
  exact h.elim
theorem ixL_step {K : PySem.W.Frag} {H : Hp} {p : Addr} {xs : List V} {i : Int} {v : V} {Q : VK} (h : H p = some (.lst xs)) (a : atI xs i = some v) (q : Q v H) : rIxL K (.ref p) (.int i) H Q := ⟨p, xs, i, v, rfl, rfl, SqL.of h, a, q⟩
theorem ixT_step {K : PySem.W.Frag} {H : Hp} {p : Addr} {xs : List V} {i : Int} {v : V} {Q : VK} (h : H p = some (.tup xs)) (a : atI xs i = some v) (q : Q v H) : rIxT K (.ref p) (.int i) H Q := ⟨p, xs, i, v, rfl, rfl, SqT.of h, a, q⟩
theorem lenL_step {K : PySem.W.Frag} {H : Hp} {p : Addr} {xs : List V} {Q : VK} (h : H p = some (.lst xs)) (q : Q (.int xs.length) H) : (fun (vs : List V) H Q => ∃ p ys, vs = [V.ref p] ∧ (SqL K H p ys ∨ SqT K H p ys) ∧ Q (.int ys.length) H) [V.ref p] H Q := ⟨p, xs, rfl, .inl (SqL.of h), q⟩
theorem isi_step {K : PySem.W.Frag} {H : Hp} {x : V} {n t : String} {Q : VK} (b : Bool) (h : TyOf K H x (.type t)) (k : kitB t n = some b) (q : Q (.bl b) H) : rIsi K [x, V.ty n] H Q := ⟨x, .ty n, .type t, .type n, b, rfl, ClsV.ty _, TyX.base h, kit_ty k, q⟩
theorem gates_upd {H : Hp} {L : Addr} {xs : List V} {o : HO} {us : List V} {gs : List (Str × Bool)} (hL : H L = some (.lst xs)) (h : Paired (GateV H) us gs) : Paired (GateV (upd H L o)) us gs := L2.Paired.mapP h fun _ _ ⟨t, e, ht⟩ => ⟨t, e, by rw [upd_ne (ne_of ht hL (by intro z; cases z))]; exact ht⟩
theorem roads_upd {H : Hp} {L : Addr} {xs : List V} {o : HO} {us : List V} {rs : List RoadD} (hL : H L = some (.lst xs)) (h : Paired (RoadV H) us rs) : Paired (RoadV (upd H L o)) us rs := L2.Paired.mapP h fun _ _ ⟨t, e, ht⟩ => ⟨t, e, by rw [upd_ne (ne_of ht hL (by intro z; cases z))]; exact ht⟩
theorem map_ref_get {l : List Addr} {i : Nat} {x : V} (h : (l.map V.ref)[i]? = some x) : ∃ t, l[i]? = some t ∧ x = .ref t := by
  rw [List.getElem?_map] at h
  cases e : l[i]? with
  | none => rw [e] at h; cases h
  | some t => rw [e] at h; exact ⟨t, rfl, (Option.some.inj h).symm⟩
theorem Keep.free1 {c x : Addr} {H H' : Hp} (k : Keep [c] H H') (hc : H' c ≠ none) (h : H' x = none) : H x = none := by
  cases e : H x with
  | none => rfl
  | some o =>
    have hx : x ≠ c := fun z => hc (by rw [← z]; exact h)
    have := k x o e (by simpa using hx)
    rw [h] at this
    cases this
theorem sees_mem {gs : List (Str × Bool)} {q : Str × Bool} (h : q ∈ gs) : seesOf gs q.1 ≠ none := fun z => seesOf_none.mp z (List.mem_map.mpr ⟨q, h, rfl⟩)
theorem list_ne_tup {H : Hp} {k : Addr} {ps : List V} (hk : H k = some (.lst ps)) : ∀ a ∈ [k], ∀ xs, H a ≠ some (.tup xs) := fun a ha xs e => by
  rw [List.mem_singleton] at ha
  subst ha
  rw [hk] at e
  cases e
theorem DefOk.mono {P : Program} {w : World} {K : PySem.W.Frag} {mg : Str → Option Value} {base : Heap} {CX : CXT} {k : Nat} {f : Addr} {ps : List Str} {sp sp' : Sp} (h : DefOk P w K mg base CX k f ps sp) (m : ∀ vs H Q E, sp' vs H Q E → sp vs H Q E) : DefOk P w K mg base CX k f ps sp' := by
  obtain ⟨fd, F, B, kp⟩ := h
  exact ⟨fd, ⟨fun vs H Q E z => F.len _ _ _ _ (m _ _ _ _ z), fun A outer s H args us vs Q E hr e0 hb r z => F.run A outer s H args us vs Q E hr e0 hb r (m _ _ _ _ z)⟩, B, kp⟩
/-- a test's answer, new things made on the way -/
def AnsS (t : TT) (σ : L2.St) (H : Hp) (b : Bool) : Prop := ∀ Q : Bool → Hp → Prop, (∀ H', Same H H' → Q b H') → t σ H Q
theorem anS_of {t : TT} {σ : L2.St} {H : Hp} {b : Bool} (h : Ans t σ H b) : AnsS t σ H b := fun Q q => h Q (q H (Same.refl H))
theorem anS_or {t u : TT} {σ : L2.St} {H : Hp} {a b : Bool} (h1 : AnsS t σ H a) (h2 : a = false → ∀ H1, Same H H1 → AnsS u σ H1 b) : AnsS (tOr t u) σ H (a || b) := fun Q q => by
  refine h1 _ fun H1 s1 => ?_
  cases a with
  | true => exact q H1 s1
  | false => exact h2 rfl H1 s1 _ fun H2 s2 => q H2 (s1.trans s2)
theorem anS_and {t u : TT} {σ : L2.St} {H : Hp} {a b : Bool} (h1 : AnsS t σ H a) (h2 : a = true → ∀ H1, Same H H1 → AnsS u σ H1 b) : AnsS (tAnd t u) σ H (a && b) := fun Q q => by
  refine h1 _ fun H1 s1 => ?_
  cases a with
  | true => exact h2 rfl H1 s1 _ fun H2 s2 => q H2 (s1.trans s2)
  | false => exact q H1 s1
theorem seqS_if1 {c : TT} {t1 r : TS} {D : Ends} {σ : L2.St} {H : Hp} (b : Bool) (hc : AnsS c σ H b) (hT : b = true → ∀ H', Same H H' → t1 { D with nx := r D } σ H') (hF : b = false → ∀ H', Same H H' → r D σ H') : tSeq (tIfS c t1 tNext) r D σ H := by
  refine hc _ fun H' s => ?_
  cases b with
  | true => exact hT rfl H' s
  | false => exact hF rfl H' s
theorem doS_if1 {c : TT} {t1 : TS} {D : Ends} {σ : L2.St} {H : Hp} (b : Bool) (hc : AnsS c σ H b) (hT : b = true → ∀ H', Same H H' → t1 D σ H') (hF : b = false → ∀ H', Same H H' → D.nx σ H') : tIfS c t1 tNext D σ H := by
  refine hc _ fun H' s => ?_
  cases b with
  | true => exact hT rfl H' s
  | false => exact hF rfl H' s
theorem doS_if {c : TT} {t1 t2 : TS} {D : Ends} {σ : L2.St} {H : Hp} (b : Bool) (hc : AnsS c σ H b) (hT : b = true → ∀ H', Same H H' → t1 D σ H') (hF : b = false → ∀ H', Same H H' → t2 D σ H') : tIfS c t1 t2 D σ H := by
  refine hc _ fun H' s => ?_
  cases b with
  | true => exact hT rfl H' s
  | false => exact hF rfl H' s
end Toll

set_option Elab.async false
set_option linter.all false
set_option maxRecDepth 100000
set_option maxHeartbeats 4000000
namespace Toll
open PySem L2
/-! ### what is told, and kept: data -/
def gateD (q : Str × Bool) : PyData := .tuple [.str q.1, .bool q.2]
def roadD (r : RoadD) : PyData := .tuple [.str r.one, .str r.other, .int r.mi, .int r.tl, .bool r.op]
def NamesOk (N : NetD) : Prop := (∀ q ∈ N.gates, NameOk q.1) ∧ ∀ r ∈ N.roads, NameOk r.one ∧ NameOk r.other
theorem flatD_ok1 {x : Str} (h : NameOk x) : flatD (.str x) = some (.str x) := by
  rw [flatD_str, if_pos h.2.1]
theorem gates_items {H : Hp} : ∀ {us : List V} {gs : List (Str × Bool)}, Paired (GateV H) us gs → (∀ q ∈ gs, NameOk q.1) → Paired (ItemV H) us (gs.map gateD)
  | _, _, .nil, _ => .nil
  | _, q :: _, .cons ⟨t, e, ht⟩ r, h => .cons (.inr ⟨t, _, _, e, ht, .cons (flatD_ok1 (h q (List.mem_cons_self ..))) (.cons rfl .nil), rfl⟩) (gates_items r fun x hx => h x (List.mem_cons_of_mem _ hx))
theorem roads_items {H : Hp} : ∀ {us : List V} {rs : List RoadD}, Paired (RoadV H) us rs → (∀ r ∈ rs, NameOk r.one ∧ NameOk r.other) → Paired (ItemV H) us (rs.map roadD)
  | _, _, .nil, _ => .nil
  | _, q :: _, .cons ⟨t, e, ht⟩ r, h => .cons (.inr ⟨t, _, _, e, ht, .cons (flatD_ok1 (h q (List.mem_cons_self ..)).1) (.cons (flatD_ok1 (h q (List.mem_cons_self ..)).2) (.cons rfl (.cons rfl (.cons rfl .nil)))), rfl⟩) (roads_items r fun x hx => h x (List.mem_cons_of_mem _ hx))
theorem ints_items {H : Hp} : ∀ (ns : List Int), Paired (ItemV H) (ns.map V.int) (ns.map PyData.int)
  | [] => .nil
  | n :: ns => .cons (.inl ⟨n, rfl, rfl⟩) (ints_items ns)
/-- asked: two new lists of what the net holds -/
def AskedV (H H' : Hp) (N : NetD) (L1 L2 : Addr) : Prop := ∃ us1 us2, H L1 = none ∧ H L2 = none ∧ L1 ≠ L2 ∧ H' L1 = some (.lst us1) ∧ H' L2 = some (.lst us2) ∧ Paired (GateV H') us1 N.gates ∧ Paired (RoadV H') us2 N.roads
theorem AskedV.same {H H1 H2 : Hp} {N : NetD} {L1 L2 : Addr} (a : AskedV H H1 N L1 L2) (s : Same H1 H2) : AskedV H H2 N L1 L2 := by
  obtain ⟨us1, us2, n1, n2, ne, h1, h2, p1, p2⟩ := a
  exact ⟨us1, us2, n1, n2, ne, s _ _ h1, s _ _ h2, gatesV_same s p1, roads_same s p2⟩
/-- a pair that is new since H -/
def NewPair (H H' : Hp) (v : V) : Prop := ∃ (q a b : Addr) (vs : List V) (ds : List PyData), v = .ref q ∧ H q = none ∧ H a = none ∧ H b = none ∧ H' q = some (.lst [.ref a, .ref b]) ∧ H' a = some (.lst vs) ∧ H' b = some (.lst vs) ∧ Paired (ItemV H') vs ds
theorem ItemV.same {H H' : Hp} (s : Same H H') {v : V} {d : PyData} (h : ItemV H v d) : ItemV H' v d := by
  rcases h with h | ⟨t, xs, ds, e1, e2, p, e3⟩
  · exact .inl h
  · exact .inr ⟨t, xs, ds, e1, s _ _ e2, p, e3⟩
theorem items_same {H H' : Hp} (s : Same H H') {vs : List V} {ds : List PyData} (h : Paired (ItemV H) vs ds) : Paired (ItemV H') vs ds := L2.Paired.mapP h fun _ _ z => z.same s
theorem items_upd {H : Hp} {L : Addr} {xs : List V} {o : HO} {vs : List V} {ds : List PyData} (hL : H L = some (.lst xs)) (h : Paired (ItemV H) vs ds) : Paired (ItemV (upd H L o)) vs ds :=
  L2.Paired.mapP h fun v d z => by
    rcases z with z | ⟨t, ys, es, e1, e2, p, e3⟩
    · exact .inl z
    · exact .inr ⟨t, ys, es, e1, by rw [upd_ne (ne_of e2 hL (by intro z; cases z))]; exact e2, p, e3⟩
theorem NewPair.same {H H1 H2 : Hp} {v : V} (h : NewPair H H1 v) (s : Same H1 H2) : NewPair H H2 v := by
  obtain ⟨q, a, b, vs, ds, e, n1, n2, n3, h1, h2, h3, p⟩ := h
  exact ⟨q, a, b, vs, ds, e, n1, n2, n3, s _ _ h1, s _ _ h2, s _ _ h3, items_same s p⟩
/-- .. also while a list that was there, or that is none of the pair's, is written -/
theorem NewPair.upd {H H1 : Hp} {v : V} {L : Addr} {xs : List V} {o : HO} (h : NewPair H H1 v) (hL : H1 L = some (.lst xs)) (hn : H L ≠ none) : NewPair H (upd H1 L o) v := by
  obtain ⟨q, a, b, vs, ds, e, n1, n2, n3, h1, h2, h3, p⟩ := h
  have ne : ∀ x, H x = none → x ≠ L := fun x hx z => hn (by rw [← z]; exact hx)
  exact ⟨q, a, b, vs, ds, e, n1, n2, n3, by rw [upd_ne (ne q n1)]; exact h1, by rw [upd_ne (ne a n2)]; exact h2, by rw [upd_ne (ne b n3)]; exact h3, items_upd hL p⟩
/-! ### the lists told, apart from F -/
def KF (H : Hp) (F : List Addr) (ps : List V) : Prop := ∀ v ∈ ps, ∃ (q a b : Addr) (vs : List V) (ds : List PyData), v = .ref q ∧ H q = some (.lst [.ref a, .ref b]) ∧ H a = some (.lst vs) ∧ H b = some (.lst vs) ∧ Paired (ItemV H) vs ds ∧ q ∉ F ∧ a ∉ F ∧ b ∉ F
theorem KF.keep {H H' : Hp} {F S : List Addr} {ps : List V} (h : KF H F ps) (k : Keep S H H') (hs : ∀ x ∈ S, x ∈ F) (hS : ∀ a ∈ S, ∀ xs, H a ≠ some (.tup xs)) : KF H' F ps := fun v hv => by
  obtain ⟨q, a, b, vs, ds, e, h1, h2, h3, p, n1, n2, n3⟩ := h v hv
  exact ⟨q, a, b, vs, ds, e, k _ _ h1 fun m => n1 (hs _ m), k _ _ h2 fun m => n2 (hs _ m), k _ _ h3 fun m => n3 (hs _ m), L2.Paired.mapP p fun _ _ z => z.keep k hS, n1, n2, n3⟩
theorem KF.same {H H' : Hp} {F : List Addr} {ps : List V} (h : KF H F ps) (s : Same H H') : KF H' F ps := h.keep (S := []) (Keep.of_same s) (by simp) (by simp)
theorem KF.grow {H : Hp} {F F' : List Addr} {ps : List V} (h : KF H F ps) (hF : ∀ x ∈ F', x ∈ F ∨ H x = none) : KF H F' ps := fun v hv => by
  obtain ⟨q, a, b, vs, ds, e, h1, h2, h3, p, n1, n2, n3⟩ := h v hv
  have z : ∀ x o, H x = some o → x ∉ F → x ∉ F' := fun x o hx n m => by
    rcases hF x m with m | m
    · exact n m
    · rw [hx] at m
      cases m
  exact ⟨q, a, b, vs, ds, e, h1, h2, h3, p, z _ _ h1 n1, z _ _ h2 n2, z _ _ h3 n3⟩
theorem KF.app {H : Hp} {F : List Addr} {ps qs : List V} (h : KF H F ps) (h2 : KF H F qs) : KF H F (ps ++ qs) := fun v hv => by
  rcases List.mem_append.mp hv with hv | hv
  · exact h v hv
  · exact h2 v hv
theorem KF.new {H H' : Hp} {F : List Addr} {ps : List V} (h : ∀ v ∈ ps, NewPair H H' v) (hF : ∀ x ∈ F, H x ≠ none) : KF H' F ps := fun v hv => by
  obtain ⟨q, a, b, vs, ds, e, n1, n2, n3, h1, h2, h3, p⟩ := h v hv
  exact ⟨q, a, b, vs, ds, e, h1, h2, h3, p, fun m => hF _ m n1, fun m => hF _ m n2, fun m => hF _ m n3⟩
theorem KF.pairs {H : Hp} {F : List Addr} {ps : List V} (h : KF H F ps) : ∀ v ∈ ps, PairV H v := fun v hv => by
  obtain ⟨q, a, b, vs, ds, e, h1, h2, h3, p, _⟩ := h v hv
  exact ⟨q, a, b, vs, ds, e, h1, h2, h3, p⟩
/-! ### a net and the account of it, apart -/
def foot (g r o og orr : Addr) (gts rts : List Addr) : List Addr := g :: r :: o :: og :: orr :: (gts ++ rts)
structure Side (C : Addr) (H : Hp) (p g r o og orr : Addr) (gts rts : List Addr) (N : NetD) : Prop where
  net : NetAt C H p g r N
  own : OwnAt H o og orr gts rts N
  nm : NamesOk N
  ap : r ∉ o :: og :: orr :: (gts ++ rts)
section
variable {C : Addr} {H H' : Hp} {p g r o og orr : Addr} {gts rts : List Addr} {N : NetD}
theorem Side.known (s : Side C H p g r o og orr gts rts N) : ∀ x ∈ foot g r o og orr gts rts, ∃ u, H x = some u ∧ (∀ xs, u ≠ .tup xs) ∧ (∀ c d f, u ≠ .ins c d f) := by
  intro x hx
  unfold foot at hx
  rcases List.mem_cons.mp hx with e | hx
  · subst e
    exact ⟨_, s.net.gt, (by intro xs z; cases z), (by intro c d f z; cases z)⟩
  rcases List.mem_cons.mp hx with e | hx
  · subst e
    obtain ⟨us, h, _⟩ := s.net.rt
    exact ⟨_, h, (by intro xs z; cases z), (by intro c d f z; cases z)⟩
  obtain ⟨xs, h⟩ := s.own.lists x hx
  exact ⟨_, h, (by intro xs z; cases z), (by intro c d f z; cases z)⟩
theorem Side.noTup (s : Side C H p g r o og orr gts rts N) : ∀ a ∈ foot g r o og orr gts rts, ∀ xs, H a ≠ some (.tup xs) := fun a ha xs e => by
  obtain ⟨u, h, n, _⟩ := s.known a ha
  rw [e] at h
  exact n xs (Option.some.inj h).symm
theorem Side.there (s : Side C H p g r o og orr gts rts N) : ∀ x ∈ foot g r o og orr gts rts, H x ≠ none := fun x hx e => by
  obtain ⟨u, h, _⟩ := s.known x hx
  rw [e] at h
  cases h
theorem Side.pno (s : Side C H p g r o og orr gts rts N) {S : List Addr} (hS : ∀ x ∈ S, ∃ u, H x = some u ∧ ∀ c d f, u ≠ .ins c d f) : p ∉ S := fun m => by
  obtain ⟨u, h, n⟩ := hS p m
  obtain ⟨⟨dx, e⟩, _⟩ := s.net
  rw [e] at h
  exact n _ _ _ (Option.some.inj h).symm
/-- a side stands while what changes is none of its own, and no tuple, no instance -/
theorem Side.keep (s : Side C H p g r o og orr gts rts N) {S : List Addr} (k : Keep S H H') (hd : ∀ x ∈ S, x ∉ foot g r o og orr gts rts) (hS : ∀ x ∈ S, ∃ u, H x = some u ∧ (∀ xs, u ≠ .tup xs) ∧ ∀ c d f, u ≠ .ins c d f) : Side C H' p g r o og orr gts rts N := by
  have hp : p ∉ S := s.pno fun x hx => by obtain ⟨u, a, _, b⟩ := hS x hx; exact ⟨u, a, b⟩
  have ht : ∀ a ∈ S, ∀ xs, H a ≠ some (.tup xs) := fun a ha xs e => by
    obtain ⟨u, h, n, _⟩ := hS a ha
    rw [e] at h
    exact n xs (Option.some.inj h).symm
  refine ⟨s.net.keep k hp (fun m => hd _ m (by simp [foot])) (fun m => hd _ m (by simp [foot])) ht, s.own.keep k fun x hx m => hd x hx (by unfold foot; exact List.mem_cons_of_mem _ (List.mem_cons_of_mem _ m)), s.nm, s.ap⟩
theorem Side.same (s : Side C H p g r o og orr gts rts N) (e : Same H H') : Side C H' p g r o og orr gts rts N := s.keep (S := []) (Keep.of_same e) (by simp) (by simp)
/-- a deed at the net, then at the account -/
theorem Side.deed {H1 H2 : Hp} {gts' rts' : List Addr} {d : Deed} (s : Side C H p g r o og orr gts rts N) (hd : d.ok) (n1 : NetAt C H1 p g r (done N d)) (k1 : Keep [g, r] H H1)
    (o2 : OwnAt H2 o og orr gts' rts' (done N d)) (k2 : Keep (o :: og :: orr :: (gts ++ rts)) H1 H2) (f2 : ∀ x ∈ gts' ++ rts', x ∈ gts ++ rts ∨ H1 x = none) :
    Side C H2 p g r o og orr gts' rts' (done N d) ∧ Keep (foot g r o og orr gts rts) H H2 ∧ ∀ x ∈ foot g r o og orr gts' rts', x ∈ foot g r o og orr gts rts ∨ H x = none := by
  have kk : ∀ x ∈ o :: og :: orr :: (gts ++ rts), x ∉ [g, r] := fun x hx m => by
    rcases List.mem_cons.mp m with e | m
    · subst e
      obtain ⟨xs, h⟩ := s.own.lists x hx
      rw [s.net.gt] at h
      cases h
    · rw [List.mem_singleton] at m
      subst m
      exact s.ap hx
  have o1 : OwnAt H1 o og orr gts rts N := s.own.keep k1 fun x hx m => kk x m hx
  have hL : ∀ x ∈ o :: og :: orr :: (gts ++ rts), ∃ xs, H1 x = some (.lst xs) := o1.lists
  have fr : ∀ x, H1 x = none → H x = none := fun x hx => by
    cases e : H x with
    | none => rfl
    | some u =>
      by_cases m : x ∈ [g, r]
      · rcases List.mem_cons.mp m with z | m
        · subst z
          rw [n1.gt] at hx
          cases hx
        · rw [List.mem_singleton] at m
          subst m
          obtain ⟨us, h, _⟩ := n1.rt
          rw [h] at hx
          cases hx
      · have := k1 x u e m
        rw [hx] at this
        cases this
  refine ⟨⟨n1.keep k2 (fun m => ?_) (fun m => ?_) s.ap (fun a ha xs e => ?_), o2, ?_, fun m => ?_⟩, ?_, fun x hx => ?_⟩
  · obtain ⟨xs, h⟩ := hL p m
    obtain ⟨dx, e⟩ := n1.ob
    rw [e] at h
    cases h
  · obtain ⟨xs, h⟩ := hL g m
    rw [n1.gt] at h
    cases h
  · obtain ⟨ys, h⟩ := hL a ha
    rw [e] at h
    cases h
  · obtain ⟨a1, a2⟩ := s.nm
    cases d with
    | gate nm b =>
      refine ⟨fun q hq => ?_, a2⟩
      rcases List.mem_append.mp hq with hq | hq
      · exact a1 q hq
      · rw [List.mem_singleton] at hq
        subst hq
        exact hd
    | road one other mi tl =>
      refine ⟨a1, fun q hq => ?_⟩
      rcases List.mem_append.mp hq with hq | hq
      · exact a2 q hq
      · rw [List.mem_singleton] at hq
        subst hq
        exact hd
    | turn b nm =>
      refine ⟨fun q hq => ?_, a2⟩
      obtain ⟨q0, h0, e⟩ := List.mem_map.mp (show q ∈ setSees N.gates nm b from hq)
      have := a1 q0 h0
      split at e <;> (subst e; exact this)
    | lane b n =>
      show NamesOk (match N.roads[n.toNat]? with | none => N | some r => { N with roads := N.roads.set n.toNat { r with op := b } })
      cases e : N.roads[n.toNat]? with
      | none => exact ⟨a1, a2⟩
      | some rd =>
        refine ⟨a1, fun q hq => ?_⟩
        rcases List.mem_or_eq_of_mem_set hq with h | h
        · exact a2 q h
        · subst h
          exact a2 rd (List.mem_of_getElem? e)
  · have hr1 : H1 r ≠ none := by
      obtain ⟨us, h, _⟩ := n1.rt
      rw [h]
      simp
    have hap := s.ap
    simp only [List.mem_cons, not_or] at m hap
    rcases m with e | e | e | m
    · exact hap.1 e
    · exact hap.2.1 e
    · exact hap.2.2.1 e
    · rcases f2 r m with h | h
      · exact hap.2.2.2 h
      · exact hr1 h
  · refine (k1.mono fun x hx => ?_).trans (k2.mono fun x hx => ?_)
    · unfold foot
      simp only [List.mem_cons, List.not_mem_nil, or_false] at hx ⊢
      rcases hx with e | e <;> simp [e]
    · unfold foot
      exact List.mem_cons_of_mem _ (List.mem_cons_of_mem _ hx)
  · unfold foot at hx ⊢
    simp only [List.mem_cons] at hx ⊢
    rcases hx with e | e | e | e | e | m
    · exact .inl (.inl e)
    · exact .inl (.inr (.inl e))
    · exact .inl (.inr (.inr (.inl e)))
    · exact .inl (.inr (.inr (.inr (.inl e))))
    · exact .inl (.inr (.inr (.inr (.inr (.inl e)))))
    · rcases f2 x m with h | h
      · exact .inl (.inr (.inr (.inr (.inr (.inr h)))))
      · exact .inr (fr x h)
end
theorem Keep.trans2 {S T : List Addr} {H H1 H2 : Hp} (a : Keep S H H1) (b : Keep T H1 H2) (h : ∀ x ∈ T, x ∈ S ∨ H x = none) : Keep S H H2 := fun c o e n => b c o (a c o e n) fun m => by
  rcases h c m with z | z
  · exact n z
  · rw [e] at z
    cases z
theorem foot_fresh {S T : List Addr} {H H1 : Hp} {F : List Addr} (a : Keep S H H1) (hS : ∀ x ∈ S, H1 x ≠ none) (f1 : ∀ x ∈ T, x ∈ S ∨ H x = none) (f2 : ∀ x ∈ F, x ∈ T ∨ H1 x = none) : ∀ x ∈ F, x ∈ S ∨ H x = none := fun x hx => by
  rcases f2 x hx with h | h
  · exact f1 x h
  · refine .inr ?_
    cases e : H x with
    | none => rfl
    | some u =>
      by_cases m : x ∈ S
      · exact absurd h (hS x m)
      · have := a x u e m
        rw [h] at this
        cases this
theorem DeedV.keep {S : List Addr} {H H' : Hp} {v : V} {d : Deed} (k : Keep S H H') (hS : ∀ a ∈ S, ∀ xs, H a ≠ some (.tup xs)) (h : DeedV H v d) : DeedV H' v d := by
  obtain ⟨t, e, h⟩ := h
  exact ⟨t, e, k t _ h fun m => hS t m _ h⟩
/-! ### names that differ by a number -/
theorem nameOf_inj {b s t : Int} (hb : b % 3 = 1) (hs : 0 ≤ s) (ht : 0 ≤ t) (h : nameOf b s = nameOf b t) : s = t := by
  rw [nameOf_def, nameOf_def] at h
  have h := sx_inj h
  have e : ∀ u, nameL b u = (sg b).take (1 + b / 3 % 5).toNat ++ digs u := fun u => by
    unfold nameL
    rw [if_neg (by omega), if_pos (by omega)]
  rw [e, e, List.append_cancel_left_eq, digs_def, digs_def] at h
  have := TL.numL_inj h
  omega
def gatesF (b : Int) (n : Nat) : List (Str × Bool) := (List.range n).map fun k : Nat => (nameOf b (k : Int), decide ((k : Int) % 2 = 0))
def otherF (k : Int) : Int := k % 49 + 1 + (if k % 49 + 1 = k % 50 then 1 else 0)
def roadsF2 (b : Int) (n : Nat) : List RoadD := (List.range n).map fun k : Nat => ⟨nameOf b ((k : Int) % 50), nameOf b (otherF (k : Int)), 1 + (k : Int), (k : Int), true⟩
theorem gatesF_len (b : Int) (n : Nat) : (gatesF b n).length = n := by simp [gatesF]
theorem roadsF2_len (b : Int) (n : Nat) : (roadsF2 b n).length = n := by simp [roadsF2]
theorem gatesF_succ (b : Int) (n : Nat) : gatesF b (n + 1) = gatesF b n ++ [(nameOf b (n : Int), decide ((n : Int) % 2 = 0))] := by simp [gatesF, List.range_succ]
theorem roadsF2_succ (b : Int) (n : Nat) : roadsF2 b (n + 1) = roadsF2 b n ++ [⟨nameOf b ((n : Int) % 50), nameOf b (otherF (n : Int)), 1 + (n : Int), (n : Int), true⟩] := by simp [roadsF2, List.range_succ]
theorem gatesF_no {b : Int} (hb : b % 3 = 1) (n : Nat) : seesOf (gatesF b n) (nameOf b (n : Int)) = none := by
  rw [seesOf_none]
  intro m
  obtain ⟨q, hq, e⟩ := List.mem_map.mp m
  obtain ⟨k, hk, rfl⟩ := List.mem_map.mp hq
  have hk := List.mem_range.mp hk
  have := nameOf_inj hb (by omega) (by omega) e
  omega
theorem gatesF_yes (b : Int) (n : Nat) (t : Int) (h0 : 0 ≤ t) (h1 : t < n) : seesOf (gatesF b n) (nameOf b t) ≠ none := by
  intro z
  refine seesOf_none.mp z (List.mem_map.mpr ⟨(nameOf b t, decide (t % 2 = 0)), List.mem_map.mpr ⟨t.toNat, List.mem_range.mpr (by omega), ?_⟩, rfl⟩)
  rw [Int.toNat_of_nonneg h0]
/-- the deeds that fill a net -/
def fillDeed (b : Int) (n i : Nat) : Deed := if i < n then .gate (nameOf b (i : Int)) (decide ((i : Int) % 2 = 0)) else .road (nameOf b (((i - n : Nat) : Int) % 50)) (nameOf b (otherF ((i - n : Nat) : Int))) (1 + ((i - n : Nat) : Int)) ((i - n : Nat) : Int)
def fillNet (b : Int) (n i : Nat) : NetD := ⟨gatesF b (min i n), roadsF2 b (i - n)⟩
theorem fill_ok {b : Int} {n i : Nat} (hi : i < n + 200) (hn : n < 200) : (fillDeed b n i).ok := by
  unfold fillDeed
  split
  · exact nameOk_of (by omega) (by omega)
  · exact ⟨nameOk_of (by omega) (by omega), nameOk_of (by unfold otherF; split <;> omega) (by unfold otherF; split <;> omega)⟩
theorem fill_done {b : Int} {n i : Nat} : done (fillNet b n i) (fillDeed b n i) = fillNet b n (i + 1) := by
  unfold fillNet fillDeed
  by_cases h : i < n
  · rw [if_pos h, Nat.min_eq_left (by omega), Nat.min_eq_left (by omega), show i - n = 0 by omega, show i + 1 - n = 0 by omega, gatesF_succ]
    rfl
  · rw [if_neg h, Nat.min_eq_right (by omega), Nat.min_eq_right (by omega), show i + 1 - n = (i - n) + 1 by omega, roadsF2_succ]
    rfl
theorem fill_free {b : Int} {n i : Nat} (hb : b % 3 = 1) (hn : 55 ≤ n) (hn2 : n ≤ 60) (hi : i < n + 200) : refusal (fillNet b n i) (fillDeed b n i) = none := by
  unfold fillNet fillDeed
  by_cases h : i < n
  · rw [if_pos h, Nat.min_eq_left (by omega)]
    show (if seesOf (gatesF b i) _ ≠ none then some ("SameGate" : Str) else if 59 < (gatesF b i).length then some ("FullNet" : Str) else none) = none
    rw [if_neg (by rw [gatesF_no hb]; simp), if_neg (by rw [gatesF_len]; omega)]
  · rw [if_neg h, Nat.min_eq_right (by omega)]
    have hm : i - n < 200 := by omega
    generalize i - n = m at hm
    have h1 := gatesF_yes b n ((m : Int) % 50) (by omega) (by omega)
    have h2 := gatesF_yes b n (otherF (m : Int)) (by unfold otherF; split <;> omega) (by unfold otherF; split <;> omega)
    have h3 : ¬ nameOf b ((m : Int) % 50) = nameOf b (otherF (m : Int)) := fun e => by
      have := nameOf_inj hb (by omega) (by unfold otherF; split <;> omega) e
      unfold otherF at this
      split at this <;> omega
    show (if seesOf (gatesF b n) _ = none ∨ seesOf (gatesF b n) _ = none then some ("NoGate" : Str) else if _ = _ then some ("SameGate" : Str) else if ¬ (0 < _ ∧ _ < 1000001) ∨ ¬ (0 ≤ _ ∧ _ < 1000001) then some ("NoNumber" : Str) else if 199 < (roadsF2 b m).length then some ("FullNet" : Str) else none) = none
    rw [if_neg (by intro z; rcases z with z | z; exact h1 z; exact h2 z), if_neg h3, if_neg (by omega), if_neg (by rw [roadsF2_len]; omega)]
end Toll

set_option Elab.async false
set_option linter.all false
set_option maxRecDepth 100000
set_option maxHeartbeats 4000000
namespace Toll
open PySem L2
structure SD where
  p : Addr
  g : Addr
  r : Addr
  o : Addr
  og : Addr
  orr : Addr
  gts : List Addr
  rts : List Addr
  N : NetD
def SD.at (s : SD) (C : Addr) (H : Hp) : Prop := Side C H s.p s.g s.r s.o s.og s.orr s.gts s.rts s.N
def SD.foot (s : SD) : List Addr := Toll.foot s.g s.r s.o s.og s.orr s.gts s.rts
/-- two nets and their accounts, the lists told: all apart, all new since H0, none of it in W -/
structure Two (C : Addr) (H0 : Hp) (W : List Addr) (H : Hp) (k : Addr) (ps : List V) (s t : SD) : Prop where
  s1 : s.at C H
  t1 : t.at C H
  ap : ∀ x ∈ s.foot, x ∉ t.foot
  ks : k ∉ s.foot
  kt : k ∉ t.foot
  kl : H k = some (.lst ps)
  kf : KF H (k :: (s.foot ++ t.foot)) ps
  sm : Same H0 H
  nw : ∀ x ∈ k :: (s.foot ++ t.foot), H0 x = none ∧ x ∉ W
  wt : ∀ x ∈ W, H x ≠ none
section
variable {C k : Addr} {H0 H H2 : Hp} {W : List Addr} {ps : List V} {s t : SD}
theorem Two.swap (h : Two C H0 W H k ps s t) : Two C H0 W H k ps t s :=
  ⟨h.t1, h.s1, fun x hx m => h.ap x m hx, h.kt, h.ks, h.kl, h.kf.grow fun x hx => .inl (by simp only [List.mem_cons, List.mem_append] at hx ⊢; rcases hx with e | e | e <;> simp [e]), h.sm,
    fun x hx => h.nw x (by simp only [List.mem_cons, List.mem_append] at hx ⊢; rcases hx with e | e | e <;> simp [e]), h.wt⟩
theorem SD.listOrDict (h : s.at C H) : ∀ x ∈ s.foot, ∃ u, H x = some u ∧ (∀ xs, u ≠ .tup xs) ∧ ∀ c d f, u ≠ .ins c d f := Side.known h
theorem Two.same (h : Two C H0 W H k ps s t) (e : Same H H2) : Two C H0 W H2 k ps s t :=
  ⟨Side.same h.s1 e, Side.same h.t1 e, h.ap, h.ks, h.kt, e _ _ h.kl, h.kf.same e, h.sm.trans e, h.nw, fun x hx z => h.wt x hx (e.free z)⟩
theorem same_keep {S : List Addr} (a : Same H0 H) (b : Keep S H H2) (h : ∀ x ∈ S, H0 x = none) : Same H0 H2 := fun x o e => b x o (a x o e) fun m => by
  rw [h x m] at e
  cases e
theorem Two.deed (h : Two C H0 W H k ps s t) {s' : SD} (h2 : s'.at C H2) (kp : Keep s.foot H H2) (fr : ∀ x ∈ s'.foot, x ∈ s.foot ∨ H x = none) : Two C H0 W H2 k ps s' t := by
  have hs := SD.listOrDict h.s1
  have hkn : ∀ x, H x = none → H0 x = none ∧ x ∉ W := fun x hx => ⟨h.sm.free hx, fun m => h.wt x m hx⟩
  refine ⟨h2, Side.keep h.t1 kp h.ap hs, fun x hx m => ?_, fun m => ?_, h.kt, kp _ _ h.kl h.ks, ?_, same_keep h.sm kp fun x hx => (h.nw x (by simp [hx])).1, fun x hx => ?_, fun x hx z => ?_⟩
  · rcases fr x hx with e | e
    · exact h.ap x e m
    · exact Side.there h.t1 x m e
  · rcases fr k m with e | e
    · exact h.ks e
    · have := h.kl
      rw [e] at this
      cases this
  · have big : KF H (k :: (s.foot ++ s'.foot ++ t.foot)) ps := h.kf.grow fun x hx => by
      simp only [List.mem_cons, List.mem_append] at hx ⊢
      rcases hx with e | (e | e) | e
      · exact .inl (.inl e)
      · exact .inl (.inr (.inl e))
      · rcases fr x e with z | z
        · exact .inl (.inr (.inl z))
        · exact .inr z
      · exact .inl (.inr (.inr e))
    have big2 := big.keep kp (fun x hx => by simp [hx]) fun a ha xs e => by
      obtain ⟨u, hu, n, _⟩ := hs a ha
      rw [e] at hu
      exact n xs (Option.some.inj hu).symm
    exact big2.grow fun x hx => .inl (by simp only [List.mem_cons, List.mem_append] at hx ⊢; rcases hx with e | e | e <;> simp [e])
  · simp only [List.mem_cons, List.mem_append] at hx
    rcases hx with e | e | e
    · exact h.nw x (by simp [e])
    · rcases fr x e with z | z
      · exact h.nw x (by simp [z])
      · exact hkn x z
    · exact h.nw x (by simp [e])
  · obtain ⟨o, ho⟩ : ∃ o, H x = some o := by
      cases e : H x with
      | none => exact absurd e (h.wt x hx)
      | some o => exact ⟨o, rfl⟩
    have := kp x o ho fun m => (h.nw x (by simp [m])).2 hx
    rw [z] at this
    cases this
theorem Two.told (h : Two C H0 W H k ps s t) {news : List V} (kp : Keep [k] H H2) (e : H2 k = some (.lst (ps ++ news))) (hn : ∀ v ∈ news, NewPair H H2 v) : Two C H0 W H2 k (ps ++ news) s t := by
  have hk : ∀ x ∈ [k], ∃ u, H x = some u ∧ (∀ xs, u ≠ .tup xs) ∧ ∀ c d f, u ≠ .ins c d f := fun x hx => by
    rw [List.mem_singleton] at hx
    subst hx
    exact ⟨_, h.kl, (by intro xs z; cases z), (by intro c d f z; cases z)⟩
  refine ⟨Side.keep h.s1 kp (fun x hx => ?_) hk, Side.keep h.t1 kp (fun x hx => ?_) hk, h.ap, h.ks, h.kt, e, ?_, same_keep h.sm kp fun x hx => ?_, h.nw, fun x hx z => ?_⟩
  · rw [List.mem_singleton] at hx
    subst hx
    exact h.ks
  · rw [List.mem_singleton] at hx
    subst hx
    exact h.kt
  · refine (h.kf.keep kp (fun x hx => ?_) (list_ne_tup h.kl)).app (KF.new hn fun x hx z => ?_)
    · rw [List.mem_singleton] at hx
      simp [hx]
    · simp only [List.mem_cons, List.mem_append] at hx
      rcases hx with q | q | q
      · subst q
        rw [h.kl] at z
        cases z
      · exact Side.there h.s1 x q z
      · exact Side.there h.t1 x q z
  · rw [List.mem_singleton] at hx
    subst hx
    exact (h.nw _ (List.mem_cons_self ..)).1
  · obtain ⟨o, ho⟩ : ∃ o, H x = some o := by
      cases e : H x with
      | none => exact absurd e (h.wt x hx)
      | some o => exact ⟨o, rfl⟩
    have := kp x o ho fun m => by
      rw [List.mem_singleton] at m
      subst m
      exact (h.nw _ (List.mem_cons_self ..)).2 hx
    rw [z] at this
    cases this
theorem Two.watch (h : Two C H0 W H k ps s t) {S : List Addr} (kp : Keep S H H2) (hS : ∀ x ∈ S, x ∈ k :: (s.foot ++ t.foot)) {x : Addr} {o : HO} (hx : x ∈ W) (e : H x = some o) : H2 x = some o := kp x o e fun m => (h.nw x (hS x m)).2 hx
end
theorem refusal_ok {N : NetD} {d : Deed} {c : Str} (h : refusal N d = some c) : PyData.strOk c = true := by
  have l1 : PyData.strOk ("SameGate" : Str) = true := by decide +kernel
  have l2 : PyData.strOk ("FullNet" : Str) = true := by decide +kernel
  have l3 : PyData.strOk ("NoGate" : Str) = true := by decide +kernel
  have l4 : PyData.strOk ("NoNumber" : Str) = true := by decide +kernel
  have l5 : PyData.strOk ("Already" : Str) = true := by decide +kernel
  have l6 : PyData.strOk ("NoRoad" : Str) = true := by decide +kernel
  have z : ∀ {x : Str}, PyData.strOk x = true → some x = some c → PyData.strOk c = true := fun hx e => by
    rw [← Option.some.inj e]
    exact hx
  cases d with
  | gate nm b =>
    have h : (if seesOf N.gates nm ≠ none then some ("SameGate" : Str) else if 59 < N.gates.length then some ("FullNet" : Str) else none) = some c := h
    split at h
    · exact z l1 h
    · split at h
      · exact z l2 h
      · cases h
  | road one other mi tl =>
    have h : (if seesOf N.gates one = none ∨ seesOf N.gates other = none then some ("NoGate" : Str)
      else if one = other then some ("SameGate" : Str)
      else if ¬ (0 < mi ∧ mi < 1000001) ∨ ¬ (0 ≤ tl ∧ tl < 1000001) then some ("NoNumber" : Str)
      else if 199 < N.roads.length then some ("FullNet" : Str) else none) = some c := h
    split at h
    · exact z l3 h
    · split at h
      · exact z l1 h
      · split at h
        · exact z l4 h
        · split at h
          · exact z l2 h
          · cases h
  | turn b nm =>
    rw [refusal_turn] at h
    split at h
    · exact z l3 h
    · split at h
      · exact z l5 h
      · cases h
  | lane b n =>
    rw [refusal_lane] at h
    split at h
    · split at h
      · exact z l6 h
      · split at h
        · exact z l5 h
        · cases h
    · exact z l6 h
/-- what is due and what is found: alike -/
def Alike (H : Hp) (u v : V) : Prop := (∃ (L M : Addr) (c : Str), u = .ref L ∧ v = .ref M ∧ H L = some (.lst [.str c]) ∧ H M = some (.lst [.str c]) ∧ PyData.strOk c = true) ∨ (u = .non ∧ v = .non) ∨ ∃ i, u = .int i ∧ v = .int i
theorem Alike.dp {K : PySem.W.Frag} {H : Hp} {u v : V} (h : Alike H u v) : ∃ d, Dp K H u d ∧ Dp K H v d ∧ okD 1 d := by
  rcases h with ⟨L, M, c, rfl, rfl, h1, h2, ok⟩ | ⟨rfl, rfl⟩ | ⟨i, rfl, rfl⟩
  · refine ⟨.list [.str c], .lst (SqL.of h1) (.cons (.str _) .nil), .lst (SqL.of h2) (.cons (.str _) .nil), okD_list fun d hd => ?_⟩
    rw [List.mem_singleton] at hd
    rw [hd]
    exact okD_str ok
  · exact ⟨.none, .non, .non, ⟨by simp [PyData.canLay0], by simp [PyData.depth]⟩⟩
  · exact ⟨.int i, .int i, .int i, ⟨(okD_int i).1, by have := (okD_int i).2; omega⟩⟩
theorem Two.mk0 {C k : Addr} {H0 Hb H : Hp} {W : List Addr} {p0 g0 r0 o0 a0 b0 : Addr} {gts rts : List Addr} {N : NetD} {t : SD} (sb : Same H0 Hb) (f0 : ∀ y ∈ foot g0 r0 o0 a0 b0 [] [], H0 y = none) (f1 : ∀ y ∈ t.foot, H0 y = none) (hd : ∀ y ∈ foot g0 r0 o0 a0 b0 [] [], y ∉ t.foot)
    (w0 : ∀ y ∈ W, y ∉ foot g0 r0 o0 a0 b0 [] [] ∧ y ∉ t.foot ∧ Hb y ≠ none) (S0b : Side C Hb p0 g0 r0 o0 a0 b0 [] [] ⟨[], []⟩) (S1 : t.at C Hb) (S0 : Side C H p0 g0 r0 o0 a0 b0 gts rts N) (kp : Keep (foot g0 r0 o0 a0 b0 [] []) Hb H)
    (fr : ∀ x ∈ foot g0 r0 o0 a0 b0 gts rts, x ∈ foot g0 r0 o0 a0 b0 [] [] ∨ Hb x = none) (nk : H k = none) : Two C H0 W (upd H k (.lst [])) k [] ⟨p0, g0, r0, o0, a0, b0, gts, rts, N⟩ t := by
  have S1' : t.at C H := Side.keep S1 kp hd (Side.known S0b)
  have sm : Same H0 H := same_keep sb kp f0
  have wk : ∀ y ∈ W, H y ≠ none := fun y hy z => by
    obtain ⟨n0, n1, ny⟩ := w0 y hy
    cases e : Hb y with
    | none => exact ny e
    | some o =>
      have := kp y o e n0
      rw [z] at this
      cases this
  refine ⟨Side.same S0 (same_up nk), Side.same S1' (same_up nk), fun x hx m => ?_, fun m => Side.there S0 k m nk, fun m => Side.there S1' k m nk, upd_same, (by intro v hv; cases hv), sm.trans (same_up nk), fun x hx => ?_, fun x hx z => wk x hx ((same_up nk).free z)⟩
  · rcases fr x hx with e | e
    · exact hd x e m
    · exact Side.there S1 x m e
  · rcases List.mem_cons.mp hx with e | hx
    · subst e
      exact ⟨sm.free nk, fun m => wk _ m nk⟩
    · rcases List.mem_append.mp hx with hx | hx
      · rcases fr x hx with e | e
        · exact ⟨f0 x e, fun m => (w0 x m).1 e⟩
        · exact ⟨sb.free e, fun m => (w0 x m).2.2 e⟩
      · exact ⟨f1 x hx, fun m => (w0 x m).2.1 hx⟩
end Toll

set_option Elab.async false
set_option linter.all false
set_option maxRecDepth 100000
set_option maxHeartbeats 4000000
namespace TH
open PySem PySem.Calls PySem.SeqAt PySem.W PyProof.Rows
/-! ### keys: tuples of ints -/
def kD (k : List Int) : PyData := .tuple (k.map PyData.int)
def kLt (k j : List Int) : Bool := dataLt (kD k) (kD j)
theorem kLt_cons (x y : Int) (k j : List Int) : kLt (x :: k) (y :: j) = (decide (x < y) || (!decide (y < x) && kLt k j)) := by
  unfold kLt kD
  rw [dataLt_tuple, dataLt_tuple, List.map_cons, List.map_cons, toks_all_cons, toks_all_cons, lex_self (O := itemOrd)]
  simp only [keyToks, List.cons_append, List.nil_append]
  rw [lex_cons]
  rfl
theorem kLt_nil : kLt [] [] = false := by
  unfold kLt kD
  rw [dataLt_tuple]
  simp only [List.map_nil, keyToksAll]
  rw [lex_cons, lex_irrefl]
  rfl
theorem kLt_nilc (y : Int) (j : List Int) : kLt [] (y :: j) = true := by
  unfold kLt kD
  rw [dataLt_tuple, List.map_cons, toks_all_cons]
  simp only [List.map_nil, keyToksAll]
  rw [lex_cons]
  rfl
theorem kLt_cnil (y : Int) (j : List Int) : kLt (y :: j) [] = false := by
  unfold kLt kD
  rw [dataLt_tuple, List.map_cons, toks_all_cons]
  simp only [List.map_nil, keyToksAll]
  rw [lex_cons]
  rfl
/-- a ≤ b -/
def kLe (a b : List Int) : Prop := kLt b a = false
theorem kLe_cons {x y : Int} {a b : List Int} : kLe (x :: a) (y :: b) ↔ x < y ∨ (x = y ∧ kLe a b) := by
  unfold kLe
  rw [kLt_cons]
  by_cases h1 : y < x
  · simp [h1]; omega
  · by_cases h2 : x < y
    · simp [h1, h2]
    · have : x = y := by omega
      subst this
      simp
theorem kLe_refl : ∀ a, kLe a a
  | [] => kLt_nil
  | x :: a => kLe_cons.mpr (.inr ⟨rfl, kLe_refl a⟩)
theorem kLe_trans : ∀ {a b c : List Int}, kLe a b → kLe b c → kLe a c
  | [], _, [], _, _ => kLt_nil
  | [], _, z :: c, _, _ => kLt_cnil z c
  | x :: a, [], _, h, _ => by
    unfold kLe at h
    rw [kLt_nilc] at h
    cases h
  | x :: a, y :: b, [], _, h => by
    unfold kLe at h
    rw [kLt_nilc] at h
    cases h
  | x :: a, y :: b, z :: c, h1, h2 => by
    rw [kLe_cons] at h1 h2 ⊢
    rcases h1 with h1 | ⟨rfl, h1⟩ <;> rcases h2 with h2 | ⟨rfl, h2⟩
    · exact .inl (by omega)
    · exact .inl h1
    · exact .inl h2
    · exact .inr ⟨rfl, kLe_trans h1 h2⟩
theorem kLe_of_lt : ∀ {a b : List Int}, kLt a b = true → kLe a b
  | [], [], h => by rw [kLt_nil] at h; cases h
  | [], z :: c, _ => kLt_cnil z c
  | x :: a, [], h => by rw [kLt_cnil] at h; cases h
  | x :: a, y :: b, h => by
    rw [kLt_cons] at h
    rw [kLe_cons]
    by_cases h1 : x < y
    · exact .inl h1
    · by_cases h2 : y < x
      · simp [h1, h2] at h
      · refine .inr ⟨by omega, kLe_of_lt ?_⟩
        simpa [h1, h2] using h
/-! ### heaps, as lists -/
abbrev Z := Addr × List Int
def kAt (zs : List Z) (i : Nat) : List Int := (zs.getD i (0, [])).2
/-- a heap but for what stands at pos, which may be less than what is above it -/
def UpI (zs : List Z) (pos : Nat) : Prop := (∀ i, 0 < i → i < zs.length → i ≠ pos → kLe (kAt zs ((i - 1) / 2)) (kAt zs i)) ∧ (0 < pos → ∀ i, 0 < i → i < zs.length → (i - 1) / 2 = pos → kLe (kAt zs ((pos - 1) / 2)) (kAt zs i))
/-- a heap but for what stands at pos, any -/
def DnI (zs : List Z) (pos : Nat) : Prop := (∀ i, 0 < i → i < zs.length → i ≠ pos → (i - 1) / 2 ≠ pos → kLe (kAt zs ((i - 1) / 2)) (kAt zs i)) ∧ (0 < pos → ∀ i, 0 < i → i < zs.length → (i - 1) / 2 = pos → kLe (kAt zs ((pos - 1) / 2)) (kAt zs i))
def IsHeap (zs : List Z) : Prop := ∀ i, 0 < i → i < zs.length → kLe (kAt zs ((i - 1) / 2)) (kAt zs i)
def swp (zs : List Z) (i j : Nat) : List Z := (zs.set i (zs.getD j (0, []))).set j (zs.getD i (0, []))
theorem swp_len (zs : List Z) (i j : Nat) : (swp zs i j).length = zs.length := by simp [swp]
theorem swp_perm {zs : List Z} {i j : Nat} (hi : i < zs.length) (hj : j < zs.length) : (swp zs i j).Perm zs := by
  unfold swp
  have e1 : zs.getD j (0, []) = zs[j] := by rw [List.getD_eq_getElem?_getD, List.getElem?_eq_getElem hj]; rfl
  have e2 : zs.getD i (0, []) = zs[i] := by rw [List.getD_eq_getElem?_getD, List.getElem?_eq_getElem hi]; rfl
  rw [e1, e2]
  exact List.set_set_perm hi hj
theorem swp_at {zs : List Z} {i j k : Nat} (hi : i < zs.length) (hj : j < zs.length) : kAt (swp zs i j) k = if k = j then kAt zs i else if k = i then kAt zs j else kAt zs k := by
  unfold kAt swp
  rw [List.getD_eq_getElem?_getD (l := _)]
  by_cases h1 : k = j
  · subst h1
    rw [if_pos rfl, List.getElem?_set_self (by simpa using hj)]
    rfl
  · rw [if_neg h1, List.getElem?_set_ne (Ne.symm h1)]
    by_cases h2 : k = i
    · subst h2
      rw [if_pos rfl, List.getElem?_set_self hi]
      rfl
    · rw [if_neg h2, List.getElem?_set_ne (Ne.symm h2)]
      rw [List.getD_eq_getElem?_getD]
theorem up_done {zs : List Z} {pos : Nat} (h : UpI zs pos) (hp : pos = 0 ∨ kLe (kAt zs ((pos - 1) / 2)) (kAt zs pos)) : IsHeap zs := fun i h0 hl => by
  by_cases e : i = pos
  · subst e
    rcases hp with hp | hp
    · omega
    · exact hp
  · exact h.1 i h0 hl e
theorem up_step {zs : List Z} {pos : Nat} (h : UpI zs pos) (h0 : 0 < pos) (hl : pos < zs.length) (lt : kLt (kAt zs pos) (kAt zs ((pos - 1) / 2)) = true) : UpI (swp zs ((pos - 1) / 2) pos) ((pos - 1) / 2) := by
  have hq : (pos - 1) / 2 < pos := by omega
  have hql : (pos - 1) / 2 < zs.length := by omega
  have le := kLe_of_lt lt
  obtain ⟨h1, h2⟩ := h
  generalize hqe : (pos - 1) / 2 = q at *
  refine ⟨fun i hi hil hne => ?_, fun hq0 i hi hil hpar => ?_⟩
  · rw [swp_len] at hil
    rw [swp_at hql hl, swp_at hql hl]
    by_cases e1 : i = pos
    · subst e1
      rw [if_pos rfl, hqe, if_neg (by omega), if_pos rfl]
      exact le
    · rw [if_neg e1, if_neg hne]
      by_cases e2 : (i - 1) / 2 = pos
      · rw [if_pos e2]
        exact h2 h0 i hi hil e2
      · rw [if_neg e2]
        by_cases e3 : (i - 1) / 2 = q
        · rw [if_pos e3]
          exact kLe_trans le (by rw [← e3]; exact h1 i hi hil e1)
        · rw [if_neg e3]
          exact h1 i hi hil e1
  · rw [swp_len] at hil
    rw [swp_at hql hl, swp_at hql hl]
    have hqq : (q - 1) / 2 ≠ pos := by omega
    have hqq2 : (q - 1) / 2 ≠ q := by omega
    rw [if_neg hqq, if_neg hqq2]
    have a1 := h1 q hq0 hql (by omega)
    by_cases e1 : i = pos
    · subst e1
      rw [if_pos rfl]
      exact a1
    · rw [if_neg e1, if_neg (by omega)]
      exact kLe_trans a1 (by rw [← hpar]; exact h1 i hi hil e1)
theorem dn_leaf {zs : List Z} {pos : Nat} (h : DnI zs pos) (hl : zs.length ≤ 2 * pos + 1) : UpI zs pos := ⟨fun i h0 hil hne => h.1 i h0 hil hne (by omega), fun _ i h0 hil e => by omega⟩
theorem dn_step {zs : List Z} {pos c : Nat} (h : DnI zs pos) (hc : c < zs.length) (hp : (c - 1) / 2 = pos) (h0 : 0 < c) (hm : ∀ i, 0 < i → i < zs.length → (i - 1) / 2 = pos → kLe (kAt zs c) (kAt zs i)) : DnI (swp zs c pos) c := by
  have hpl : pos < zs.length := by omega
  have hpc : pos < c := by omega
  obtain ⟨h1, h2⟩ := h
  refine ⟨fun i hi hil hne hpar => ?_, fun _ i hi hil hpar => ?_⟩
  · rw [swp_len] at hil
    rw [swp_at hc hpl, swp_at hc hpl]
    by_cases e1 : i = pos
    · subst e1
      rw [if_pos rfl, if_neg (by omega), if_neg (by omega)]
      exact h2 hi c h0 hc hp
    · rw [if_neg e1, if_neg hne]
      by_cases e2 : (i - 1) / 2 = pos
      · rw [if_pos e2]
        exact hm i hi hil e2
      · rw [if_neg e2, if_neg hpar]
        exact h1 i hi hil e1 e2
  · rw [swp_len] at hil
    rw [swp_at hc hpl, swp_at hc hpl, hp, if_pos rfl, if_neg (by omega), if_neg (by omega), ← hpar]
    exact h1 i hi hil (by omega) (by omega)
theorem heap_min {zs : List Z} (h : IsHeap zs) : ∀ i, i < zs.length → kLe (kAt zs 0) (kAt zs i) := by
  intro i
  induction i using Nat.strongRecOn with
  | ind i ih =>
    intro hi
    by_cases h0 : i = 0
    · subst h0
      exact kLe_refl _
    · exact kLe_trans (ih ((i - 1) / 2) (by omega) (by omega)) (h i (by omega) hi)
end TH
namespace TH
open PySem PySem.Calls PySem.SeqAt PySem.W PyProof.Rows L2
theorem entry_push : entryFor table "_heapq.heappush" = some Builtin.«_heapq.heappush» := entryFor_of_tree (by kernel_rfl)
theorem kind_push : builtinKind "_heapq.heappush" = none := by kernel_rfl
theorem plain_push : plainId "_heapq.heappush" = true := by decide +kernel
theorem args_push (a b : Value) : argsOk "_heapq.heappush" ⟨[a, b], []⟩ := by unfold argsOk; kernel_rfl
theorem entry_pop : entryFor table "_heapq.heappop" = some Builtin.«_heapq.heappop» := entryFor_of_tree (by kernel_rfl)
theorem kind_pop : builtinKind "_heapq.heappop" = none := by kernel_rfl
theorem plain_pop : plainId "_heapq.heappop" = true := by decide +kernel
theorem args_pop (a : Value) : argsOk "_heapq.heappop" ⟨[a], []⟩ := by unfold argsOk; kernel_rfl
theorem entry_sift : entryFor table "_heapq.heapify.sift" = some Builtin.«_heapq.heapify.sift» := entryFor_of_tree (by kernel_rfl)
theorem plain_sift : plainId "_heapq.heapify.sift" = true := by decide +kernel
open AutoSeq1 (wpAny_loadPart')
abbrev ZV (zs : List Z) : List V := zs.map fun z => V.ref z.1
def ZK (H : Hp) (zs : List Z) : Prop := ∀ z ∈ zs, H z.1 = some (.tup (z.2.map V.int))
theorem readsAll_ints (h : Heap) : ∀ (k : List Int) (its : List Value), Vals (k.map V.int) its → ∃ as, ReadsAll h its (k.map PyData.int) as
  | [], [], _ => ⟨[], .nil⟩
  | x :: k, u :: its, r => by
    cases r with
    | cons rx rr =>
      obtain ⟨t, rfl⟩ := rx
      obtain ⟨as, ha⟩ := readsAll_ints h k its rr
      exact ⟨_, .cons (.int x t) ha⟩
theorem alike_ints : ∀ k j : List Int, alikeAll (k.map PyData.int) (j.map PyData.int) = true
  | [], _ => by simp [alikeAll]
  | _ :: _, [] => by simp [alikeAll]
  | x :: k, y :: j => by
    have := alike_ints k j
    simp [alikeAll, alike, this]
theorem depth_ints : ∀ k : List Int, PyData.depthAll (k.map PyData.int) = 0
  | [] => rfl
  | x :: k => by
    have := depth_ints k
    simp [PyData.depthAll, PyData.depth, this]
section
variable {X : Cx} {pins : List (Addr × Obj)} {σ : L2.St} {H : Hp} {s : Shared}
theorem key_reads (I : Inv X pins σ H s) {t : Addr} {k : List Int} (h : H t = some (.tup (k.map V.int))) : ∃ as, Reads s.heap (.ref t) (kD k) as := by
  obtain ⟨_, its, r, o, ho, hc, n, hd⟩ := I.hok t _ h
  obtain ⟨as, ha⟩ := readsAll_ints s.heap k its r
  exact ⟨as, .tuple ho hc hd (by simpa using ha)⟩
theorem key_lt (I : Inv X pins σ H s) (hu : X.A.units + 64 < cLine) {t u : Addr} {k j : List Int} (h1 : H t = some (.tup (k.map V.int))) (h2 : H u = some (.tup (j.map V.int))) : RcLt X.A.in1 s (.ref t) (.ref u) (kLt k j) := by
  obtain ⟨as, ra⟩ := key_reads I h1
  obtain ⟨bs, rb⟩ := key_reads I h2
  refine rcLt_alike (kD k) (kD j) X.A.in1 s _ _ as bs ra rb (by simp only [kD, alike]; exact alike_ints k j) (by intro z; cases z) ?_
  have e : (kD k).depth = 1 := by simp only [kD, PyData.depth, depth_ints]
  rw [e]
  show X.A.units + 1 + _ < cLine
  have := Nat.min_le_left 1 (kD j).depth
  omega
theorem ZV_get {zs : List Z} {its : List Value} (r : Vals (ZV zs) its) {i : Nat} (hi : i < zs.length) : its.toArray[i]? = some (.ref (zs.getD i (0, [])).1) := by
  have e : (ZV zs)[i]? = some (V.ref (zs.getD i (0, [])).1) := by
    rw [List.getElem?_map, List.getD_eq_getElem?_getD, List.getElem?_eq_getElem hi]
    rfl
  obtain ⟨u, hu, ru⟩ := r.get e
  rw [List.getElem?_toArray, hu]
  exact congrArg some ru
theorem ZK_at {zs : List Z} (h : ZK H zs) {i : Nat} (hi : i < zs.length) : H (zs.getD i (0, [])).1 = some (.tup ((kAt zs i).map V.int)) := by
  refine h _ ?_
  rw [List.getD_eq_getElem?_getD, List.getElem?_eq_getElem hi]
  exact List.getElem_mem hi
theorem ZV_swp (zs : List Z) (i j : Nat) : ZV (swp zs i j) = ((ZV zs).set i (.ref (zs.getD j (0, [])).1)).set j (.ref (zs.getD i (0, [])).1) := by
  unfold swp ZV
  rw [List.map_set, List.map_set]
theorem past_swp {its : List Value} {n i j : Nat} {x y : Value} (h : its.length ≤ sizeLine) : (Obj.mapSeq (fun xs => (xs.setIfInBounds i y).setIfInBounds j x) { cls := .type "list", data := Data.seq its.toArray n }).data.pastItsLine = none :=
  pastItsLine_seq (by simp; omega)
theorem ZK_upd {zs zs' : List Z} {L : Addr} {xs : List V} {o : HO} (h : ZK H zs) (hL : H L = some (.lst xs)) (hp : ∀ z ∈ zs', z ∈ zs) : ZK (upd H L o) zs' := fun z hz => by
  have e := h z (hp z hz)
  rw [upd_ne (ne_of e hL (by intro q; cases q))]
  exact e
theorem swp_inv {zs : List Z} {L : Addr} {its : List Value} {n i j : Nat} {tk : Nat} (I : Inv X pins σ H s) (hL : H L = some (.lst (ZV zs))) (r : Vals (ZV zs) its) (hl : s.heap.get? L = some { cls := .type "list", data := .seq its.toArray n }) (hz : (ZV zs).length ≤ sizeLine) :
    Inv X pins σ (upd H L (.lst (ZV (swp zs i j)))) { s with heap := s.heap.update L (Obj.mapSeq fun xs => (xs.setIfInBounds i (.ref (zs.getD j (0, [])).1)).setIfInBounds j (.ref (zs.getD i (0, [])).1)), toks := tk } := by
  refine I.lset (its' := (its.set i (.ref (zs.getD j (0, [])).1)).set j (.ref (zs.getD i (0, [])).1)) hL hl (by simp) ?_ ?_
  · rw [ZV_swp]
    exact (r.set (show RelV (.ref _) (.ref _) from rfl) i).set (show RelV (.ref _) (.ref _) from rfl) j
  · rw [ZV_swp, List.length_set, List.length_set]
    exact hz
theorem sift_up (hu : X.A.units + 64 < cLine) {L : Addr} {v : Value} {R : Result → Shared → Prop} : ∀ (pos : Nat) {s : Shared} {H : Hp} {zs : List Z}, Inv X pins σ H s → H L = some (.lst (ZV zs)) → ZK H zs → pos < zs.length → UpI zs pos →
    (∀ zs' s', zs'.Perm zs → IsHeap zs' → Inv X pins σ (upd H L (.lst (ZV zs'))) s' → R (.ok (.ret v)) s') →
    codeAny (model X.prog X.w) X.A (.builtin "_heapq.heapify.sift" ⟨[.ref L, .bool false, .bool false, rawInt pos, rawInt 0, v, rawInt (-1)], []⟩) R s := by
  intro pos
  induction pos using Nat.strongRecOn with
  | ind pos ih =>
    intro s H zs I hL hK hp hU hR
    refine codeAny_builtin entry_sift ?_
    rw [Around.under_plainId plain_sift]
    obtain ⟨hz, its, n, r, hlen, hl⟩ := I.lstM hL
    have hp' : pos < its.length := by rw [← hlen]; simpa using hp
    have e1 := ZV_get r hp
    have stay : ∀ {s' : Shared}, Inv X pins σ H s' → Inv X pins σ (upd H L (.lst (ZV zs))) s' := fun {s'} J => by
      have : upd H L (.lst (ZV zs)) = H := by
        funext b
        unfold upd
        split
        · rename_i e
          rw [e, hL]
        · rfl
      rw [this]
      exact J
    by_cases h0 : 0 < pos
    · have hq : (pos - 1) / 2 < zs.length := by omega
      have e2 := ZV_get r hq
      have klt := key_lt I hu (ZK_at hK hp) (ZK_at hK hq)
      obtain ⟨hp_, g, d, tk, os⟩ := s
      have klt2 := fun E Q => klt X.prog X.w E Q
      wp_walk using wpAny_loadPart' hl
      rw [Int.toNat_natCast, e1]
      wp_walk using wpAny_loadPart' hl
      rw [e2]
      wp_walk using wpAny_loadPart' hl, klt2
      cases hk : kLt (kAt zs pos) (kAt zs ((pos - 1) / 2)) with
      | true =>
        rw [if_pos rfl]
        wp_walk using wpAny_loadPart' hl
        rw [e2]
        wp_walk using wpAny_loadPart' hl
        rw [e1]
        wp_walk using wpAny_loadPart' hl
        rw [past_swp (by rw [← hlen]; exact hz)]
        wp_walk using wpAny_loadPart' hl
        refine ⟨plainId_quiet plain_sift _, ?_⟩
        refine ih ((pos - 1) / 2) (by omega) (swp_inv (i := (pos - 1) / 2) (j := pos) (tk := tk) I hL r hl hz) upd_same (ZK_upd hK hL fun z hz => (swp_perm hq hp).mem_iff.mp hz) (by rw [swp_len]; exact hq) (up_step hU h0 hp hk) fun zs' s' pm hh J => ?_
        rw [upd_upd] at J
        exact hR zs' s' (pm.trans (swp_perm hq hp)) hh J
      | false =>
        rw [if_neg Bool.false_ne_true]
        wp_walk using wpAny_loadPart' hl
        exact hR zs _ (.refl _) (up_done hU (.inr hk)) (stay I)
    · obtain ⟨hp_, g, d, tk, os⟩ := s
      have h00 : pos = 0 := by omega
      wp_walk using wpAny_loadPart' hl
      exact hR zs _ (.refl _) (up_done hU (.inl h00)) (stay I)
theorem sift_dn (hu : X.A.units + 64 < cLine) {L : Addr} {v : Value} {R : Result → Shared → Prop} : ∀ (m pos : Nat) {s : Shared} {H : Hp} {zs : List Z}, m = zs.length - pos → Inv X pins σ H s → H L = some (.lst (ZV zs)) → ZK H zs → pos < zs.length → DnI zs pos →
    (∀ zs' s', zs'.Perm zs → IsHeap zs' → Inv X pins σ (upd H L (.lst (ZV zs'))) s' → R (.ok (.ret v)) s') →
    codeAny (model X.prog X.w) X.A (.builtin "_heapq.heapify.sift" ⟨[.ref L, .bool false, .bool true, rawInt pos, rawInt 0, v, rawInt (-1)], []⟩) R s := by
  intro m
  induction m using Nat.strongRecOn with
  | ind m ih =>
    intro pos s H zs hm I hL hK hp hD hR
    refine codeAny_builtin entry_sift ?_
    rw [Around.under_plainId plain_sift]
    obtain ⟨hz, its, n, r, hlen, hl⟩ := I.lstM hL
    have hll : its.length = zs.length := by rw [← hlen]; simp
    have e1 := ZV_get r hp
    have go : ∀ c, c < zs.length → (c - 1) / 2 = pos → 0 < c → (∀ i, 0 < i → i < zs.length → (i - 1) / 2 = pos → kLe (kAt zs c) (kAt zs i)) → ∀ tk', codeAny (model X.prog X.w) X.A (.builtin "_heapq.heapify.sift" ⟨[.ref L, .bool false, .bool true, rawInt c, rawInt 0, v, rawInt (-1)], []⟩) R
        { s with heap := s.heap.update L (Obj.mapSeq fun xs => (xs.setIfInBounds c (.ref (zs.getD pos (0, [])).1)).setIfInBounds pos (.ref (zs.getD c (0, [])).1)), toks := tk' } := fun c hc hpar hc0 hmin tk' => by
      refine ih (zs.length - c) (by omega) c (by rw [swp_len]) (swp_inv (i := c) (j := pos) I hL r hl hz) upd_same (ZK_upd hK hL fun z hz => (swp_perm hc hp).mem_iff.mp hz) (by rw [swp_len]; exact hc) (dn_step hD hc hpar hc0 hmin) fun zs' s' pm hh J => ?_
      rw [upd_upd] at J
      exact hR zs' s' (pm.trans (swp_perm hc hp)) hh J
    by_cases hlf : pos < zs.length / 2
    · have hl1 : 2 * pos + 1 < zs.length := by omega
      have e2 := ZV_get r hl1
      by_cases hr2 : 2 * pos + 1 + 1 < zs.length
      · have e3 := ZV_get r hr2
        have klt := key_lt I hu (ZK_at hK hl1) (ZK_at hK hr2)
        obtain ⟨hp_, g, d, tk, os⟩ := s
        have klt2 := fun E Q => klt X.prog X.w E Q
        wp_walk using wpAny_loadPart' hl
        rw [Int.toNat_natCast, e2]
        wp_walk using wpAny_loadPart' hl
        rw [e3]
        wp_walk using wpAny_loadPart' hl, klt2
        cases hk : kLt (kAt zs (2 * pos + 1)) (kAt zs (2 * pos + 1 + 1)) with
        | true =>
          rw [if_neg (show ¬ (!true) = true by decide)]
          wp_walk using wpAny_loadPart' hl
          rw [e2]
          wp_walk using wpAny_loadPart' hl
          rw [e1]
          wp_walk using wpAny_loadPart' hl
          rw [past_swp (by rw [← hlen]; exact hz)]
          wp_walk using wpAny_loadPart' hl
          refine ⟨plainId_quiet plain_sift _, go (2 * pos + 1) hl1 (by omega) (by omega) (fun i hi0 hil hpar => ?_) tk⟩
          have : i = 2 * pos + 1 ∨ i = 2 * pos + 1 + 1 := by omega
          rcases this with e | e <;> rw [e]
          · exact kLe_refl _
          · exact kLe_of_lt hk
        | false =>
          rw [if_pos (show (!false) = true by decide)]
          wp_walk using wpAny_loadPart' hl
          rw [e3]
          wp_walk using wpAny_loadPart' hl
          rw [e1]
          wp_walk using wpAny_loadPart' hl
          rw [past_swp (by rw [← hlen]; exact hz)]
          wp_walk using wpAny_loadPart' hl
          refine ⟨plainId_quiet plain_sift _, go (2 * pos + 1 + 1) hr2 (by omega) (by omega) (fun i hi0 hil hpar => ?_) tk⟩
          have : i = 2 * pos + 1 ∨ i = 2 * pos + 1 + 1 := by omega
          rcases this with e | e <;> rw [e]
          · exact hk
          · exact kLe_refl _
      · obtain ⟨hp_, g, d, tk, os⟩ := s
        wp_walk using wpAny_loadPart' hl
        rw [Int.toNat_natCast, e2]
        wp_walk using wpAny_loadPart' hl
        rw [e1]
        wp_walk using wpAny_loadPart' hl
        rw [past_swp (by rw [← hlen]; exact hz)]
        wp_walk using wpAny_loadPart' hl
        refine ⟨plainId_quiet plain_sift _, go (2 * pos + 1) hl1 (by omega) (by omega) (fun i hi0 hil hpar => ?_) tk⟩
        have : i = 2 * pos + 1 := by omega
        rw [this]
        exact kLe_refl _
    · obtain ⟨hp_, g, d, tk, os⟩ := s
      wp_walk using wpAny_loadPart' hl
      refine ⟨plainId_quiet plain_sift _, ?_⟩
      rw [Int.toNat_natCast]
      exact sift_up hu pos I hL hK hp (dn_leaf hD (by omega)) hR
end
end TH

set_option Elab.async false
set_option linter.all false
set_option maxRecDepth 100000
set_option maxHeartbeats 4000000
namespace TH
open PySem PySem.Calls PySem.SeqAt PySem.W PyProof.Rows L2
open AutoSeq1 (wpAny_loadPart')
section
variable {X : Cx} {pins : List (Addr × Obj)} {σ : L2.St} {H : Hp} {s : Shared}
/-! ### the two calls -/
def rPush : List V → Hp → VK → Prop := fun vs H Q => ∃ (L t : Addr) (k : List Int) (zs : List Z), vs = [.ref L, .ref t] ∧ H L = some (.lst (ZV zs)) ∧ ZK H zs ∧ H t = some (.tup (k.map V.int)) ∧ IsHeap zs ∧ zs.length < 100000000000 ∧ zs.length < sizeLine ∧
  ∀ zs', zs'.Perm ((t, k) :: zs) → IsHeap zs' → Q .non (upd H L (.lst (ZV zs')))
def rPop : List V → Hp → VK → Prop := fun vs H Q => ∃ (L : Addr) (zs : List Z), vs = [.ref L] ∧ H L = some (.lst (ZV zs)) ∧ ZK H zs ∧ IsHeap zs ∧ zs ≠ [] ∧
  ∀ z zs', (z :: zs').Perm zs → IsHeap zs' → (∀ y ∈ zs', kLe z.2 y.2) → Q (.ref z.1) (upd H L (.lst (ZV zs')))
/-- a built-in function called, by what its body does there -/
theorem call_fn {prog : Program} {w : World} {A : Around} {s : Shared} {id : String} {B : Builtin} {args : List Value} {Q E : Value → Shared → Prop} (kind : builtinKind id = none) (plain : plainId id = true) (entry : entryFor table id = some B) (ok : argsOk id ⟨args, []⟩)
    (g : wpAny (model prog w) A.in1 (B ⟨args, []⟩) (fun fin s' => match fin with | .done f => wants Q E (.ok f) s' | .again c' => c'.quiet = true ∧ codeAny (model prog w) A c' (wants Q E) s') (fun e s' => wants Q E (.error e) s') s) :
    wpAny (model prog w) A (call (.builtin id) args) Q E s := by
  refine wpAny_call (codeAny_call_builtin plain entry ?_)
  simp only [checkBuiltinCall, kind]
  cases hs : Manifest.signature? id with
  | none => exact wpAny_pure g
  | some sig =>
    simp only [argsOk, hs] at ok
    have e : Bind.checkArgs id sig ⟨args, []⟩ = pure () := ok
    show wpAny _ _ (Bind.checkArgs id sig ⟨args, []⟩) _ _ s
    rw [e]
    exact wpAny_pure g
theorem heap_push {zs : List Z} (h : IsHeap zs) (z : Z) : UpI (zs ++ [z]) zs.length := by
  have at1 : ∀ i, i < zs.length → kAt (zs ++ [z]) i = kAt zs i := fun i hi => by
    unfold kAt
    rw [List.getD_eq_getElem?_getD, List.getD_eq_getElem?_getD, List.getElem?_append_left hi]
  refine ⟨fun i h0 hl hne => ?_, fun _ i h0 hl e => ?_⟩
  · simp at hl
    rw [at1 i (by omega), at1 _ (by omega)]
    exact h i h0 (by omega)
  · simp at hl
    omega
theorem heap_drop {zs : List Z} (h : IsHeap zs) (h2 : 2 ≤ zs.length) : DnI (zs.dropLast.set 0 (zs.getD (zs.length - 1) (0, []))) 0 := by
  have at1 : ∀ i, 0 < i → i < zs.length - 1 → kAt (zs.dropLast.set 0 (zs.getD (zs.length - 1) (0, []))) i = kAt zs i := fun i h0 hi => by
    unfold kAt
    rw [List.getD_eq_getElem?_getD, List.getElem?_set_ne (by omega), List.getD_eq_getElem?_getD, List.getElem?_dropLast, if_pos hi]
  refine ⟨fun i h0 hl hne hpar => ?_, fun z => absurd z (by omega)⟩
  simp at hl
  rw [at1 i h0 hl, at1 _ (by omega) (by omega)]
  exact h i h0 (by omega)
theorem drop_perm {zs : List Z} (h2 : 2 ≤ zs.length) : (zs.getD 0 (0, []) :: zs.dropLast.set 0 (zs.getD (zs.length - 1) (0, []))).Perm zs := by
  match zs, h2 with
  | a :: b :: r, _ =>
    obtain ⟨m, l, e⟩ : ∃ m l, b :: r = m ++ [l] := ⟨(b :: r).dropLast, (b :: r).getLast (by simp), (List.dropLast_concat_getLast (by simp)).symm⟩
    rw [e]
    have e1 : (a :: (m ++ [l])).dropLast = a :: m := by
      rw [← List.cons_append, List.dropLast_concat]
    have e2 : (a :: (m ++ [l])).getD ((a :: (m ++ [l])).length - 1) (0, []) = l := by
      rw [List.getD_eq_getElem?_getD]
      simp
    rw [e1, e2, List.set_cons_zero]
    show (a :: l :: m).Perm _
    exact (List.perm_append_singleton l m).symm.cons a
theorem call_push (hu : X.A.units + 64 < cLine) : CallR X (.builtin "_heapq.heappush") rPush := by
  intro pins s σ H vs us Q I r h
  obtain ⟨L, t, k, zs, rfl, hL, hK, ht, hh, _, hzl, q⟩ := h
  cases r with
  | cons r1 r =>
    cases r with
    | cons r2 r =>
      cases r
      obtain rfl : _ = Value.ref L := r1
      obtain rfl : _ = Value.ref t := r2
      obtain ⟨hz, its, n, r, hlen, hl⟩ := I.lstM hL
      have hll : its.length = zs.length := by rw [← hlen]; simp
      have e0 : ZV (zs ++ [(t, k)]) = ZV zs ++ [V.ref t] := by simp
      have I1 := fun tk => I.lset (its' := its ++ [.ref t]) (ys := ZV (zs ++ [(t, k)])) (f := fun x => x.push (.ref t)) (t' := tk) hL hl (by simp) (by rw [e0]; exact r.append (.cons (show RelV (.ref t) (.ref t) from rfl) .nil)) (by simp; omega)
      have hl1 := IsL.update hl (fun x : Array Value => x.push (.ref t))
      refine call_fn kind_push plain_push entry_push (args_push _ _) ?_
      obtain ⟨hp_, g, d, tk, os⟩ := s
      have f2 := AutoSeq1.sub_list_list
      wp_walk using wpAny_loadPart' hl
      rw [pastItsLine_seq (by simp; omega)]
      wp_walk using wpAny_loadPart' hl1
      refine ⟨plainId_quiet plain_sift _, ?_⟩
      rw [show (its.toArray.push (Value.ref t)).size - 1 = zs.length by simp; omega]
      refine sift_up hu zs.length (I1 tk) upd_same (fun z hz => ?_) (by simp) (heap_push hh (t, k)) fun zs' s' pm hh' J => ?_
      · rcases List.mem_append.mp hz with hz | hz
        · exact ZK_upd hK hL (fun y hy => hy) z hz
        · rw [List.mem_singleton] at hz
          subst hz
          rw [upd_ne (ne_of ht hL (by intro q; cases q))]
          exact ht
      · rw [upd_upd] at J
        exact ⟨.non, _, J, rfl, q zs' (pm.trans (List.perm_append_singleton (t, k) zs)) hh'⟩
theorem past_set {its : List Value} {m i : Nat} {x : Value} (h : its.length ≤ sizeLine) : (Obj.mapSeq (fun xs => xs.setIfInBounds i x) { cls := Value.type "list", data := Data.seq its.toArray m }).data.pastItsLine = none :=
  pastItsLine_seq (by simp; omega)
theorem call_pop (hu : X.A.units + 64 < cLine) : CallR X (.builtin "_heapq.heappop") rPop := by
  intro pins s σ H vs us Q I r h
  obtain ⟨L, zs, rfl, hL, hK, hh, hne, q⟩ := h
  cases r with
  | cons r1 r =>
    cases r
    obtain rfl : _ = Value.ref L := r1
    obtain ⟨hz, its, n, r, hlen, hl⟩ := I.lstM hL
    have hll : its.length = zs.length := by rw [← hlen]; simp
    have h0 : 0 < zs.length := List.length_pos_iff.mpr hne
    have e0 := ZV_get r h0
    have eb : its.toArray.back? = some (.ref (zs.getD (zs.length - 1) (0, [])).1) := by
      rw [Array.back?, List.size_toArray, hll]
      exact ZV_get r (by omega)
    have ep : ZV zs.dropLast = (ZV zs).dropLast := by simp [ZV, List.map_dropLast]
    have rp : Vals (ZV zs.dropLast) its.dropLast := by
      rw [ep]
      have := r.take (zs.length - 1)
      rw [List.dropLast_eq_take, List.dropLast_eq_take, List.length_map, hll]
      exact this
    have I1 := fun tk => I.lset (its' := its.dropLast) (ys := ZV zs.dropLast) (f := fun x => x.pop) (t' := tk) hL hl (by simp) rp (by simp; simp at hz; omega)
    have hl1 := IsL.update hl (fun x : Array Value => x.pop)
    refine call_fn kind_pop plain_pop entry_pop (args_pop _) ?_
    obtain ⟨hp_, g, d, tk, os⟩ := s
    have f2 := AutoSeq1.sub_list_list
    wp_walk using wpAny_loadPart' hl
    rw [eb]
    wp_walk using wpAny_loadPart' hl
    rw [pastItsLine_seq (by simp; simp at hz; omega)]
    by_cases h1 : zs.length = 1
    · obtain ⟨z, rfl⟩ : ∃ z, zs = [z] := by
        match zs, h1 with
        | [z], _ => exact ⟨z, rfl⟩
      have hs : (its.toArray.size == 1) = true := by simp [hll]
      wp_walk using wpAny_loadPart' hl1
      exact ⟨.ref z.1, _, I1 tk, rfl, q z [] (.refl _) (fun i h0 hl => absurd hl (by simp)) (by simp)⟩
    · have hs : (its.toArray.size == 1) = false := by simp [hll]; exact h1
      wp_walk using wpAny_loadPart' hl1
      rw [e0]
      have h2 : 2 ≤ zs.length := by omega
      have e9 : ZV (zs.dropLast.set 0 (zs.getD (zs.length - 1) (0, []))) = (ZV zs.dropLast).set 0 (.ref (zs.getD (zs.length - 1) (0, [])).1) := by
        unfold ZV
        rw [List.map_set]
      rw [List.pop_toArray] at hl1
      have I2 := fun tk' => (I1 tk).lset (its' := its.dropLast.set 0 (.ref (zs.getD (zs.length - 1) (0, [])).1)) (ys := ZV (zs.dropLast.set 0 (zs.getD (zs.length - 1) (0, [])))) (f := fun x => x.setIfInBounds 0 (.ref (zs.getD (zs.length - 1) (0, [])).1)) (t' := tk') upd_same hl1 (by simp)
        (by rw [e9]; exact rp.set (show RelV (.ref _) (.ref _) from rfl) 0) (by simp; simp at hz; omega)
      wp_walk using wpAny_loadPart' hl1
      rw [past_set (by simp; simp at hz; omega)]
      wp_walk using wpAny_loadPart' hl1
      refine ⟨plainId_quiet plain_sift _, ?_⟩
      have pm := drop_perm h2
      refine sift_dn hu _ 0 rfl (I2 tk) upd_same (fun z hz => ?_) (by simp; omega) (heap_drop hh h2) fun zs' s' pm' hh' J => ?_
      · rw [upd_upd]
        exact ZK_upd hK hL (fun y hy => pm.mem_iff.mp (List.mem_cons_of_mem _ hy)) z hz
      · rw [upd_upd, upd_upd] at J
        refine ⟨.ref (zs.getD 0 (0, [])).1, _, J, rfl, q (zs.getD 0 (0, [])) zs' ((pm'.cons _).trans pm) hh' fun y hy => ?_⟩
        have hy : y ∈ zs := pm.mem_iff.mp (List.mem_cons_of_mem _ (pm'.mem_iff.mp hy))
        obtain ⟨i, hi, e⟩ := List.getElem_of_mem hy
        have := heap_min hh i hi
        unfold kAt at this
        rw [List.getD_eq_getElem?_getD (l := zs) (i := i), List.getElem?_eq_getElem hi, e] at this
        exact this
end
end TH

set_option Elab.async false
set_option linter.all false
set_option maxRecDepth 100000
set_option maxHeartbeats 4000000
namespace Toll
open PySem L2
/-! ### a net whose roads are as put -/
structure NetOk (N : NetD) : Prop where
  nd : (N.gates.map (·.1)).Nodup
  mi : ∀ r ∈ N.roads, 1 ≤ r.mi
  tl : ∀ r ∈ N.roads, 0 ≤ r.tl
  o1 : ∀ r ∈ N.roads, seesOf N.gates r.one ≠ none
  o2 : ∀ r ∈ N.roads, seesOf N.gates r.other ≠ none
/-- a drive of one road or more -/
inductive Drv (N : NetD) (g : Str) : Str → Int → Int → List Int → Prop where
  | one {i : Nat} {r : RoadD} (h : N.roads[i]? = some r) (ho : r.op = true) (e : r.one = g) : Drv N g r.other r.mi r.tl [(i : Int)]
  | more {v : Str} {m t : Int} {rs : List Int} {i : Nat} {r : RoadD} (d : Drv N g v m t rs) (hb : seesOf N.gates v = some false) (h : N.roads[i]? = some r) (ho : r.op = true) (e : r.one = v) : Drv N g r.other (m + r.mi) (t + r.tl) (rs ++ [(i : Int)])
/-- the road i goes on from the row at b -/
structure Goes (N : NetD) (limit : Int) (rows : List Row) (b i : Nat) (rb : Row) (r : RoadD) : Prop where
  hb : rows[b]? = some rb
  hr : N.roads[i]? = some r
  op : r.op = true
  fr : r.one = rb.nm
  bl : b = 0 ∨ seesOf N.gates rb.nm = some false
  lm : rb.mi + r.mi ≤ limit
def Dom (rows : List Row) (w : Str) (m t : Int) : Prop := ∃ j row, 0 < j ∧ rows[j]? = some row ∧ row.nm = w ∧ row.mi ≤ m ∧ row.tl ≤ t
def IsKey (N : NetD) (rb : Row) (r : RoadD) (b i : Nat) (k : List Int) : Prop := ∃ (t : Nat) (c : Bool), N.gates[t]? = some (r.other, c) ∧ k = [rb.tl + r.tl, rb.mi + r.mi, (t : Int), (i : Int), (b : Int)]
/-- a row is no later than a key: toll, minutes, turn -/
def RowKey (N : NetD) (row : Row) (k : List Int) : Prop := ∃ (t : Nat) (c : Bool) (tl mi tn rd bk : Int), N.gates[t]? = some (row.nm, c) ∧ k = [tl, mi, tn, rd, bk] ∧ (row.tl < tl ∨ row.tl = tl ∧ (row.mi < mi ∨ row.mi = mi ∧ (t : Int) ≤ tn))
def RowRow (N : NetD) (r1 r2 : Row) : Prop := ∃ (t1 t2 : Nat) (c1 c2 : Bool), N.gates[t1]? = some (r1.nm, c1) ∧ N.gates[t2]? = some (r2.nm, c2) ∧ (r1.tl < r2.tl ∨ r1.tl = r2.tl ∧ (r1.mi < r2.mi ∨ r1.mi = r2.mi ∧ t1 ≤ t2))
structure RInv (N : NetD) (g : Str) (limit : Int) (rows : List Row) (ks : List (List Int)) : Prop where
  r0 : rows[0]? = some ⟨g, 0, 0, -1, -1⟩
  r1 : ∀ k row, 0 < k → rows[k]? = some row → ∃ b i rb r, b < k ∧ Goes N limit rows b i rb r ∧ row = ⟨r.other, rb.mi + r.mi, rb.tl + r.tl, (i : Int), (b : Int)⟩
  q1 : ∀ k ∈ ks, ∃ b i rb r, Goes N limit rows b i rb r ∧ IsKey N rb r b i k
  srt : ∀ j k rj rk, 0 < j → j < k → rows[j]? = some rj → rows[k]? = some rk → RowRow N rj rk
  low : ∀ k row key, 0 < k → rows[k]? = some row → key ∈ ks → RowKey N row key
  dec : ∀ j k rj rk, 0 < j → j < k → rows[j]? = some rj → rows[k]? = some rk → rj.nm = rk.nm → rk.mi < rj.mi
def Cov (N : NetD) (limit : Int) (rows : List Row) (ks : List (List Int)) (n : Nat) : Prop := ∀ b i rb r, b < n → Goes N limit rows b i rb r → Dom rows r.other (rb.mi + r.mi) (rb.tl + r.tl) ∨ ∃ k ∈ ks, IsKey N rb r b i k
theorem get_app {α : Type} {l : List α} {x : α} {i : Nat} {y : α} (h : (l ++ [x])[i]? = some y) : l[i]? = some y ∨ (i = l.length ∧ y = x) := by
  rw [List.getElem?_append] at h
  split at h
  · exact .inl h
  · refine .inr ?_
    have hi : i - l.length = 0 := by
      have := (List.getElem?_eq_some_iff.mp h).1
      simp at this
      omega
    rw [hi] at h
    exact ⟨by omega, by simpa using h.symm⟩
theorem get_app1 {α : Type} {l : List α} {x : α} {i : Nat} {y : α} (h : l[i]? = some y) : (l ++ [x])[i]? = some y := by
  rw [List.getElem?_append_left (List.getElem?_eq_some_iff.mp h).1]
  exact h
theorem Goes.app {N : NetD} {limit : Int} {rows : List Row} {b i : Nat} {rb : Row} {r : RoadD} (h : Goes N limit rows b i rb r) (x : Row) : Goes N limit (rows ++ [x]) b i rb r := ⟨get_app1 h.hb, h.hr, h.op, h.fr, h.bl, h.lm⟩
theorem Goes.back {N : NetD} {limit : Int} {rows : List Row} {b i : Nat} {rb : Row} {r : RoadD} {x : Row} (h : Goes N limit (rows ++ [x]) b i rb r) (hb : b < rows.length) : Goes N limit rows b i rb r :=
  ⟨by have := h.hb; rw [List.getElem?_append_left hb] at this; exact this, h.hr, h.op, h.fr, h.bl, h.lm⟩
theorem Dom.app {rows : List Row} {w : Str} {m t : Int} (h : Dom rows w m t) (x : Row) : Dom (rows ++ [x]) w m t := by
  obtain ⟨j, row, h0, e, a, b, c⟩ := h
  exact ⟨j, row, h0, get_app1 e, a, b, c⟩
theorem nodup_at {gs : List (Str × Bool)} (nd : (gs.map (·.1)).Nodup) {s t : Nat} {nm : Str} {c d : Bool} (h1 : gs[s]? = some (nm, c)) (h2 : gs[t]? = some (nm, d)) : s = t := by
  obtain ⟨l1, e1⟩ := List.getElem?_eq_some_iff.mp h1
  obtain ⟨l2, e2⟩ := List.getElem?_eq_some_iff.mp h2
  exact (List.getElem_inj (xs := gs.map fun q : Str × Bool => q.1) (i := s) (j := t) (h₀ := by simpa using l1) (h₁ := by simpa using l2) nd).mp (by simp [e1, e2])
theorem turn_of {gs : List (Str × Bool)} {nm : Str} (h : seesOf gs nm ≠ none) : ∃ (t : Nat) (c : Bool), gs[t]? = some (nm, c) := by
  cases e : seesOf gs nm with
  | none => exact absurd e h
  | some c =>
    obtain ⟨j, hj, _⟩ := seesOf_at e
    exact ⟨j, c, hj⟩
theorem sees_at {gs : List (Str × Bool)} (nd : (gs.map (·.1)).Nodup) {t : Nat} {nm : Str} {c : Bool} (h : gs[t]? = some (nm, c)) : seesOf gs nm = some c := by
  cases e : seesOf gs nm with
  | none => exact absurd e (sees_mem (List.mem_of_getElem? h))
  | some d =>
    obtain ⟨j, hj, _⟩ := seesOf_at e
    have := nodup_at nd hj h
    subst this
    rw [h] at hj
    have := Option.some.inj hj
    simp at this
    rw [this]
section
variable {N : NetD} {g : Str} {limit : Int} {rows : List Row} {ks ks' : List (List Int)} {k : List Int}
/-- fewer keys -/
theorem RInv.sub (h : RInv N g limit rows ks) (hs : ∀ x ∈ ks', x ∈ ks) : RInv N g limit rows ks' := ⟨h.r0, h.r1, fun k hk => h.q1 k (hs k hk), h.srt, fun j row key a b c => h.low j row key a b (hs key c), h.dec⟩
theorem RInv.lenPos (h : RInv N g limit rows ks) : 0 < rows.length := (List.getElem?_eq_some_iff.mp h.r0).1
/-- the least key taken: what it stands for is a row beaten, or a new one -/
theorem cov_skip {b : Nat} (h : RInv N g limit rows (k :: ks)) (c : Cov N limit rows (k :: ks) rows.length) {tl mi tn rd bk : Int} (hk : k = [tl, mi, tn, rd, bk]) {j : Nat} {row : Row} (h0 : 0 < j) (hj : rows[j]? = some row) {cs : Bool} (ht : N.gates[tn.toNat]? = some (row.nm, cs)) (nd : (N.gates.map (·.1)).Nodup) (hm : row.mi ≤ mi) :
    Cov N limit rows ks rows.length := fun b i rb r hb hg => by
  rcases c b i rb r hb hg with d | ⟨q, hq, t, d, hd, e⟩
  · exact .inl d
  · rcases List.mem_cons.mp hq with z | z
    · rw [z, hk] at e
      simp only [List.cons.injEq, and_true] at e
      obtain ⟨e1, e2, e3, e4, e5⟩ := e
      obtain ⟨_, _, tl', mi', tn', rd', bk', _, ek, hle⟩ := h.low j row k h0 hj (List.mem_cons_self ..)
      rw [hk] at ek
      simp only [List.cons.injEq, and_true] at ek
      refine .inl ⟨j, row, h0, hj, ?_, by omega, by omega⟩
      rw [e3, Int.toNat_natCast, hd] at ht
      have := Option.some.inj ht
      simp at this
      exact this.1.symm
    · exact .inr ⟨q, z, t, d, hd, e⟩
/-- keys in order of toll, minutes, turn -/
theorem key3 {tl mi tn rd bk tl' mi' tn' rd' bk' : Int} (h : TH.kLe [tl, mi, tn, rd, bk] [tl', mi', tn', rd', bk']) : tl < tl' ∨ tl = tl' ∧ (mi < mi' ∨ mi = mi' ∧ tn ≤ tn') := by
  rw [TH.kLe_cons, TH.kLe_cons, TH.kLe_cons] at h
  omega
theorem IsKey.shape {rb : Row} {r : RoadD} {b i : Nat} (h : IsKey N rb r b i k) : ∃ t : Nat, k = [rb.tl + r.tl, rb.mi + r.mi, (t : Int), (i : Int), (b : Int)] := by
  obtain ⟨t, c, _, e⟩ := h
  exact ⟨t, e⟩
/-- the new row for the least key -/
theorem RInv.new (ok : NetOk N) (h : RInv N g limit rows (k :: ks)) {tl mi rd bk : Int} {tn : Nat} {nm : Str} {cs : Bool} (hk : k = [tl, mi, (tn : Int), rd, bk]) (hn : N.gates[tn]? = some (nm, cs)) (hle : ∀ y ∈ ks, TH.kLe k y)
    (hd : ∀ j row, 0 < j → rows[j]? = some row → row.nm = nm → mi < row.mi) : RInv N g limit (rows ++ [⟨nm, mi, tl, rd, bk⟩]) ks ∧ (∀ r ∈ N.roads, r.op = true → r.one = nm → ∀ (t : Nat) d, N.gates[t]? = some (r.other, d) → ∀ i : Int, ∀ b : Int, ∀ j row, 0 < j → (rows ++ [⟨nm, mi, tl, rd, bk⟩])[j]? = some row → RowKey N row [tl + r.tl, mi + r.mi, (t : Int), i, b]) := by
  obtain ⟨b, i, rb, r, hg, t, c, ht, ek⟩ := h.q1 k (List.mem_cons_self ..)
  have ek' := ek
  rw [hk] at ek
  simp only [List.cons.injEq, and_true] at ek
  obtain ⟨e1, e2, e3, e4, e5⟩ := ek
  have e3 : tn = t := by omega
  subst e3
  rw [hn] at ht
  have ht := Option.some.inj ht
  simp only [Prod.mk.injEq] at ht
  have hpos := h.lenPos
  have hbl : b < rows.length := (List.getElem?_eq_some_iff.mp hg.hb).1
  have low1 : ∀ j row, 0 < j → rows[j]? = some row → RowRow N row ⟨nm, mi, tl, rd, bk⟩ := fun j row h0 hj => by
    obtain ⟨t1, c1, a1, a2, a3, a4, a5, g1, ek1, hl⟩ := h.low j row k h0 hj (List.mem_cons_self ..)
    rw [hk] at ek1
    simp only [List.cons.injEq, and_true] at ek1
    exact ⟨t1, tn, c1, cs, g1, hn, by show row.tl < tl ∨ row.tl = tl ∧ (row.mi < mi ∨ row.mi = mi ∧ t1 ≤ tn); omega⟩
  refine ⟨⟨get_app1 h.r0, fun j row h0 hj => ?_, fun y hy => ?_, fun j l rj rl h0 hjl hj hl => ?_, fun j row key h0 hj hy => ?_, fun j l rj rl h0 hjl hj hl hnm => ?_⟩, fun r' hr' hop hone t' d' ht' i' b' j row h0 hj => ?_⟩
  · rcases get_app hj with e | ⟨e, er⟩
    · obtain ⟨b', i', rb', r', hb', hg', e'⟩ := h.r1 j row h0 e
      exact ⟨b', i', rb', r', hb', hg'.app _, e'⟩
    · exact ⟨b, i, rb, r, by omega, hg.app _, by rw [er, e1, e2, e4, e5, ht.1]⟩
  · obtain ⟨b', i', rb', r', hg', hk'⟩ := h.q1 y (List.mem_cons_of_mem _ hy)
    exact ⟨b', i', rb', r', hg'.app _, hk'⟩
  · rcases get_app hl with el | ⟨el, er⟩
    · rcases get_app hj with ej | ⟨ej, _⟩
      · exact h.srt j l rj rl h0 hjl ej el
      · have := (List.getElem?_eq_some_iff.mp el).1
        omega
    · rcases get_app hj with ej | ⟨ej, _⟩
      · rw [er]
        exact low1 j rj h0 ej
      · omega
  · rcases get_app hj with ej | ⟨ej, er⟩
    · exact h.low j row key h0 ej (List.mem_cons_of_mem _ hy)
    · obtain ⟨b', i', rb', r', hg', t', c', ht', ek1⟩ := h.q1 key (List.mem_cons_of_mem _ hy)
      have := hle key hy
      rw [hk, ek1] at this
      have := key3 this
      refine ⟨tn, cs, _, _, _, _, _, ?_, ek1, ?_⟩
      · rw [er]
        exact hn
      · rw [er]
        exact this
  · rcases get_app hl with el | ⟨el, er⟩
    · rcases get_app hj with ej | ⟨ej, _⟩
      · exact h.dec j l rj rl h0 hjl ej el hnm
      · have := (List.getElem?_eq_some_iff.mp el).1
        omega
    · rcases get_app hj with ej | ⟨ej, _⟩
      · rw [er] at hnm ⊢
        exact hd j rj h0 ej hnm
      · omega
  · have m1 := ok.mi r' hr'
    have m2 := ok.tl r' hr'
    rcases get_app hj with ej | ⟨ej, er⟩
    · obtain ⟨t1, t2, c1, c2, g1, g2, hl⟩ := low1 j row h0 ej
      refine ⟨t1, c1, _, _, _, _, _, g1, rfl, ?_⟩
      have hl : row.tl < tl ∨ row.tl = tl ∧ (row.mi < mi ∨ row.mi = mi ∧ t1 ≤ t2) := hl
      omega
    · refine ⟨tn, cs, _, _, _, _, _, by rw [er]; exact hn, rfl, ?_⟩
      rw [er]
      show tl < tl + r'.tl ∨ tl = tl + r'.tl ∧ (mi < mi + r'.mi ∨ mi = mi + r'.mi ∧ _)
      omega
/-- every drive within the limit is beaten by a row, or by what is still to come -/
theorem drv_cov (h : RInv N g limit rows ks) (c : Cov N limit rows ks rows.length) (ok : NetOk N) {w : Str} {m t : Int} {rs : List Int} (d : Drv N g w m t rs) (hm : m ≤ limit) :
    Dom rows w m t ∨ ∃ key ∈ ks, ∃ tl mi tn rd bk, key = [tl, mi, tn, rd, bk] ∧ (tl < t ∨ tl = t ∧ mi ≤ m) := by
  induction d with
  | @one i r hr ho e =>
    have hg : Goes N limit rows 0 i ⟨g, 0, 0, -1, -1⟩ r := ⟨h.r0, hr, ho, e, .inl rfl, by show 0 + r.mi ≤ limit; omega⟩
    rcases c 0 i _ r h.lenPos hg with d | ⟨key, hkey, t, c, _, e⟩
    · obtain ⟨j, row, h0, hj, a1, a2, a3⟩ := d
      exact .inl ⟨j, row, h0, hj, a1, by simpa using a2, by simpa using a3⟩
    · refine .inr ⟨key, hkey, _, _, _, _, _, e, ?_⟩
      show 0 + r.tl < r.tl ∨ 0 + r.tl = r.tl ∧ 0 + r.mi ≤ r.mi
      omega
  | @more v m' t' rs' i r d hb hr ho e ih =>
    have m1 := ok.mi r (List.mem_of_getElem? hr)
    have m2 := ok.tl r (List.mem_of_getElem? hr)
    rcases ih (by omega) with ⟨j, row, h0, hj, a1, a2, a3⟩ | ⟨key, hkey, tl, mi, tn, rd, bk, ek, hle⟩
    · have hg : Goes N limit rows j i row r := ⟨hj, hr, ho, by rw [a1]; exact e, .inr (by rw [a1]; exact hb), by omega⟩
      rcases c j i row r (List.getElem?_eq_some_iff.mp hj).1 hg with ⟨j', row', h0', hj', b1, b2, b3⟩ | ⟨key, hkey, t, c, _, e⟩
      · exact .inl ⟨j', row', h0', hj', b1, by omega, by omega⟩
      · refine .inr ⟨key, hkey, _, _, _, _, _, e, by omega⟩
    · exact .inr ⟨key, hkey, _, _, _, _, _, ek, by omega⟩
end
end Toll

set_option Elab.async false
set_option linter.all false
set_option maxRecDepth 100000
set_option maxHeartbeats 4000000
namespace Toll
open PySem L2
theorem nodup_lt : ∀ (n : Nat) (l : List Nat), l.Nodup → (∀ x ∈ l, x < n) → l.length ≤ n
  | 0, l, _, h => by
    cases l with
    | nil => simp
    | cons a l => exact absurd (h a (by simp)) (by omega)
  | n + 1, l, nd, h => by
    by_cases m : n ∈ l
    · have ih := nodup_lt n (l.erase n) (nd.erase n) fun x hx => by
        have h1 := (List.Nodup.mem_erase_iff nd).mp hx
        have := h x h1.2
        omega
      have := List.length_erase_of_mem m
      have : 0 < l.length := List.length_pos_of_mem m
      omega
    · have := nodup_lt n l nd fun x hx => by
        have := h x hx
        have : x ≠ n := fun e => m (by rw [← e]; exact hx)
        omega
      omega
section
variable {N : NetD} {g : Str} {limit : Int} {rows : List Row} {ks ks' : List (List Int)} {k : List Int}
theorem RInv.backs (h : RInv N g limit rows ks) : Backs rows := fun i r hr => by
  by_cases h0 : i = 0
  · subst h0
    rw [h.r0] at hr
    have := (Option.some.inj hr).symm
    subst this
    exact ⟨by show (-1 : Int) < 0; decide, .inl rfl⟩
  · obtain ⟨b, j, rb, rr, hb, _, e⟩ := h.r1 i r (by omega) hr
    subst e
    exact ⟨by show (b : Int) < i; omega, .inr (by show (0 : Int) ≤ b; omega)⟩
theorem RInv.drv (h : RInv N g limit rows ks) : ∀ (k : Nat) (row : Row), 0 < k → rows[k]? = some row → Drv N g row.nm row.mi row.tl (roadsOf rows (k : Int)) ∧ row.mi ≤ limit := by
  intro k
  induction k using Nat.strongRecOn with
  | ind k ih =>
    intro row h0 hk
    obtain ⟨b, i, rb, r, hb, hg, e⟩ := h.r1 k row h0 hk
    have st := roadsOf_step h.backs (p := (k : Int)) (by omega) (r := row) (by rw [Int.toNat_natCast]; exact hk)
    rw [st]
    subst e
    refine ⟨?_, hg.lm⟩
    by_cases hb0 : b = 0
    · subst hb0
      have e0 := hg.hb
      rw [h.r0] at e0
      have e0 := (Option.some.inj e0).symm
      subst e0
      show Drv N g r.other (0 + r.mi) (0 + r.tl) (roadsOf rows ((0 : Nat) : Int) ++ [(i : Int)])
      rw [roadsOf_end rows (by omega), Int.zero_add, Int.zero_add]
      exact .one hg.hr hg.op hg.fr
    · have d := (ih b hb rb (by omega) hg.hb).1
      rcases hg.bl with z | z
      · exact absurd z hb0
      · exact .more d z hg.hr hg.op hg.fr
theorem Goes.drv (h : RInv N g limit rows ks) {b i : Nat} {rb : Row} {r : RoadD} (hg : Goes N limit rows b i rb r) : Drv N g r.other (rb.mi + r.mi) (rb.tl + r.tl) (roadsOf rows (b : Int) ++ [(i : Int)]) := by
  by_cases hb0 : b = 0
  · subst hb0
    have e0 := hg.hb
    rw [h.r0] at e0
    have e0 := (Option.some.inj e0).symm
    subst e0
    show Drv N g r.other (0 + r.mi) (0 + r.tl) (roadsOf rows ((0 : Nat) : Int) ++ [(i : Int)])
    rw [roadsOf_end rows (by omega), Int.zero_add, Int.zero_add]
    exact .one hg.hr hg.op hg.fr
  · have d := (h.drv b rb (by omega) hg.hb).1
    rcases hg.bl with z | z
    · exact absurd z hb0
    · exact .more d z hg.hr hg.op hg.fr
theorem Drv.pos (ok : NetOk N) {w : Str} {m t : Int} {rs : List Int} (d : Drv N g w m t rs) : 1 ≤ m ∧ 0 ≤ t ∧ seesOf N.gates w ≠ none := by
  induction d with
  | one h ho e => exact ⟨ok.mi _ (List.mem_of_getElem? h), ok.tl _ (List.mem_of_getElem? h), ok.o2 _ (List.mem_of_getElem? h)⟩
  | more d hb h ho e ih =>
    have := ok.mi _ (List.mem_of_getElem? h)
    have := ok.tl _ (List.mem_of_getElem? h)
    exact ⟨by omega, by omega, ok.o2 _ (List.mem_of_getElem? h)⟩
theorem Drv.unit {u : Int} (hu : ∀ r ∈ N.roads, r.op = true → r.mi % u = 0) {w : Str} {m t : Int} {rs : List Int} (d : Drv N g w m t rs) : m % u = 0 := by
  induction d with
  | one h ho e => exact hu _ (List.mem_of_getElem? h) ho
  | more d hb h ho e ih =>
    have := hu _ (List.mem_of_getElem? h) ho
    rw [Int.add_emod, ih, this]
    simp
/-- more keys: those of the ways on from the last row -/
theorem RInv.grow (h : RInv N g limit rows ks) (hs : ∀ x ∈ ks', x ∈ ks ∨ (∃ b i rb r, Goes N limit rows b i rb r ∧ IsKey N rb r b i x) ∧ ∀ j row, 0 < j → rows[j]? = some row → RowKey N row x) : RInv N g limit rows ks' :=
  ⟨h.r0, h.r1, fun k hk => by
    rcases hs k hk with z | z
    · exact h.q1 k z
    · exact z.1, h.srt, fun j row key a b c => by
    rcases hs key c with z | z
    · exact h.low j row key a b z
    · exact z.2 j row a b, h.dec⟩
theorem cov_new {ks2 : List (List Int)} (nd : (N.gates.map (·.1)).Nodup) (c : Cov N limit rows (k :: ks) rows.length) {tl mi rd bk : Int} {tn : Nat} {nm : Str} {cs : Bool} (hpos : 0 < rows.length) (hk : k = [tl, mi, (tn : Int), rd, bk]) (hn : N.gates[tn]? = some (nm, cs))
    (hks : ∀ x ∈ ks, x ∈ ks2) (hp : ∀ i r, Goes N limit (rows ++ [⟨nm, mi, tl, rd, bk⟩]) rows.length i ⟨nm, mi, tl, rd, bk⟩ r → ∃ key ∈ ks2, IsKey N ⟨nm, mi, tl, rd, bk⟩ r rows.length i key) : Cov N limit (rows ++ [⟨nm, mi, tl, rd, bk⟩]) ks2 (rows ++ [(⟨nm, mi, tl, rd, bk⟩ : Row)]).length := fun b i rb r hb hg => by
  rcases get_app hg.hb with e | ⟨e, er⟩
  · have hbl := (List.getElem?_eq_some_iff.mp e).1
    rcases c b i rb r hbl (hg.back hbl) with d | ⟨q, hq, hik⟩
    · exact .inl (d.app _)
    · rcases List.mem_cons.mp hq with z | z
      · obtain ⟨t, d, hd, e2⟩ := hik
        rw [z, hk] at e2
        simp only [List.cons.injEq, and_true] at e2
        obtain ⟨e1, e2, e3, e4, e5⟩ := e2
        have e3 : tn = t := by omega
        subst e3
        rw [hn] at hd
        have hd := Option.some.inj hd
        simp only [Prod.mk.injEq] at hd
        exact .inl ⟨rows.length, ⟨nm, mi, tl, rd, bk⟩, hpos, (by rw [List.getElem?_append_right (Nat.le_refl _), Nat.sub_self]; rfl), hd.1, (by show mi ≤ rb.mi + r.mi; omega), (by show tl ≤ rb.tl + r.tl; omega)⟩
      · exact .inr ⟨q, hks q z, hik⟩
  · subst e er
    exact .inr (hp i r hg)
/-- the rows are few: by gates, and by minutes in units -/
theorem rows_few (ok : NetOk N) (h : RInv N g limit rows ks) {u : Int} (hu0 : 1 ≤ u) (hu : ∀ r ∈ N.roads, r.op = true → r.mi % u = 0) (h60 : N.gates.length ≤ 60) (hb : ∀ k row, 0 < k → rows[k]? = some row → row.mi ≤ 64 * u) : rows.length ≤ 3841 := by
  have code : ∀ k row, 0 < k → rows[k]? = some row → ∃ (t q : Nat), t < 60 ∧ q < 64 ∧ (∃ c, N.gates[t]? = some (row.nm, c)) ∧ row.mi = (q + 1) * u := fun k row h0 hk => by
    have d := (h.drv k row h0 hk).1
    obtain ⟨m1, _, ms⟩ := d.pos ok
    have mu := d.unit hu
    obtain ⟨t, c, ht⟩ := turn_of ms
    have tl := (List.getElem?_eq_some_iff.mp ht).1
    have e := Int.emod_add_mul_ediv row.mi u
    rw [mu, Int.zero_add] at e
    have hq1 : 1 ≤ row.mi / u := by
      rcases Int.lt_or_le 0 (row.mi / u) with z | z
      · omega
      · have : u * (row.mi / u) ≤ u * 0 := Int.mul_le_mul_of_nonneg_left z (by omega)
        omega
    have hq2 : row.mi / u ≤ 64 := by
      rcases Int.lt_or_le 64 (row.mi / u) with z | z
      · have h1 := hb k row h0 hk
        have : u * 65 ≤ u * (row.mi / u) := Int.mul_le_mul_of_nonneg_left (by omega) (by omega)
        omega
      · exact z
    refine ⟨t, (row.mi / u - 1).toNat, by omega, by omega, ⟨c, ht⟩, ?_⟩
    rw [Int.toNat_of_nonneg (by omega), show row.mi / u - 1 + 1 = row.mi / u by omega, Int.mul_comm]
    exact e.symm
  have pick : ∀ k : Nat, k < rows.length - 1 → ∃ c : Nat, c < 3840 ∧ ∃ row, rows[k + 1]? = some row ∧ ∃ t q : Nat, c = t * 64 + q ∧ q < 64 ∧ (∃ d, N.gates[t]? = some (row.nm, d)) ∧ row.mi = (q + 1) * u := fun k hk => by
    obtain ⟨t, q, h1, h2, h3, h4⟩ := code (k + 1) rows[k + 1] (by omega) (List.getElem?_eq_getElem (by omega))
    exact ⟨t * 64 + q, by omega, _, List.getElem?_eq_getElem (by omega), t, q, rfl, h2, h3, h4⟩
  have key := nodup_lt 3840 ((List.range (rows.length - 1)).map fun k => if hk : k < rows.length - 1 then (pick k hk).choose else 0) ?_ ?_
  · rw [List.length_map, List.length_range] at key
    omega
  · rw [List.Nodup, List.pairwise_map]
    refine List.Pairwise.imp_of_mem ?_ (List.nodup_range (n := rows.length - 1) |> fun z => (List.pairwise_lt_range (n := rows.length - 1)))
    intro a b ha hb2 hab
    have ha := List.mem_range.mp ha
    have hb2 := List.mem_range.mp hb2
    rw [dif_pos ha, dif_pos hb2]
    intro e
    obtain ⟨_, ra, hra, ta, qa, ea, qa64, ⟨da, hda⟩, ma⟩ := (pick a ha).choose_spec
    obtain ⟨_, rb, hrb, tb, qb, eb, qb64, ⟨db, hdb⟩, mb⟩ := (pick b hb2).choose_spec
    rw [ea, eb] at e
    have et : ta = tb := by omega
    have eq : qa = qb := by omega
    subst et eq
    rw [hda] at hdb
    have hnm := Option.some.inj hdb
    simp only [Prod.mk.injEq] at hnm
    have := h.dec (a + 1) (b + 1) ra rb (by omega) (by omega) hra hrb hnm.1
    rw [ma, mb] at this
    omega
  · intro x hx
    obtain ⟨k, hk, e⟩ := List.mem_map.mp hx
    have hk := List.mem_range.mp hk
    rw [dif_pos hk] at e
    have := (pick k hk).choose_spec.1
    omega
/-- the least key's minutes are few -/
theorem new_few (ok : NetOk N) (h : RInv N g limit rows (k :: ks)) (c : Cov N limit rows (k :: ks) rows.length) {M : Int} (hB : ∀ w m t rs, Drv N g w m t rs → m ≤ limit → ∃ m' t' rs', Drv N g w m' t' rs' ∧ m' ≤ limit ∧ t' ≤ t ∧ m' ≤ M)
    {tl mi rd bk : Int} {tn : Nat} {nm : Str} {cs : Bool} (hk : k = [tl, mi, (tn : Int), rd, bk]) (hn : N.gates[tn]? = some (nm, cs)) (hle : ∀ y ∈ ks, TH.kLe k y) (hb : ∀ j row, 0 < j → rows[j]? = some row → row.mi ≤ M)
    (hd : ∀ j row, 0 < j → rows[j]? = some row → row.nm = nm → mi < row.mi) : mi ≤ M := by
  obtain ⟨b, i, rb, r, hg, t, c', ht, ek⟩ := h.q1 k (List.mem_cons_self ..)
  rw [hk] at ek
  simp only [List.cons.injEq, and_true] at ek
  obtain ⟨e1, e2, e3, e4, e5⟩ := ek
  have e3 : tn = t := by omega
  subst e3
  rw [hn] at ht
  have ht := Option.some.inj ht
  simp only [Prod.mk.injEq] at ht
  have d := hg.drv h
  rw [← ht.1, ← e1, ← e2] at d
  obtain ⟨m', t', rs', d', l1, l2, l3⟩ := hB _ _ _ _ d (by have := hg.lm; omega)
  rcases drv_cov h c ok d' l1 with ⟨j, row, h0, hj, a1, a2, a3⟩ | ⟨key, hkey, tl2, mi2, tn2, rd2, bk2, ek2, hle2⟩
  · have := hd j row h0 hj a1
    have := hb j row h0 hj
    omega
  · rcases List.mem_cons.mp hkey with z | z
    · rw [z, hk] at ek2
      simp only [List.cons.injEq, and_true] at ek2
      omega
    · have := hle key z
      rw [hk, ek2] at this
      have := key3 this
      omega
end
end Toll

set_option Elab.async false
set_option linter.all false
set_option maxRecDepth 100000
set_option maxHeartbeats 4000000
namespace Toll
open PySem L2
theorem putK_le (c : List (Key × V)) (k : Key) (x : V) : (putK c k x).length ≤ c.length + 1 := by
  unfold putK
  split
  · rw [List.length_map]
    omega
  · rw [List.length_append]
    simp
structure Way where
  rd : Int
  tn : Int
  mi : Int
  tl : Int
def wayVs (x : Way) : List V := [.int x.rd, .int x.tn, .int x.mi, .int x.tl]
def WayV (H : Hp) (v : V) (x : Way) : Prop := ∃ t, v = .ref t ∧ H t = some (.tup (wayVs x))
theorem ways_same {H H' : Hp} {us : List V} {ws : List Way} (s : Same H H') (h : Paired (WayV H) us ws) : Paired (WayV H') us ws := L2.Paired.mapP h fun _ _ ⟨t, e, ht⟩ => ⟨t, e, s _ _ ht⟩
theorem ways_upd {H : Hp} {L : Addr} {xs : List V} {o : HO} {us : List V} {ws : List Way} (hL : H L = some (.lst xs)) (h : Paired (WayV H) us ws) : Paired (WayV (upd H L o)) us ws := L2.Paired.mapP h fun _ _ ⟨t, e, ht⟩ => ⟨t, e, by rw [upd_ne (ne_of ht hL (by intro z; cases z))]; exact ht⟩
def turnI (gs : List (Str × Bool)) (nm : Str) : Nat := gs.findIdx fun q => decide (q.1 = nm)
theorem turnI_at {gs : List (Str × Bool)} (nd : (gs.map (·.1)).Nodup) {t : Nat} {nm : Str} {c : Bool} (h : gs[t]? = some (nm, c)) : turnI gs nm = t := by
  obtain ⟨hl, e⟩ := List.getElem?_eq_some_iff.mp h
  unfold turnI
  rw [List.findIdx_eq hl]
  refine ⟨by rw [e]; exact decide_eq_true rfl, fun j hj => ?_⟩
  refine decide_eq_false fun z => ?_
  have := nodup_at nd (s := j) (t := t) (nm := nm) (c := gs[j].2) (d := c) (by rw [List.getElem?_eq_getElem (by omega), ← z]) h
  omega
/-- the open roads from a gate, ahead of the road i -/
def waysF (N : NetD) (nm : Str) : Nat → List Way
  | 0 => []
  | i + 1 => waysF N nm i ++ (match N.roads[i]? with
    | some r => if r.op = true ∧ r.one = nm then [⟨(i : Int), (turnI N.gates r.other : Int), r.mi, r.tl⟩] else []
    | none => [])
theorem waysF_step {N : NetD} {nm : Str} {i : Nat} {r : RoadD} (h : N.roads[i]? = some r) : waysF N nm (i + 1) = if r.op = true ∧ r.one = nm then waysF N nm i ++ [⟨(i : Int), (turnI N.gates r.other : Int), r.mi, r.tl⟩] else waysF N nm i := by
  conv => lhs; unfold waysF
  rw [h]
  show waysF N nm i ++ (if r.op = true ∧ r.one = nm then _ else []) = _
  by_cases e : r.op = true ∧ r.one = nm
  · rw [if_pos e, if_pos e]
  · rw [if_neg e, if_neg e, List.append_nil]
theorem waysF_len (N : NetD) (nm : Str) : ∀ i, (waysF N nm i).length ≤ i
  | 0 => Nat.le_refl _
  | i + 1 => by
    have := waysF_len N nm i
    unfold waysF
    rw [List.length_append]
    split
    · split <;> simp <;> omega
    · simp; omega
theorem waysF_mem {N : NetD} {nm : Str} {x : Way} : ∀ n, x ∈ waysF N nm n ↔ ∃ (i : Nat) (r : RoadD), i < n ∧ N.roads[i]? = some r ∧ r.op = true ∧ r.one = nm ∧ x = ⟨(i : Int), (turnI N.gates r.other : Int), r.mi, r.tl⟩
  | 0 => ⟨fun h => (by cases h), fun ⟨i, _, h, _⟩ => absurd h (by omega)⟩
  | n + 1 => by
    unfold waysF
    rw [List.mem_append, waysF_mem n]
    constructor
    · rintro (⟨i, r, h, z⟩ | h)
      · exact ⟨i, r, by omega, z⟩
      · cases e : N.roads[n]? with
        | none => rw [e] at h; cases h
        | some r =>
          rw [e] at h
          have h : x ∈ (if r.op = true ∧ r.one = nm then [(⟨(n : Int), (turnI N.gates r.other : Int), r.mi, r.tl⟩ : Way)] else []) := h
          split at h
          · rename_i c
            rw [List.mem_singleton] at h
            exact ⟨n, r, by omega, e, c.1, c.2, h⟩
          · cases h
    · rintro ⟨i, r, h, hr, ho, e, hx⟩
      by_cases z : i = n
      · subst z
        refine .inr ?_
        rw [hr]
        show x ∈ (if r.op = true ∧ r.one = nm then _ else [])
        rw [if_pos ⟨ho, e⟩, hx]
        exact List.mem_singleton.mpr rfl
      · exact .inl ⟨i, r, by omega, hr, ho, e, hx⟩
def wayKey (row : Row) (b : Nat) (x : Way) : List Int := [row.tl + x.tl, row.mi + x.mi, x.tn, x.rd, (b : Int)]
theorem turn_at {N : NetD} (ok : NetOk N) {r : RoadD} (h : r ∈ N.roads) : ∃ c, N.gates[turnI N.gates r.other]? = some (r.other, c) := by
  obtain ⟨t, c, ht⟩ := turn_of (ok.o2 r h)
  rw [turnI_at ok.nd ht]
  exact ⟨c, ht⟩
theorem keys_in {N : NetD} (ok : NetOk N) {limit : Int} {rows : List Row} {row : Row} (hbl : rows.length = 0 ∨ seesOf N.gates row.nm = some false) {x : Way} (hx : x ∈ waysF N row.nm N.roads.length) (hl : row.mi + x.mi ≤ limit) :
    ∃ i r, Goes N limit (rows ++ [row]) rows.length i row r ∧ IsKey N row r rows.length i (wayKey row rows.length x) := by
  obtain ⟨i, r, _, hr, ho, e, rfl⟩ := (waysF_mem _).mp hx
  obtain ⟨c, hc⟩ := turn_at ok (List.mem_of_getElem? hr)
  exact ⟨i, r, ⟨by rw [List.getElem?_append_right (Nat.le_refl _), Nat.sub_self]; rfl, hr, ho, e, hbl, hl⟩, _, c, hc, rfl⟩
theorem keys_out {N : NetD} (ok : NetOk N) {limit : Int} {rows : List Row} {row : Row} {i : Nat} {r : RoadD} (hg : Goes N limit (rows ++ [row]) rows.length i row r) :
    ∃ x ∈ waysF N row.nm N.roads.length, row.mi + x.mi ≤ limit ∧ IsKey N row r rows.length i (wayKey row rows.length x) := by
  obtain ⟨c, hc⟩ := turn_at ok (List.mem_of_getElem? hg.hr)
  exact ⟨_, (waysF_mem _).mpr ⟨i, r, (List.getElem?_eq_some_iff.mp hg.hr).1, hg.hr, hg.op, hg.fr, rfl⟩, hg.lm, _, c, hc, rfl⟩
theorem rinv0 (N : NetD) (g : Str) (limit : Int) : RInv N g limit [⟨g, 0, 0, -1, -1⟩] [] := by
  have no : ∀ (k : Nat) (row : Row), 0 < k → ([⟨g, 0, 0, -1, -1⟩] : List Row)[k]? = some row → False := fun k row h e => by
    have := (List.getElem?_eq_some_iff.mp e).1
    simp at this
    omega
  exact ⟨rfl, fun k row h e => (no k row h e).elim, fun k h => (by cases h), fun j k rj rk h _ e => (no j rj h e).elim, fun k row key h e => (no k row h e).elim, fun j k rj rk h _ e => (no j rj h e).elim⟩
theorem Cov.mono {N : NetD} {limit : Int} {rows : List Row} {ks ks' : List (List Int)} {n : Nat} (c : Cov N limit rows ks n) (h : ∀ x ∈ ks, x ∈ ks') : Cov N limit rows ks' n := fun b i rb r hb hg => by
  rcases c b i rb r hb hg with d | ⟨k, hk, e⟩
  · exact .inl d
  · exact .inr ⟨k, h k hk, e⟩
/-- what the rows are behind the loop -/
def RowsPost (N : NetD) (g : Str) (limit : Int) (goal : Option Str) (rows : List Row) : Prop := RInv N g limit rows [] ∧ rows.length ≤ 3842 ∧ match goal with
  | none => Cov N limit rows [] rows.length
  | some w => (Cov N limit rows [] rows.length ∧ ∀ j row, 0 < j → rows[j]? = some row → row.nm ≠ w) ∨ ∃ rows0 row, rows = rows0 ++ [row] ∧ 0 < rows0.length ∧ row.nm = w ∧ (∀ j r, 0 < j → rows0[j]? = some r → r.nm ≠ w) ∧ ∀ m t rs, Drv N g w m t rs → m ≤ limit → row.tl < t ∨ row.tl = t ∧ row.mi ≤ m
def goalV : Option Str → V
  | none => .non
  | some w => .str w
/-- all that the loop keeps, without the heap -/
structure Loop (N : NetD) (g : Str) (limit u : Int) (goal : Option Str) (rows : List Row) (ks : List (List Int)) (fk : List (Key × V)) : Prop where
  inv : RInv N g limit rows ks
  cov : Cov N limit rows ks rows.length
  f1 : ∀ nm v, valV fk (Sum.inr nm) = some v → ∃ j row, 0 < j ∧ rows[j]? = some row ∧ row.nm = nm ∧ v = .int row.mi ∧ ∀ j' row', 0 < j' → rows[j']? = some row' → row'.nm = nm → row.mi ≤ row'.mi
  f0 : ∀ nm, valV fk (Sum.inr nm) = none → ∀ j row, 0 < j → rows[j]? = some row → row.nm ≠ nm
  fl : fk.length ≤ rows.length
  mi : ∀ j row, 0 < j → rows[j]? = some row → row.mi ≤ 64 * u
  go : ∀ w, goal = some w → ∀ j row, 0 < j → rows[j]? = some row → row.nm ≠ w
/-- what is fixed ahead of the loop -/
structure Few (N : NetD) (g : Str) (limit u : Int) : Prop where
  u1 : 1 ≤ u
  un : ∀ r ∈ N.roads, r.op = true → r.mi % u = 0
  few : ∀ w m t rs, Drv N g w m t rs → m ≤ limit → ∃ m' t' rs', Drv N g w m' t' rs' ∧ m' ≤ limit ∧ t' ≤ t ∧ m' ≤ 64 * u
section
variable {N : NetD} {g : Str} {limit u : Int} {goal : Option Str} {rows : List Row} {ks ks' : List (List Int)} {fk : List (Key × V)} {k : List Int}
theorem Loop.len (ok : NetOk N) (h60 : N.gates.length ≤ 60) (fw : Few N g limit u) (h : Loop N g limit u goal rows ks fk) : rows.length ≤ 3841 := rows_few ok h.inv fw.u1 fw.un h60 h.mi
/-- a key that is beaten is left -/
theorem Loop.skip (ok : NetOk N) (h : Loop N g limit u goal rows ks fk) (hp : ∀ x, x ∈ ks ↔ x = k ∨ x ∈ ks') {tl mi tn rd bk : Int} (hk : k = [tl, mi, tn, rd, bk]) {nm : Str} {c : Bool} (hn : N.gates[tn.toNat]? = some (nm, c)) {f : Int} (hf : valV fk (Sum.inr nm) = some (.int f)) (hle : f ≤ mi) : Loop N g limit u goal rows ks' fk := by
  have inv2 : RInv N g limit rows (k :: ks') := h.inv.sub fun x hx => (hp x).mpr (List.mem_cons.mp hx)
  have cov2 : Cov N limit rows (k :: ks') rows.length := h.cov.mono fun x hx => List.mem_cons.mpr ((hp x).mp hx)
  obtain ⟨j, row, h0, hj, e1, e2, _⟩ := h.f1 nm _ hf
  injection e2 with e2
  exact ⟨inv2.sub fun x hx => List.mem_cons_of_mem _ hx, cov_skip (b := 0) inv2 cov2 hk h0 hj (by rw [e1]; exact hn) ok.nd (by omega), h.f1, h.f0, h.fl, h.mi, h.go⟩
/-- a new row, ahead of what goes on from it -/
theorem Loop.row (ok : NetOk N) (fw : Few N g limit u) (h : Loop N g limit u goal rows ks fk) (hp : ∀ x, x ∈ ks ↔ x = k ∨ x ∈ ks') (hmin : ∀ y ∈ ks', TH.kLe k y) {tl mi rd bk : Int} {tn : Nat} (hk : k = [tl, mi, (tn : Int), rd, bk]) {nm : Str} {c : Bool} (hn : N.gates[tn]? = some (nm, c))
    (hd : ∀ j row, 0 < j → rows[j]? = some row → row.nm = nm → mi < row.mi) : mi ≤ 64 * u ∧ RInv N g limit (rows ++ [⟨nm, mi, tl, rd, bk⟩]) ks' ∧
      (∀ r ∈ N.roads, r.op = true → r.one = nm → ∀ (t : Nat) d, N.gates[t]? = some (r.other, d) → ∀ i : Int, ∀ b : Int, ∀ j row, 0 < j → (rows ++ [⟨nm, mi, tl, rd, bk⟩])[j]? = some row → RowKey N row [tl + r.tl, mi + r.mi, (t : Int), i, b]) ∧
      Cov N limit rows (k :: ks') rows.length ∧ RInv N g limit rows (k :: ks') := by
  have inv2 : RInv N g limit rows (k :: ks') := h.inv.sub fun x hx => (hp x).mpr (List.mem_cons.mp hx)
  have cov2 : Cov N limit rows (k :: ks') rows.length := h.cov.mono fun x hx => List.mem_cons.mpr ((hp x).mp hx)
  obtain ⟨a1, a2⟩ := inv2.new ok hk hn hmin hd
  exact ⟨new_few ok inv2 cov2 fw.few hk hn hmin h.mi hd, a1, a2, cov2, inv2⟩
/-- .. and behind it -/
theorem Loop.next (ok : NetOk N) (fw : Few N g limit u) (h : Loop N g limit u goal rows ks fk) (hp : ∀ x, x ∈ ks ↔ x = k ∨ x ∈ ks') (hmin : ∀ y ∈ ks', TH.kLe k y) {tl mi rd bk : Int} {tn : Nat} (hk : k = [tl, mi, (tn : Int), rd, bk]) {nm : Str} {c : Bool} (hn : N.gates[tn]? = some (nm, c))
    (hd : ∀ j row, 0 < j → rows[j]? = some row → row.nm = nm → mi < row.mi) (hg : ∀ w, goal = some w → nm ≠ w) {ks2 : List (List Int)} (hm : ∀ x, x ∈ ks2 ↔ x ∈ ks' ∨ (c = false ∧ ∃ y ∈ waysF N nm N.roads.length, mi + y.mi ≤ limit ∧ x = wayKey ⟨nm, mi, tl, rd, bk⟩ rows.length y)) :
    Loop N g limit u goal (rows ++ [⟨nm, mi, tl, rd, bk⟩]) ks2 (putK fk (Sum.inr nm) (.int mi)) := by
  obtain ⟨m64, a1, a2, cov2, inv2⟩ := h.row ok fw hp hmin hk hn hd
  have hsee := sees_at ok.nd hn
  refine ⟨a1.grow fun x hx => ?_, cov_new ok.nd cov2 inv2.lenPos hk hn (fun x hx => (hm x).mpr (.inl hx)) fun i r hgo => ?_, fun nm' v e => ?_, fun nm' e j row h0 hj => ?_, Nat.le_trans (putK_le _ _ _) (by rw [List.length_append]; exact Nat.add_le_add_right h.fl 1), fun j row h0 hj => ?_, fun w hw j row h0 hj => ?_⟩
  · rcases (hm x).mp hx with e | ⟨e, y, hy, hl, ex⟩
    · exact .inl e
    · subst ex
      refine .inr ⟨?_, fun j row h0 hj => ?_⟩
      · obtain ⟨i, r, hg1, hk1⟩ := keys_in ok (limit := limit) (rows := rows) (row := ⟨nm, mi, tl, rd, bk⟩) (.inr (by rw [hsee, e])) hy hl
        exact ⟨_, i, _, r, hg1, hk1⟩
      · obtain ⟨i, r, _, hr, ho, er, rfl⟩ := (waysF_mem _).mp hy
        obtain ⟨d, hd'⟩ := turn_at ok (List.mem_of_getElem? hr)
        exact a2 r (List.mem_of_getElem? hr) ho er _ d hd' _ _ j row h0 hj
  · obtain ⟨y, hy, hl, hik⟩ := keys_out ok hgo
    refine ⟨_, (hm _).mpr (.inr ⟨?_, y, hy, hl, rfl⟩), hik⟩
    rcases hgo.bl with z | z
    · have := inv2.lenPos
      omega
    · rw [hsee] at z
      exact Option.some.inj z
  · rw [valV_put] at e
    by_cases y : (Sum.inr nm' : Key) = Sum.inr nm
    · rw [if_pos y] at e
      have e := Option.some.inj e
      refine ⟨rows.length, ⟨nm, mi, tl, rd, bk⟩, inv2.lenPos, by rw [List.getElem?_append_right (Nat.le_refl _), Nat.sub_self]; rfl, (key_inr.mp y).symm, e.symm, fun j' row' h0' hj' hnm => ?_⟩
      rcases get_app hj' with z | ⟨_, z⟩
      · exact Int.le_of_lt (hd j' row' h0' z (by rw [hnm, key_inr.mp y]))
      · rw [z]
        exact Int.le_refl mi
    · rw [if_neg y] at e
      obtain ⟨j, row, h0, hj, e1, e2, e3⟩ := h.f1 nm' v e
      refine ⟨j, row, h0, get_app1 hj, e1, e2, fun j' row' h0' hj' hnm => ?_⟩
      rcases get_app hj' with z | ⟨_, z⟩
      · exact e3 j' row' h0' z hnm
      · rw [z] at hnm
        exact absurd (by rw [← hnm]) y
  · rw [valV_put] at e
    by_cases y : (Sum.inr nm' : Key) = Sum.inr nm
    · rw [if_pos y] at e
      cases e
    · rw [if_neg y] at e
      rcases get_app hj with z | ⟨_, z⟩
      · exact h.f0 nm' e j row h0 z
      · rw [z]
        exact fun w => y (by rw [← w])
  · rcases get_app hj with z | ⟨_, z⟩
    · exact h.mi j row h0 z
    · rw [z]
      exact m64
  · rcases get_app hj with z | ⟨_, z⟩
    · exact h.go w hw j row h0 z
    · rw [z]
      exact hg w hw
/-- the first row at the goal -/
theorem Loop.last (ok : NetOk N) (h60 : N.gates.length ≤ 60) (fw : Few N g limit u) (h : Loop N g limit u goal rows ks fk) (hp : ∀ x, x ∈ ks ↔ x = k ∨ x ∈ ks') (hmin : ∀ y ∈ ks', TH.kLe k y) {tl mi rd bk : Int} {tn : Nat} (hk : k = [tl, mi, (tn : Int), rd, bk]) {nm : Str} {c : Bool} (hn : N.gates[tn]? = some (nm, c))
    (hd : ∀ j row, 0 < j → rows[j]? = some row → row.nm = nm → mi < row.mi) (hg : goal = some nm) : RowsPost N g limit goal (rows ++ [⟨nm, mi, tl, rd, bk⟩]) := by
  obtain ⟨m64, a1, a2, cov2, inv2⟩ := h.row ok fw hp hmin hk hn hd
  have l := h.len ok h60 fw
  subst hg
  refine ⟨a1.sub (by simp), by rw [List.length_append]; show rows.length + 1 ≤ 3842; omega, .inr ⟨rows, _, rfl, inv2.lenPos, rfl, h.go nm rfl, fun m t rs d hm => ?_⟩⟩
  show tl < t ∨ tl = t ∧ mi ≤ m
  rcases drv_cov inv2 cov2 ok d hm with ⟨j, row, h0, hj, e1, _⟩ | ⟨key, hkey, tl2, mi2, tn2, rd2, bk2, ek2, hle2⟩
  · exact absurd e1 (h.go nm rfl j row h0 hj)
  · rcases List.mem_cons.mp hkey with z | z
    · rw [z, hk] at ek2
      simp only [List.cons.injEq, and_true] at ek2
      omega
    · have := hmin key z
      rw [hk, ek2] at this
      have := key3 this
      omega
theorem Loop.post (ok : NetOk N) (h60 : N.gates.length ≤ 60) (fw : Few N g limit u) (h : Loop N g limit u goal rows [] fk) : RowsPost N g limit goal rows := by
  refine ⟨h.inv, Nat.le_trans (h.len ok h60 fw) (by decide), ?_⟩
  cases goal with
  | none => exact h.cov
  | some w => exact .inl ⟨h.cov, h.go w rfl⟩
end
/-! ### tuples stay -/
def TK (H H' : Hp) : Prop := ∀ t xs, H t = some (.tup xs) → H' t = some (.tup xs)
theorem TK.refl (H : Hp) : TK H H := fun _ _ e => e
theorem TK.trans {H H1 H2 : Hp} (a : TK H H1) (b : TK H1 H2) : TK H H2 := fun t xs e => b t xs (a t xs e)
theorem TK.same {H H' : Hp} (s : Same H H') : TK H H' := fun t xs e => s t _ e
theorem TK.up {H : Hp} {p : Addr} {u o : HO} (h : H p = some u) (hn : ∀ xs, u ≠ .tup xs) : TK H (upd H p o) := fun t xs e => by
  have : t ≠ p := fun z => by
    rw [z, h] at e
    exact hn xs (Option.some.inj e)
  rw [upd_ne this]
  exact e
theorem TK.keep {S : List Addr} {H H' : Hp} (k : Keep S H H') (hS : ∀ a ∈ S, ∀ xs, H a ≠ some (.tup xs)) : TK H H' := fun t xs e => k t _ e fun m => hS t m xs e
theorem rows_tk {H H' : Hp} (k : TK H H') {us : List V} {rows : List Row} (h : Paired (RowV H) us rows) : Paired (RowV H') us rows := L2.Paired.mapP h fun _ _ ⟨t, e, ht⟩ => ⟨t, e, k _ _ ht⟩
theorem ZK_tk {H H' : Hp} (k : TK H H') {zs : List TH.Z} (h : TH.ZK H zs) : TH.ZK H' zs := fun z hz => k _ _ (h z hz)
theorem perm_keys {z : TH.Z} {zs zs' : List TH.Z} (h : (z :: zs').Perm zs) : ∀ x, x ∈ zs.map (·.2) ↔ x = z.2 ∨ x ∈ zs'.map (·.2) := fun x => by
  rw [← (h.map (·.2)).mem_iff]
  simp
end Toll

set_option Elab.async false
set_option linter.all false
set_option maxRecDepth 100000
set_option maxHeartbeats 4000000
namespace Toll
open PySem L2
/-! ### names are apart -/
theorem sgn_inj {i j : Int} (hi0 : 0 ≤ i) (hi : i < 36) (hj0 : 0 ≤ j) (hj : j < 36) (h : sgn i = sgn j) : i = j := by
  have e : ∀ n : Nat, n < 36 → someS.cps.toList.getD n 0 = if n < 26 then 97 + n else 22 + n := fun n hn => by
    rw [someS_range, List.getD_eq_getElem?_getD]
    by_cases h : n < 26
    · rw [if_pos h, List.getElem?_append_left (by simp; omega), List.getElem?_range' (by omega)]
      simp
    · rw [if_neg h, List.getElem?_append_right (by simp; omega), List.length_range', List.getElem?_range' (by omega)]
      simp
      omega
  rw [sgn_def, sgn_def, e _ (by omega), e _ (by omega)] at h
  split at h <;> split at h <;> omega
theorem nameOf_inj8 {b s t : Int} (hb : 0 ≤ b) (hs : 0 ≤ s) (hs8 : s < 8) (ht : 0 ≤ t) (ht8 : t < 8) (h : nameOf b s = nameOf b t) : s = t := by
  by_cases h1 : b % 3 = 1
  · exact nameOf_inj h1 hs ht h
  · rw [nameOf_def, nameOf_def] at h
    have h := sx_inj h
    have hl := sg_len b
    by_cases h0 : b % 3 = 0
    · have e : ∀ u, u < 8 → nameL b u = (sg b).take (1 + u).toNat := fun u hu => by
        unfold nameL
        rw [if_pos ⟨h0, hu⟩]
      rw [e s hs8, e t ht8] at h
      have := congrArg List.length h
      rw [List.length_take, List.length_take, hl] at this
      omega
    · have h2 : b % 3 = 2 := by omega
      have e : ∀ u, u < 8 → nameL b u = ((sg b).set (b / 24 % (1 + b / 3 % 8)).toNat (sgn ((b / 2311 + u) % (if b / 24 % (1 + b / 3 % 8) = 0 then 26 else 36)))).take (1 + b / 3 % 8).toNat := fun u hu => by
        unfold nameL
        rw [if_neg (by omega), if_neg (by omega)]
      rw [e s hs8, e t ht8] at h
      have a0 := Int.emod_nonneg (b / 24) (b := 1 + b / 3 % 8) (by omega)
      have a1 := Int.emod_lt_of_pos (b / 24) (b := 1 + b / 3 % 8) (by omega)
      generalize hat : (b / 24 % (1 + b / 3 % 8)).toNat = at1 at h
      have hat1 : at1 < (1 + b / 3 % 8).toNat := by omega
      have hat8 : at1 < 8 := by omega
      have g := congrArg (fun l : List Nat => l[at1]?) h
      simp only [List.getElem?_take_of_lt hat1] at g
      rw [List.getElem?_set_self (by rw [hl]; exact hat8), List.getElem?_set_self (by rw [hl]; exact hat8)] at g
      have g := Option.some.inj g
      by_cases hz : b / 24 % (1 + b / 3 % 8) = 0
      · rw [if_pos hz] at g
        have := sgn_inj (by omega) (by omega) (by omega) (by omega) g
        omega
      · rw [if_neg hz] at g
        have := sgn_inj (by omega) (by omega) (by omega) (by omega) g
        omega
/-! ### the law's gates and lines -/
structure GsOk (gs : List (Str × Bool)) : Prop where
  nd : (gs.map (·.1)).Nodup
  l2 : 2 ≤ gs.length
  l60 : gs.length ≤ 60
  nm : ∀ q ∈ gs, NameOk q.1
abbrev GL (H : Hp) (gts : List Addr) (gs : List (Str × Bool)) : Prop := Paired (fun (t : Addr) (q : Str × Bool) => H t = some (.lst [.str q.1, .bl q.2])) gts gs
abbrev RL (H : Hp) (rts : List Addr) (rs : List RoadD) : Prop := Paired (fun (t : Addr) (r : RoadD) => H t = some (.lst (roadVs r))) rts rs
theorem GL.same {H H' : Hp} {gts : List Addr} {gs : List (Str × Bool)} (s : Same H H') (h : GL H gts gs) : GL H' gts gs := L2.Paired.mapP h fun _ _ e => s _ _ e
theorem RL.same {H H' : Hp} {rts : List Addr} {rs : List RoadD} (s : Same H H') (h : RL H rts rs) : RL H' rts rs := L2.Paired.mapP h fun _ _ e => s _ _ e
theorem GL.upd {H : Hp} {gts : List Addr} {gs : List (Str × Bool)} {L : Addr} {o : HO} (h : GL H gts gs) (hL : L ∉ gts) : GL (upd H L o) gts gs := paired_mem h fun a ha _ e => by
  rw [upd_ne (show a ≠ L from fun z => hL (by rw [← z]; exact ha))]
  exact e
theorem RL.upd {H : Hp} {rts : List Addr} {rs : List RoadD} {L : Addr} {o : HO} (h : RL H rts rs) (hL : L ∉ rts) : RL (upd H L o) rts rs := paired_mem h fun a ha _ e => by
  rw [upd_ne (show a ≠ L from fun z => hL (by rw [← z]; exact ha))]
  exact e
theorem GL.fresh {H : Hp} {gts : List Addr} {gs : List (Str × Bool)} {t : Addr} (h : GL H gts gs) (ht : H t = none) : t ∉ gts := fun m => by
  obtain ⟨j, hj⟩ := List.getElem?_of_mem m
  obtain ⟨q, _, e⟩ := paired_getL h hj
  rw [ht] at e
  cases e
theorem RL.fresh {H : Hp} {rts : List Addr} {rs : List RoadD} {t : Addr} (h : RL H rts rs) (ht : H t = none) : t ∉ rts := fun m => by
  obtain ⟨j, hj⟩ := List.getElem?_of_mem m
  obtain ⟨q, _, e⟩ := paired_getL h hj
  rw [ht] at e
  cases e
/-- names by number, truth by any -/
theorem gsOk_of {b : Int} {n : Nat} {f : Nat → Bool} (hb : 0 ≤ b) (h : n ≤ 8 ∨ b % 3 = 1) (h2 : 2 ≤ n) (h60 : n ≤ 60) : GsOk ((List.range n).map fun k : Nat => (nameOf b (k : Int), f k)) := by
  refine ⟨?_, by simpa using h2, by simpa using h60, fun q hq => ?_⟩
  · rw [List.map_map, List.Nodup, List.pairwise_map]
    refine List.Pairwise.imp_of_mem ?_ List.pairwise_lt_range
    intro i j hi hj hij e
    have hi := List.mem_range.mp hi
    have hj := List.mem_range.mp hj
    have e : nameOf b (i : Int) = nameOf b (j : Int) := e
    rcases h with h | h
    · have := nameOf_inj8 hb (by omega) (by omega) (by omega) (by omega) e
      omega
    · have := nameOf_inj h (by omega) (by omega) e
      omega
  · obtain ⟨k, hk, rfl⟩ := List.mem_map.mp hq
    have hk := List.mem_range.mp hk
    exact nameOk_of (by omega) (by omega)
structure LineOk (gs : List (Str × Bool)) (u : Int) (r : RoadD) : Prop where
  o1 : ∃ c, (r.one, c) ∈ gs
  o2 : ∃ c, (r.other, c) ∈ gs
  ne : r.one ≠ r.other
  mi : ∃ j : Int, 1 ≤ j ∧ j ≤ 6 ∧ r.mi = u * j
  tl : 0 ≤ r.tl ∧ r.tl ≤ 1000000
theorem netOk_of {gs : List (Str × Bool)} {rs : List RoadD} {u : Int} (hu : 1 ≤ u) (hg : GsOk gs) (hr : ∀ r ∈ rs, LineOk gs u r) : NetOk ⟨gs, rs⟩ := by
  refine ⟨hg.nd, fun r h => ?_, fun r h => (hr r h).tl.1, fun r h => ?_, fun r h => ?_⟩
  · obtain ⟨j, h1, _, e⟩ := (hr r h).mi
    rw [e]
    have : u * 1 ≤ u * j := Int.mul_le_mul_of_nonneg_left h1 (by omega)
    omega
  · obtain ⟨c, hc⟩ := (hr r h).o1
    exact sees_mem hc
  · obtain ⟨c, hc⟩ := (hr r h).o2
    exact sees_mem hc
theorem few_of {gs : List (Str × Bool)} {rs : List RoadD} {u limit : Int} (nm : Str) (hu : 1 ≤ u) (hr : ∀ r ∈ rs, LineOk gs u r) (hl : limit ≤ 64 * u) : Few ⟨gs, rs⟩ nm limit u := by
  refine ⟨hu, fun r h _ => ?_, fun w m t rs' d hm => ⟨m, t, rs', d, hm, Int.le_refl _, by omega⟩⟩
  obtain ⟨j, _, _, e⟩ := (hr r h).mi
  rw [e]
  exact Int.mul_emod_right u j
end Toll

set_option Elab.async false
set_option linter.all false
set_option maxRecDepth 100000
set_option maxHeartbeats 4000000
namespace Toll
open PySem L2
theorem leastF_step {rows : List Row} {nm : Str} {i : Nat} {r : Row} (hi : 0 < i) (hr : rows[i]? = some r) : leastF rows nm (i + 1) =
    if r.nm = nm then (match leastF rows nm i with
      | none => some i
      | some b => if r.tl < ((rows[b]?).map (·.tl)).getD 0 then some i else some b) else leastF rows nm i := by
  conv => lhs; unfold leastF
  rw [if_neg (by omega), hr]
  all_goals rfl
/-- what least tells -/
theorem leastF_spec {rows : List Row} {nm : Str} : ∀ n, n ≤ rows.length → match leastF rows nm n with
    | none => ∀ j r, 0 < j → j < n → rows[j]? = some r → r.nm ≠ nm
    | some b => 0 < b ∧ b < n ∧ ∃ rb, rows[b]? = some rb ∧ rb.nm = nm ∧ ∀ j r, 0 < j → j < n → rows[j]? = some r → r.nm = nm → rb.tl ≤ r.tl ∧ (r.tl = rb.tl → b ≤ j)
  | 0, _ => fun j r h0 h1 => by omega
  | 1, _ => by
    have : leastF rows nm 1 = none := by
      unfold leastF
      rw [if_pos rfl]
    rw [this]
    exact fun j r h0 h1 => by omega
  | i + 2, hn => by
    have ih := leastF_spec (rows := rows) (nm := nm) (i + 1) (by omega)
    obtain ⟨r, hr⟩ : ∃ r, rows[i + 1]? = some r := ⟨_, List.getElem?_eq_getElem (by omega)⟩
    rw [leastF_step (by omega) hr]
    by_cases hnm : r.nm = nm
    · rw [if_pos hnm]
      cases hl : leastF rows nm (i + 1) with
      | none =>
        rw [hl] at ih
        refine ⟨by omega, by omega, r, hr, hnm, fun j rj h0 h1 hj e => ?_⟩
        by_cases hji : j = i + 1
        · subst hji
          rw [hr] at hj
          cases hj
          exact ⟨Int.le_refl _, fun _ => Nat.le_refl _⟩
        · exact absurd e (ih j rj h0 (by omega) hj)
      | some b =>
        rw [hl] at ih
        obtain ⟨b0, b1, rb, hb, eb, hm⟩ := ih
        show match (if r.tl < ((rows[b]?).map (·.tl)).getD 0 then some (i + 1) else some b) with | none => _ | some b => _
        rw [hb]
        show match (if r.tl < rb.tl then some (i + 1) else some b) with | none => _ | some b => _
        by_cases ht : r.tl < rb.tl
        · rw [if_pos ht]
          refine ⟨by omega, by omega, r, hr, hnm, fun j rj h0 h1 hj e => ?_⟩
          by_cases hji : j = i + 1
          · subst hji
            rw [hr] at hj
            cases hj
            exact ⟨Int.le_refl _, fun _ => Nat.le_refl _⟩
          · have := hm j rj h0 (by omega) hj e
            exact ⟨by omega, fun z => by omega⟩
        · rw [if_neg ht]
          refine ⟨b0, by omega, rb, hb, eb, fun j rj h0 h1 hj e => ?_⟩
          by_cases hji : j = i + 1
          · subst hji
            rw [hr] at hj
            cases hj
            exact ⟨by omega, fun _ => by omega⟩
          · exact hm j rj h0 (by omega) hj e
    · rw [if_neg hnm]
      cases hl : leastF rows nm (i + 1) with
      | none =>
        rw [hl] at ih
        intro j rj h0 h1 hj
        by_cases hji : j = i + 1
        · subst hji
          rw [hr] at hj
          cases hj
          exact hnm
        · exact ih j rj h0 (by omega) hj
      | some b =>
        rw [hl] at ih
        obtain ⟨b0, b1, rb, hb, eb, hm⟩ := ih
        refine ⟨b0, by omega, rb, hb, eb, fun j rj h0 h1 hj e => ?_⟩
        by_cases hji : j = i + 1
        · subst hji
          rw [hr] at hj
          cases hj
          exact absurd e hnm
        · exact hm j rj h0 (by omega) hj e
section
variable {N : NetD} {g w : Str} {limit : Int} {rows : List Row}
/-- the least of the drives -/
def BestD (N : NetD) (g w : Str) (limit : Int) (t m : Int) (rs : List Int) : Prop := Drv N g w m t rs ∧ m ≤ limit ∧ ∀ m' t' rs', Drv N g w m' t' rs' → m' ≤ limit → t < t' ∨ t = t' ∧ m ≤ m'
theorem leg_none (ok : NetOk N) (h : RowsPost N g limit (some w) rows) (hl : leastF rows w rows.length = none) {m t : Int} {rs : List Int} (d : Drv N g w m t rs) : ¬ m ≤ limit := fun hm => by
  obtain ⟨inv, _, h⟩ := h
  have sp := leastF_spec (nm := w) rows.length (Nat.le_refl _)
  rw [hl] at sp
  rcases h with ⟨cov, hno⟩ | ⟨rows0, row, e, h0, ew, _, _⟩
  · rcases drv_cov inv cov ok d hm with ⟨j, row, h0, hj, a, _, _⟩ | ⟨_, hk, _⟩
    · exact hno j row h0 hj a
    · cases hk
  · have hx : rows[rows0.length]? = some row := by rw [e]; simp
    exact sp rows0.length row h0 (by rw [e]; simp) hx ew
theorem leg_some (ok : NetOk N) (h : RowsPost N g limit (some w) rows) {b : Nat} (hl : leastF rows w rows.length = some b) : ∃ rb, rows[b]? = some rb ∧ BestD N g w limit rb.tl rb.mi (roadsOf rows (b : Int)) := by
  obtain ⟨inv, _, h⟩ := h
  have sp := leastF_spec (nm := w) rows.length (Nat.le_refl _)
  rw [hl] at sp
  obtain ⟨b0, b1, rb, hb, eb, hm⟩ := sp
  rcases h with ⟨cov, hno⟩ | ⟨rows0, row, e, h0, ew, hu, hbest⟩
  · exact absurd eb (hno b rb b0 hb)
  · have hx : rows[rows0.length]? = some row := by rw [e]; simp
    have hlen : rows.length = rows0.length + 1 := by rw [e]; simp
    have hbe : b = rows0.length := by
      refine Classical.byContradiction fun z => ?_
      have hb2 := hb
      rw [e, List.getElem?_append_left (by omega)] at hb2
      exact hu b rb b0 hb2 eb
    subst hbe
    rw [hx] at hb
    cases hb
    obtain ⟨d, dl⟩ := inv.drv _ _ h0 hx
    rw [ew] at d
    exact ⟨_, hx, d, dl, hbest⟩
end
theorem Drv.roads {N : NetD} {g w : Str} {m t : Int} {rs : List Int} (d : Drv N g w m t rs) : ∀ i ∈ rs, 0 ≤ i ∧ i < (N.roads.length : Int) := by
  induction d with
  | one h _ _ =>
    have := (List.getElem?_eq_some_iff.mp h).1
    intro i hi
    rw [List.mem_singleton] at hi
    omega
  | more d _ h _ _ ih =>
    have := (List.getElem?_eq_some_iff.mp h).1
    intro i hi
    rcases List.mem_append.mp hi with z | z
    · exact ih i z
    · rw [List.mem_singleton] at z
      omega
end Toll

set_option Elab.async false
set_option linter.all false
set_option maxRecDepth 100000
set_option maxHeartbeats 4000000
namespace Toll
open PySem L2
/-- the least of what there is -/
def Best (S : Int → Prop) : Option Int → Prop
  | none => ∀ t, ¬ S t
  | some c => S c ∧ ∀ t, S t → c ≤ t
theorem Best.iff {S S' : Int → Prop} (h : ∀ t, S t ↔ S' t) {o : Option Int} (b : Best S o) : Best S' o := by
  have : S = S' := funext fun t => propext (h t)
  rw [← this]
  exact b
theorem Best.uniq {S : Int → Prop} {o o' : Option Int} (b : Best S o) (b' : Best S o') : o = o' := by
  cases o with
  | none => cases o' with
    | none => rfl
    | some c => exact absurd b'.1 (b c)
  | some c => cases o' with
    | none => exact absurd b.1 (b' c)
    | some c' =>
      have := b.2 _ b'.1
      have := b'.2 _ b.1
      rw [show c = c' by omega]
def minO : Option Int → Option Int → Option Int
  | none, b => b
  | a, none => a
  | some a, some b => some (if b < a then b else a)
theorem Best.or {S S' : Int → Prop} {o o' : Option Int} (b : Best S o) (b' : Best S' o') : Best (fun t => S t ∨ S' t) (minO o o') := by
  cases o with
  | none => cases o' with
    | none => exact fun t h => h.elim (b t) (b' t)
    | some c => exact ⟨.inr b'.1, fun t h => h.elim (fun z => absurd z (b t)) (b'.2 t)⟩
  | some a => cases o' with
    | none => exact ⟨.inl b.1, fun t h => h.elim (b.2 t) (fun z => absurd z (b' t))⟩
    | some c =>
      show Best _ (some (if c < a then c else a))
      by_cases h : c < a
      · rw [if_pos h]
        exact ⟨.inr b'.1, fun t z => z.elim (fun z => by have := b.2 t z; omega) (b'.2 t)⟩
      · rw [if_neg h]
        exact ⟨.inl b.1, fun t z => z.elim (b.2 t) (fun z => by have := b'.2 t z; omega)⟩
section
variable {N : NetD} {one : Str} {u : Int}
/-- the road k makes the last step of a drive of M minutes and toll t to w -/
def LineS (N : NetD) (one : Str) (M : Int) (w : Str) (k : Nat) (t : Int) : Prop := ∃ r, N.roads[k]? = some r ∧ r.op = true ∧ r.other = w ∧ ((r.one = one ∧ r.mi = M ∧ t = r.tl) ∨ ∃ m' t' rs, Drv N one r.one m' t' rs ∧ seesOf N.gates r.one = some false ∧ M = m' + r.mi ∧ t = t' + r.tl)
theorem drv_line {M : Int} {w : Str} {t : Int} : (∃ rs, Drv N one w M t rs) ↔ ∃ k, k < N.roads.length ∧ LineS N one M w k t := by
  constructor
  · rintro ⟨rs, d⟩
    cases d with
    | one h ho e => exact ⟨_, (List.getElem?_eq_some_iff.mp h).1, _, h, ho, rfl, .inl ⟨e, rfl, rfl⟩⟩
    | more d hb h ho e =>
      subst e
      exact ⟨_, (List.getElem?_eq_some_iff.mp h).1, _, h, ho, rfl, .inr ⟨_, _, _, d, hb, rfl, rfl⟩⟩
  · rintro ⟨k, _, r, h, ho, rfl, ⟨e, rfl, rfl⟩ | ⟨m', t', rs, d, hb, rfl, rfl⟩⟩
    · exact ⟨_, .one h ho e⟩
    · exact ⟨_, .more d hb h ho rfl⟩
/-- what the law keeps of minute m -/
def CostAt (N : NetD) (one : Str) (u : Int) (m : Nat) (fk : List (Key × V)) : Prop := ∀ w, ∃ o : Option Int, valV fk (Sum.inr w) = o.map V.int ∧ Best (fun t => ∃ rs, Drv N one w (u * (m : Int)) t rs) o
/-- the same of the first i roads -/
def PartAt (N : NetD) (one : Str) (u : Int) (m i : Nat) (fk : List (Key × V)) : Prop := ∀ w, ∃ o : Option Int, valV fk (Sum.inr w) = o.map V.int ∧ Best (fun t => ∃ k, k < i ∧ LineS N one (u * (m : Int)) w k t) o
theorem part0 (N : NetD) (one : Str) (u : Int) (m : Nat) : PartAt N one u m 0 [] := fun w => ⟨none, valV_nil, fun t ⟨k, h, _⟩ => by omega⟩
theorem part_all {m : Nat} {fk : List (Key × V)} (h : PartAt N one u m N.roads.length fk) : CostAt N one u m fk := fun w => by
  obtain ⟨o, e, b⟩ := h w
  exact ⟨o, e, b.iff fun t => drv_line.symm⟩
/-- a road that makes no drive of these minutes -/
theorem part_skip {m i : Nat} {fk : List (Key × V)} (h : PartAt N one u m i fk) (hn : ∀ w t, ¬ LineS N one (u * (m : Int)) w i t) : PartAt N one u m (i + 1) fk := fun w => by
  obtain ⟨o, e, b⟩ := h w
  refine ⟨o, e, b.iff fun t => ⟨fun ⟨k, hk, z⟩ => ⟨k, by omega, z⟩, fun ⟨k, hk, z⟩ => ?_⟩⟩
  by_cases hki : k = i
  · subst hki
    exact absurd z (hn w t)
  · exact ⟨k, by omega, z⟩
/-- the tolls that the road i gives -/
theorem line_tolls {m i j : Nat} {r : RoadD} (hu : 1 ≤ u) (hr : N.roads[i]? = some r) (ho : r.op = true) (hj : r.mi = u * (j : Int)) (hle : j ≤ m) {o : Option Int} (hb : Best (fun t => ∃ rs, Drv N one r.one (u * ((m - j : Nat) : Int)) t rs) o) :
    Best (fun t => LineS N one (u * (m : Int)) r.other i t) (minO (if m - j = 0 ∧ r.one = one then some r.tl else none) (if seesOf N.gates r.one = some false then o.map (· + r.tl) else none)) := by
  have eu : ∀ a : Int, u * (m : Int) = a + r.mi ↔ a = u * ((m - j : Nat) : Int) := fun a => by
    rw [hj, show ((m - j : Nat) : Int) = (m : Int) - (j : Int) by omega, Int.mul_sub]
    omega
  have b1 : Best (fun t => m - j = 0 ∧ r.one = one ∧ t = r.tl) (if m - j = 0 ∧ r.one = one then some r.tl else none) := by
    by_cases h : m - j = 0 ∧ r.one = one
    · rw [if_pos h]
      exact ⟨⟨h.1, h.2, rfl⟩, fun t z => by have := z.2.2; omega⟩
    · rw [if_neg h]
      exact fun t z => h ⟨z.1, z.2.1⟩
  have b2 : Best (fun t => seesOf N.gates r.one = some false ∧ ∃ t' rs, Drv N one r.one (u * ((m - j : Nat) : Int)) t' rs ∧ t = t' + r.tl) (if seesOf N.gates r.one = some false then o.map (· + r.tl) else none) := by
    by_cases h : seesOf N.gates r.one = some false
    · rw [if_pos h]
      cases o with
      | none => exact fun t ⟨_, t', rs, d, _⟩ => hb t' ⟨rs, d⟩
      | some c =>
        obtain ⟨⟨rs, d⟩, hm⟩ := hb
        exact ⟨⟨h, c, rs, d, rfl⟩, fun t ⟨_, t', rs', d', e⟩ => by have := hm t' ⟨rs', d'⟩; show c + r.tl ≤ t; omega⟩
    · rw [if_neg h]
      exact fun t z => h z.1
  refine (b1.or b2).iff fun t => ⟨?_, ?_⟩
  · rintro (⟨h1, h2, h3⟩ | ⟨h1, t', rs, d, h3⟩)
    · refine ⟨r, hr, ho, rfl, .inl ⟨h2, ?_, h3⟩⟩
      rw [hj, show j = m by omega]
    · exact ⟨r, hr, ho, rfl, .inr ⟨_, t', rs, d, h1, (eu _).mpr rfl, h3⟩⟩
  · rintro ⟨r', hr', _, _, h⟩
    have er : r = r' := Option.some.inj (hr.symm.trans hr')
    subst er
    rcases h with ⟨h1, h2, h3⟩ | ⟨m', t', rs, d, h1, h2, h3⟩
    · refine .inl ⟨?_, h1, h3⟩
      have := (eu 0).mp (by omega)
      have : u * ((m - j : Nat) : Int) = 0 := this.symm
      rcases Int.mul_eq_zero.mp this with z | z <;> omega
    · rw [(eu m').mp h2] at d
      exact .inr ⟨h1, t', rs, d, h3⟩
/-- what is put for it -/
def putC (fk : List (Key × V)) (w : Str) (c : Int) : List (Key × V) := putK fk (Sum.inr w) (V.int c)
theorem part_line {m i : Nat} {r : RoadD} {fk : List (Key × V)} (h : PartAt N one u m i fk) (hr : N.roads[i]? = some r) {o : Option Int} (hb : Best (fun t => LineS N one (u * (m : Int)) r.other i t) o) :
    ∃ x : Option Int, valV fk (Sum.inr r.other) = x.map V.int ∧ (∀ c, o = some c → (∀ a, x = some a → c < a) → PartAt N one u m (i + 1) (putC fk r.other c)) ∧ (∀ c, o = some c → ∀ a, x = some a → ¬ c < a → PartAt N one u m (i + 1) fk) ∧ (o = none → PartAt N one u m (i + 1) fk) := by
  obtain ⟨x, ex, bx⟩ := h r.other
  have oth : ∀ w, w ≠ r.other → ∃ y : Option Int, valV fk (Sum.inr w) = y.map V.int ∧ Best (fun t => ∃ k, k < i + 1 ∧ LineS N one (u * (m : Int)) w k t) y := fun w hw => by
    obtain ⟨y, ey, b⟩ := h w
    refine ⟨y, ey, b.iff fun t => ⟨fun ⟨k, hk, z⟩ => ⟨k, by omega, z⟩, fun ⟨k, hk, z⟩ => ?_⟩⟩
    by_cases hki : k = i
    · subst hki
      obtain ⟨r', hr', _, e, _⟩ := z
      have er : r = r' := Option.some.inj (hr.symm.trans hr')
      rw [← er] at e
      exact absurd e.symm hw
    · exact ⟨k, by omega, z⟩
  have bb : Best (fun t => ∃ k, k < i + 1 ∧ LineS N one (u * (m : Int)) r.other k t) (minO x o) := (bx.or hb).iff fun t => ⟨fun z => z.elim (fun ⟨k, hk, z⟩ => ⟨k, by omega, z⟩) fun z => ⟨i, by omega, z⟩, fun ⟨k, hk, z⟩ => by
    by_cases hki : k = i
    · subst hki
      exact .inr z
    · exact .inl ⟨k, by omega, z⟩⟩
  have keep : minO x o = x → PartAt N one u m (i + 1) fk := fun e w => by
    by_cases hw : w = r.other
    · subst hw
      rw [e] at bb
      exact ⟨x, ex, bb⟩
    · exact oth w hw
  refine ⟨x, ex, fun c ec hc w => ?_, fun c ec a ea hc => keep ?_, fun ec => keep ?_⟩
  · by_cases hw : w = r.other
    · subst hw
      refine ⟨some c, by unfold putC; rw [valV_put, if_pos rfl]; rfl, ?_⟩
      have : minO x o = some c := by
        rw [ec]
        cases x with
        | none => rfl
        | some a =>
          show some (if c < a then c else a) = _
          rw [if_pos (hc a rfl)]
      rw [this] at bb
      exact bb
    · obtain ⟨y, ey, b⟩ := oth w hw
      refine ⟨y, ?_, b⟩
      rw [← ey]
      unfold putC
      rw [valV_put, if_neg (by intro z; injection z with z; exact hw z)]
  · rw [ec, ea]
    show some (if c < a then c else a) = _
    rw [if_neg hc]
  · rw [ec]
    cases x <;> rfl
/-- a road too long for these minutes makes none -/
theorem line_far {m i j : Nat} {r : RoadD} (ok : NetOk N) (hu : 1 ≤ u) (hr : N.roads[i]? = some r) (h : r.op = false ∨ (r.mi = u * (j : Int) ∧ m < j)) (w : Str) (t : Int) : ¬ LineS N one (u * (m : Int)) w i t := by
  rintro ⟨r', hr', ho, _, hd⟩
  have er : r = r' := Option.some.inj (hr.symm.trans hr')
  subst er
  rcases h with h | ⟨h, hlt⟩
  · rw [h] at ho
    cases ho
  · have hlt : u * (m : Int) < u * (j : Int) := by
      have := Int.mul_le_mul_of_nonneg_left (show (m : Int) + 1 ≤ (j : Int) by omega) (show 0 ≤ u by omega)
      rw [Int.mul_add] at this
      omega
    rcases hd with ⟨_, h2, _⟩ | ⟨m', t', rs, d, _, h2, _⟩
    · omega
    · have := (d.pos ok).1
      omega
end
end Toll

set_option Elab.async false
set_option linter.all false
set_option maxRecDepth 100000
set_option maxHeartbeats 4000000
namespace Toll
open PySem L2
section
variable {N : NetD} {one w : Str} {u : Int}
/-- the least of the minutes below n -/
def LeastP (N : NetD) (one w : Str) (u : Int) (n : Nat) : Option (Int × Nat) → Prop
  | none => ∀ (j : Nat) t rs, j < n → ¬ Drv N one w (u * (j : Int)) t rs
  | some (c, m) => m < n ∧ (∃ rs, Drv N one w (u * (m : Int)) c rs) ∧ ∀ (j : Nat) t rs, j < n → Drv N one w (u * (j : Int)) t rs → c < t ∨ c = t ∧ m ≤ j
theorem least0 (N : NetD) (one w : Str) (u : Int) : LeastP N one w u 0 none := fun j t rs h => by omega
theorem least_skip {n : Nat} {o : Option (Int × Nat)} (h : LeastP N one w u n o) (hn : ∀ t rs, Drv N one w (u * (n : Int)) t rs → ∃ c m, o = some (c, m) ∧ c ≤ t) : LeastP N one w u (n + 1) o := by
  cases o with
  | none =>
    intro j t rs hj d
    by_cases e : j = n
    · subst e
      obtain ⟨c, m, z, _⟩ := hn t rs d
      cases z
    · exact h j t rs (by omega) d
  | some q =>
    obtain ⟨c, m⟩ := q
    obtain ⟨h1, h2, h3⟩ := h
    refine ⟨by omega, h2, fun j t rs hj d => ?_⟩
    by_cases e : j = n
    · subst e
      obtain ⟨c', m', z, hc⟩ := hn t rs d
      cases z
      omega
    · exact h3 j t rs (by omega) d
theorem least_new {n : Nat} {o : Option (Int × Nat)} {c : Int} (h : LeastP N one w u n o) (hb : Best (fun t => ∃ rs, Drv N one w (u * (n : Int)) t rs) (some c)) (hn : ∀ a m, o = some (a, m) → c < a) : LeastP N one w u (n + 1) (some (c, n)) := by
  obtain ⟨⟨rs, d⟩, hm⟩ := hb
  refine ⟨by omega, ⟨rs, d⟩, fun j t rs' hj d' => ?_⟩
  by_cases e : j = n
  · subst e
    have := hm t ⟨rs', d'⟩
    omega
  · cases o with
    | none => exact absurd d' (h j t rs' (by omega))
    | some q =>
      obtain ⟨a, m⟩ := q
      have h1 := hn a m rfl
      have := h.2.2 j t rs' (by omega) d'
      omega
def ltB : Option Int → Option (Int × Nat) → Bool
  | none, _ => false
  | some _, none => true
  | some c, some (a, _) => decide (c < a)
def bestV (H : Hp) (bv : V) : Option (Int × Nat) → Prop
  | none => bv = .non
  | some (c, m) => ∃ T, bv = .ref T ∧ H T = some (.tup [.int c, .int (m : Int)])
theorem bestV.same {H H' : Hp} {bv : V} {o : Option (Int × Nat)} (h : bestV H bv o) (s : Same H H') : bestV H' bv o := by
  cases o with
  | none => exact h
  | some q =>
    obtain ⟨T, e, hT⟩ := h
    exact ⟨T, e, s _ _ hT⟩
/-- the gates that a drive passes -/
def WalkP (N : NetD) (g w : Str) (rs : List Int) : Prop := ∃ ga : Nat → Str, ga 0 = g ∧ ga rs.length = w ∧ ∀ k x, rs[k]? = some x → ∃ (i : Nat) (r : RoadD), x = (i : Int) ∧ N.roads[i]? = some r ∧ r.op = true ∧ r.one = ga k ∧ (0 < k → seesOf N.gates (ga k) = some false) ∧ r.other = ga (k + 1)
theorem Drv.walk {g : Str} {m t : Int} {rs : List Int} (d : Drv N g w m t rs) : WalkP N g w rs ∧ 0 < rs.length := by
  induction d with
  | @one i r h ho e =>
    refine ⟨⟨fun k => if k = 0 then g else r.other, rfl, rfl, fun k x hx => ?_⟩, by simp⟩
    have hk : k = 0 := by
      have := (List.getElem?_eq_some_iff.mp hx).1
      simp at this
      exact this
    subst hk
    have hx : (i : Int) = x := by simpa using hx
    exact ⟨i, r, hx.symm, h, ho, e, fun z => absurd z (by omega), rfl⟩
  | @more v m t rs i r d hb h ho e ih =>
    obtain ⟨⟨ga, a0, a1, hw⟩, hp⟩ := ih
    obtain ⟨f, f1, f2⟩ : ∃ f : Nat → Str, (∀ k, k ≤ rs.length → f k = ga k) ∧ f (rs.length + 1) = r.other := ⟨fun k => if k ≤ rs.length then ga k else r.other, fun k hk => if_pos hk, if_neg (by omega)⟩
    refine ⟨⟨f, by rw [f1 0 (by omega)]; exact a0, by rw [List.length_append, List.length_singleton]; exact f2, fun k x hx => ?_⟩, by simp⟩
    rcases get_app hx with z | ⟨ek, ex⟩
    · have := (List.getElem?_eq_some_iff.mp z).1
      rw [f1 k (by omega), f1 (k + 1) (by omega)]
      exact hw k x z
    · subst ek
      rw [f1 _ (Nat.le_refl _), f2, a1]
      exact ⟨i, r, ex, h, ho, e, fun _ => hb, rfl⟩
def tlOf (N : NetD) (x : Int) : Int := ((N.roads[x.toNat]?).map (·.tl)).getD 0
def miOf (N : NetD) (x : Int) : Int := ((N.roads[x.toNat]?).map (·.mi)).getD 0
theorem Drv.sums {g : Str} {m t : Int} {rs : List Int} (d : Drv N g w m t rs) : (rs.map (tlOf N)).foldl (· + ·) 0 = t ∧ (rs.map (miOf N)).foldl (· + ·) 0 = m := by
  have one : ∀ {i : Nat} {r : RoadD}, N.roads[i]? = some r → tlOf N (i : Int) = r.tl ∧ miOf N (i : Int) = r.mi := fun {i r} h => by
    unfold tlOf miOf
    rw [Int.toNat_natCast, h]
    exact ⟨rfl, rfl⟩
  induction d with
  | one h _ _ =>
    rw [List.map_singleton, List.map_singleton]
    show 0 + _ = _ ∧ 0 + _ = _
    rw [(one h).1, (one h).2]
    omega
  | more d _ h _ _ ih =>
    rw [List.map_append, List.map_append, List.foldl_append, List.foldl_append, ih.1, ih.2]
    show _ + tlOf N _ = _ ∧ _ + miOf N _ = _
    rw [(one h).1, (one h).2]
    exact ⟨rfl, rfl⟩
/-- the least of the drives in time, minute by minute -/
theorem least_leg {limit rest : Int} {most : Nat} (ok : NetOk N) (hu : 1 ≤ u) (hun : ∀ r ∈ N.roads, r.op = true → r.mi % u = 0) (hl : limit = u * (most : Int) + rest) (h0 : 0 ≤ rest) (h1 : rest < u) {o : Option (Int × Nat)} (h : LeastP N one w u (most + 1) o) :
    (o = none ↔ ∀ m t rs, Drv N one w m t rs → ¬ m ≤ limit) ∧ ∀ c k, o = some (c, k) → ∀ t m rs, BestD N one w limit t m rs → t = c ∧ m = u * (k : Int) := by
  have tm : ∀ m t rs, Drv N one w m t rs → m ≤ limit → ∃ j : Nat, j < most + 1 ∧ m = u * (j : Int) := fun m t rs d hm => by
    have p := (d.pos ok).1
    have e := d.unit hun
    have e2 := Int.mul_ediv_add_emod m u
    have q0 : 0 ≤ m / u := Int.ediv_nonneg (by omega) (by omega)
    refine ⟨(m / u).toNat, ?_, by rw [Int.toNat_of_nonneg q0]; omega⟩
    have : m / u < (most : Int) + 1 := by
      refine Classical.byContradiction fun z => ?_
      have := Int.mul_le_mul_of_nonneg_left (show (most : Int) + 1 ≤ m / u by omega) (show 0 ≤ u by omega)
      rw [Int.mul_add] at this
      omega
    omega
  have lim : ∀ j : Nat, j < most + 1 → u * (j : Int) ≤ limit := fun j hj => by
    have := Int.mul_le_mul_of_nonneg_left (show (j : Int) ≤ (most : Int) by omega) (show 0 ≤ u by omega)
    omega
  refine ⟨⟨fun e m t rs d hm => ?_, fun hn => ?_⟩, fun c k e t m rs ⟨d, dl, db⟩ => ?_⟩
  · subst e
    obtain ⟨j, hj, rfl⟩ := tm m t rs d hm
    exact h j t rs hj d
  · cases o with
    | none => rfl
    | some q =>
      obtain ⟨c, k⟩ := q
      obtain ⟨hk, ⟨rs, d⟩, _⟩ := h
      exact absurd (lim k hk) (hn _ _ _ d)
  · subst e
    obtain ⟨hk, ⟨rs', d'⟩, hm⟩ := h
    obtain ⟨j, hj, rfl⟩ := tm m t rs d dl
    have a := hm j t rs hj d
    have b := db _ _ _ d' (lim k hk)
    have ec : t = c := by omega
    subst ec
    have a : k ≤ j := by omega
    have b : u * (j : Int) ≤ u * (k : Int) := by omega
    have := Int.mul_le_mul_of_nonneg_left (show (k : Int) ≤ (j : Int) by omega) (show 0 ≤ u by omega)
    exact ⟨rfl, by omega⟩
end
end Toll

set_option Elab.async false
set_option linter.all false
set_option maxRecDepth 100000
set_option maxHeartbeats 4000000
namespace Toll
open PySem L2
theorem mod_nat (c : Int) {n : Nat} (h : 0 < n) : ∃ i : Nat, c % (n : Int) = (i : Int) ∧ i < n := by
  have h1 := Int.emod_nonneg c (b := (n : Int)) (by omega)
  have h2 := Int.emod_lt_of_pos c (b := (n : Int)) (by omega)
  exact ⟨(c % (n : Int)).toNat, by omega, by omega⟩
theorem sees_new {gs : List (Str × Bool)} (nd : (gs.map (·.1)).Nodup) {i : Nat} {gq : Str × Bool} (hgq : gs[i]? = some gq) : seesOf (gs.take i) gq.1 = none := by
  have il : i < gs.length := (List.getElem?_eq_some_iff.mp hgq).1
  rw [seesOf_none]
  intro m
  obtain ⟨q', hq', e⟩ := List.mem_map.mp m
  obtain ⟨j, hj⟩ := List.getElem?_of_mem hq'
  have jl := (List.getElem?_eq_some_iff.mp hj).1
  rw [List.length_take] at jl
  rw [List.getElem?_take_of_lt (by omega)] at hj
  have := nodup_at nd (s := j) (t := i) (nm := gq.1) (c := q'.2) (d := gq.2) (by rw [hj, ← e]) hgq
  omega
theorem foldl_sum : ∀ (l : List Int) (a : Int), l.foldl (· + ·) a = a + l.sum
  | [], a => by simp
  | x :: l, a => by
    rw [List.foldl_cons, foldl_sum l, List.sum_cons]
    omega
theorem Drv.sum {N : NetD} {g w : Str} {m t : Int} {rs : List Int} (d : Drv N g w m t rs) : (rs.map (tlOf N)).sum = t ∧ (rs.map (miOf N)).sum = m := by
  have h := d.sums
  rw [foldl_sum, foldl_sum] at h
  omega
theorem tlOf_at {N : NetD} {i : Nat} {r : RoadD} (h : N.roads[i]? = some r) : tlOf N (i : Int) = r.tl ∧ miOf N (i : Int) = r.mi := by
  unfold tlOf miOf
  rw [Int.toNat_natCast, h]
  exact ⟨rfl, rfl⟩
theorem emod_two {y L : Int} (h0 : 0 ≤ y) (h1 : y < 2 * L) : y % L = if y < L then y else y - L := by
  by_cases h : y < L
  · rw [if_pos h]
    exact Int.emod_eq_of_lt h0 h
  · rw [if_neg h, ← Int.emod_eq_of_lt (a := y - L) (b := L) (by omega) (by omega)]
    exact (Int.sub_emod_right y L).symm
theorem gl_get {H : Hp} {gts : List Addr} {gs : List (Str × Bool)} (hG : GL H gts gs) {x : Int} (a0 : 0 ≤ x) (a1 : x < (gs.length : Int)) : ∃ (t : Addr) (q : Str × Bool), atI (gts.map V.ref) x = some (.ref t) ∧ H t = some (.lst [.str q.1, .bl q.2]) ∧ gs[x.toNat]? = some q := by
  obtain ⟨q, hq⟩ : ∃ q, gs[x.toNat]? = some q := ⟨_, List.getElem?_eq_getElem (by omega)⟩
  obtain ⟨t, ht, hl⟩ := paired_get hG hq
  exact ⟨t, q, atI_of (j := x.toNat) (by omega) (by rw [List.getElem?_map, ht]; rfl), hl, hq⟩
end Toll

set_option Elab.async false
set_option linter.all false
set_option maxRecDepth 100000
set_option maxHeartbeats 4000000
namespace Toll
open PySem L2
/-! ### what the search tells is one and the same -/
theorem kLe_anti : ∀ {a b : List Int}, TH.kLe a b → TH.kLe b a → a = b
  | [], [], _, _ => rfl
  | [], y :: b, _, h => by
    unfold TH.kLe at h
    rw [TH.kLt_nilc] at h
    cases h
  | x :: a, [], h, _ => by
    unfold TH.kLe at h
    rw [TH.kLt_nilc] at h
    cases h
  | x :: a, y :: b, h1, h2 => by
    rw [TH.kLe_cons] at h1 h2
    have : x = y := by omega
    subst this
    rw [kLe_anti (h1.elim (fun z => absurd z (Int.lt_irrefl x)) (·.2)) (h2.elim (fun z => absurd z (Int.lt_irrefl x)) (·.2))]
def Beat (N : NetD) (rows : List Row) (k : List Int) : Prop := ∃ j row, 0 < j ∧ rows[j]? = some row ∧ (∃ c, N.gates[(k.getD 2 0).toNat]? = some (row.nm, c)) ∧ row.mi ≤ k.getD 1 0
def newKeys (N : NetD) (limit : Int) (row : Row) (b : Nat) : List (List Int) := ((waysF N row.nm N.roads.length).filter fun x => decide (row.mi + x.mi ≤ limit)).map (wayKey row b)
def keyRow (nm : Str) (k : List Int) : Row := ⟨nm, k.getD 1 0, k.getD 0 0, k.getD 3 0, k.getD 4 0⟩
/-- from rows and keys to the rows told -/
inductive Run (N : NetD) (limit : Int) (goal : Option Str) : List Row → List (List Int) → List Row → Prop
  | done {rows : List Row} : Run N limit goal rows [] rows
  | skip {rows : List Row} {ks ks' : List (List Int)} {k : List Int} {fin : List Row} (hp : ks.Perm (k :: ks')) (hm : ∀ y ∈ ks', TH.kLe k y) (hb : Beat N rows k) (h : Run N limit goal rows ks' fin) : Run N limit goal rows ks fin
  | last {rows : List Row} {ks ks' : List (List Int)} {k : List Int} {nm : Str} {c : Bool} (hp : ks.Perm (k :: ks')) (hm : ∀ y ∈ ks', TH.kLe k y) (hb : ¬ Beat N rows k) (hn : N.gates[(k.getD 2 0).toNat]? = some (nm, c)) (hg : goal = some nm) : Run N limit goal rows ks (rows ++ [keyRow nm k])
  | next {rows : List Row} {ks ks' : List (List Int)} {k : List Int} {nm : Str} {c : Bool} {fin : List Row} (hp : ks.Perm (k :: ks')) (hm : ∀ y ∈ ks', TH.kLe k y) (hb : ¬ Beat N rows k) (hn : N.gates[(k.getD 2 0).toNat]? = some (nm, c)) (hg : ¬ goal = some nm)
      (h : Run N limit goal (rows ++ [keyRow nm k]) (ks' ++ if c = true then [] else newKeys N limit (keyRow nm k) rows.length) fin) : Run N limit goal rows ks fin
section
variable {N : NetD} {limit : Int} {goal : Option Str} {rows fin fin' : List Row} {ks ks' : List (List Int)} {k : List Int}
theorem min_one {a b : List (List Int)} {x y : List Int} (ha : ks.Perm (x :: a)) (hb : ks'.Perm (y :: b)) (p : ks.Perm ks') (ma : ∀ z ∈ a, TH.kLe x z) (mb : ∀ z ∈ b, TH.kLe y z) : x = y ∧ a.Perm b := by
  have h : (x :: a).Perm (y :: b) := ha.symm.trans (p.trans hb)
  have e : x = y := by
    have h1 : x ∈ y :: b := h.mem_iff.mp (List.mem_cons_self ..)
    have h2 : y ∈ x :: a := h.mem_iff.mpr (List.mem_cons_self ..)
    rcases List.mem_cons.mp h1 with z | z
    · exact z
    · rcases List.mem_cons.mp h2 with w | w
      · exact w.symm
      · exact kLe_anti (ma y w) (mb x z)
  subst e
  exact ⟨rfl, h.cons_inv⟩
theorem no_keys {x : List Int} {a : List (List Int)} (h : ([] : List (List Int)).Perm (x :: a)) : False := by
  have := h.length_eq
  simp at this
theorem Run.uniq (h : Run N limit goal rows ks fin) : ∀ {ks2 fin2}, ks.Perm ks2 → Run N limit goal rows ks2 fin2 → fin = fin2 := by
  induction h with
  | done =>
    intro ks2 fin2 p h2
    have := p.nil_eq
    subst this
    cases h2 with
    | done => rfl
    | skip hp => exact (no_keys hp).elim
    | last hp => exact (no_keys hp).elim
    | next hp => exact (no_keys hp).elim
  | skip hp hm hb _ ih =>
    intro ks2 fin2 p h2
    cases h2 with
    | done => exact (no_keys (p.symm.trans hp)).elim
    | skip hp2 hm2 hb2 h2 =>
      obtain ⟨e, q⟩ := min_one hp hp2 p hm hm2
      exact ih q h2
    | last hp2 hm2 hb2 =>
      obtain ⟨e, q⟩ := min_one hp hp2 p hm hm2
      subst e
      exact absurd hb hb2
    | next hp2 hm2 hb2 =>
      obtain ⟨e, q⟩ := min_one hp hp2 p hm hm2
      subst e
      exact absurd hb hb2
  | last hp hm hb hn hg =>
    intro ks2 fin2 p h2
    cases h2 with
    | done => exact (no_keys (p.symm.trans hp)).elim
    | skip hp2 hm2 hb2 =>
      obtain ⟨e, q⟩ := min_one hp hp2 p hm hm2
      subst e
      exact absurd hb2 hb
    | last hp2 hm2 hb2 hn2 hg2 =>
      obtain ⟨e, q⟩ := min_one hp hp2 p hm hm2
      subst e
      rw [hn] at hn2
      cases hn2
      rfl
    | next hp2 hm2 hb2 hn2 hg2 =>
      obtain ⟨e, q⟩ := min_one hp hp2 p hm hm2
      subst e
      rw [hn] at hn2
      cases hn2
      exact absurd hg hg2
  | next hp hm hb hn hg _ ih =>
    intro ks2 fin2 p h2
    cases h2 with
    | done => exact (no_keys (p.symm.trans hp)).elim
    | skip hp2 hm2 hb2 =>
      obtain ⟨e, q⟩ := min_one hp hp2 p hm hm2
      subst e
      exact absurd hb2 hb
    | last hp2 hm2 hb2 hn2 hg2 =>
      obtain ⟨e, q⟩ := min_one hp hp2 p hm hm2
      subst e
      rw [hn] at hn2
      cases hn2
      exact absurd hg2 hg
    | next hp2 hm2 hb2 hn2 hg2 h2 =>
      obtain ⟨e, q⟩ := min_one hp hp2 p hm hm2
      subst e
      rw [hn] at hn2
      cases hn2
      exact ih (q.append_right _) h2
theorem Run.perm (h : Run N limit goal rows ks fin) (p : ks'.Perm ks) : Run N limit goal rows ks' fin := by
  cases h with
  | done =>
    have := p.symm.nil_eq
    subst this
    exact .done
  | skip hp hm hb h => exact .skip (p.trans hp) hm hb h
  | last hp hm hb hn hg => exact .last (p.trans hp) hm hb hn hg
  | next hp hm hb hn hg h => exact .next (p.trans hp) hm hb hn hg h
end
/-- the rows told of a gate -/
def RunOf (N : NetD) (g : Str) (limit : Int) (goal : Option Str) (rows : List Row) : Prop := Run N limit goal [⟨g, 0, 0, -1, -1⟩] (newKeys N limit ⟨g, 0, 0, -1, -1⟩ 0) rows
theorem RunOf.uniq {N : NetD} {g : Str} {limit : Int} {goal : Option Str} {rows rows' : List Row} (h : RunOf N g limit goal rows) (h' : RunOf N g limit goal rows') : rows = rows' := Run.uniq h (.refl _) h'
def legOf (rows : List Row) (w : Str) : Option (Int × Int × List Int) := (leastF rows w rows.length).bind fun b => (rows[b]?).map fun rb => (rb.tl, rb.mi, roadsOf rows (b : Int))
def LegIs (N : NetD) (g w : Str) (limit : Int) (o : Option (Int × Int × List Int)) : Prop := ∃ rows, RunOf N g limit (some w) rows ∧ legOf rows w = o
theorem LegIs.uniq {N : NetD} {g w : Str} {limit : Int} {o o' : Option (Int × Int × List Int)} (h : LegIs N g w limit o) (h' : LegIs N g w limit o') : o = o' := by
  obtain ⟨r, h, e⟩ := h
  obtain ⟨r', h', e'⟩ := h'
  have := h.uniq h'
  subst this
  exact e.symm.trans e'
/-- of the loop's test -/
theorem Loop.beat {N : NetD} {g : Str} {limit u : Int} {goal : Option Str} {rows : List Row} {ks : List (List Int)} {fk : List (Key × V)} (h : Loop N g limit u goal rows ks fk) {k : List Int} {nm : Str} {c : Bool} (hn : N.gates[(k.getD 2 0).toNat]? = some (nm, c)) :
    Beat N rows k ↔ ∃ f, valV fk (Sum.inr nm) = some (.int f) ∧ f ≤ k.getD 1 0 := by
  constructor
  · rintro ⟨j, row, h0, hj, ⟨d, hd⟩, hm⟩
    rw [hn] at hd
    cases hd
    cases e : valV fk (Sum.inr row.nm : Key) with
    | none => exact absurd rfl (h.f0 _ e j row h0 hj)
    | some v =>
      obtain ⟨j2, row2, _, _, _, ev, hle⟩ := h.f1 _ _ e
      subst ev
      exact ⟨_, rfl, Int.le_trans (hle j row h0 hj rfl) hm⟩
  · rintro ⟨f, e, hf⟩
    obtain ⟨j, row, h0, hj, en, ev, _⟩ := h.f1 _ _ e
    injection ev with ev
    subst ev en
    exact ⟨j, row, h0, hj, ⟨c, hn⟩, hf⟩
end Toll
namespace Toll
open PySem L2
theorem keys_mem {a b : List (List Int)} {ws : List Way} {row : Row} {n : Nat} {limit : Int} (p : a.Perm (b ++ (ws.filter fun x => decide (row.mi + x.mi ≤ limit)).map (wayKey row n))) : ∀ k, k ∈ a ↔ k ∈ b ∨ ∃ x ∈ ws, row.mi + x.mi ≤ limit ∧ k = wayKey row n x := fun k => by
  rw [p.mem_iff, List.mem_append, List.mem_map]
  constructor
  · rintro (h | ⟨x, hx, e⟩)
    · exact .inl h
    · rw [List.mem_filter] at hx
      exact .inr ⟨x, hx.1, of_decide_eq_true hx.2, e.symm⟩
  · rintro (h | ⟨x, hx, hl, e⟩)
    · exact .inl h
    · exact .inr ⟨x, List.mem_filter.mpr ⟨hx, decide_eq_true hl⟩, e.symm⟩
theorem filt_yes {ws : List Way} {i : Nat} {y : Way} {f : Way → Bool} (h : ws[i]? = some y) (hf : f y = true) : (ws.take (i + 1)).filter f = (ws.take i).filter f ++ [y] := by
  rw [List.take_add_one, h, List.filter_append]
  simp [hf]
theorem filt_no {ws : List Way} {i : Nat} {y : Way} {f : Way → Bool} (h : ws[i]? = some y) (hf : f y = false) : (ws.take (i + 1)).filter f = (ws.take i).filter f := by
  rw [List.take_add_one, h, List.filter_append]
  simp [hf]
end Toll

set_option Elab.async false
set_option linter.all false
set_option maxRecDepth 100000
set_option maxHeartbeats 4000000
namespace TH
open PySem PySem.Calls PySem.SeqAt PySem.W PyProof.Rows L2
variable {X : Cx}
/-- k > j, tuples of ints -/
def rGtK (K : PySem.W.Frag) : R2 := fun x y H Q => ∃ (a b : Addr) (k j : List Int), x = .ref a ∧ y = .ref b ∧ SqT K H a (k.map V.int) ∧ SqT K H b (j.map V.int) ∧ Q (.bl (kLt j k)) H
theorem dpAll_ks {K : PySem.W.Frag} {H : Hp} : ∀ k : List Int, DpAll K H (k.map V.int) (k.map PyData.int)
  | [] => .nil
  | n :: k => .cons (.int n) (dpAll_ks k)
theorem op_gtK (hu : X.A.units + 64 < cLine) : OpR X (compareOp .Gt) (rGtK X.K) := by
  intro pins s σ H x y v u Q I rx ry h
  obtain ⟨a, b, k, j, rfl, rfl, ha, hb, q⟩ := h
  obtain ⟨as, r1⟩ := Dp.reads I (kD k) (.ref a) v (.tup ha (dpAll_ks k)) rx
  obtain ⟨bs, r2⟩ := Dp.reads I (kD j) (.ref b) u (.tup hb (dpAll_ks j)) ry
  have dk : (kD k).depth = 1 := by unfold kD; simp only [PyData.depth]; rw [depth_ints]
  have hk : alike (kD k) (kD j) = true := by unfold kD; simp only [alike]; exact alike_ints k j
  have R := rcGt_alike (kD k) (kD j) X.A s v u as bs r1 r2 hk (by unfold kD; intro z; cases z) (by rw [dk]; omega)
  have z : wpAny (model X.prog X.w) X.A (compareOp .Gt v u) (EP X pins σ Q) X.xe s := R X.prog X.w X.xe (EP X pins σ Q) ⟨.bl _, H, I, rfl, q⟩
  exact z
end TH

set_option Elab.async false
set_option linter.all false
set_option maxRecDepth 100000
set_option maxHeartbeats 4000000
namespace Toll
open PySem L2
/-! ### rows picked -/
def pickF (f : Row → Bool) : List V → List Row → List V
  | u :: us, r :: rs => if f r = true then u :: pickF f us rs else pickF f us rs
  | _, _ => []
theorem pickF_nil (f : Row → Bool) : pickF f [] [] = [] := rfl
theorem pickF_snoc {f : Row → Bool} {u : V} {r : Row} : ∀ {us : List V} {rs : List Row}, us.length = rs.length → pickF f (us ++ [u]) (rs ++ [r]) = if f r = true then pickF f us rs ++ [u] else pickF f us rs
  | [], [], _ => by
    show (if f r = true then u :: pickF f [] [] else pickF f [] []) = _
    rfl
  | [], _ :: _, h => by simp at h
  | _ :: _, [], h => by simp at h
  | v :: us, q :: rs, h => by
    have ih := pickF_snoc (f := f) (u := u) (r := r) (us := us) (rs := rs) (by simpa using h)
    show (if f q = true then v :: pickF f (us ++ [u]) (rs ++ [r]) else pickF f (us ++ [u]) (rs ++ [r])) = if f r = true then (if f q = true then v :: pickF f us rs else pickF f us rs) ++ [u] else (if f q = true then v :: pickF f us rs else pickF f us rs)
    rw [ih]
    by_cases h1 : f q = true
    · rw [if_pos h1, if_pos h1]
      by_cases h2 : f r = true
      · rw [if_pos h2, if_pos h2]
        rfl
      · rw [if_neg h2, if_neg h2]
    · rw [if_neg h1, if_neg h1]
theorem pickF_paired {f : Row → Bool} {F : V → Row → Prop} : ∀ {us : List V} {rs : List Row}, Paired F us rs → Paired F (pickF f us rs) (rs.filter f)
  | _, _, .nil => .nil
  | u :: us, r :: rs, .cons h t => by
    have ih := pickF_paired (f := f) t
    show Paired F (if f r = true then u :: pickF f us rs else pickF f us rs) _
    by_cases h1 : f r = true
    · rw [if_pos h1, List.filter_cons_of_pos h1]
      exact .cons h ih
    · rw [if_neg h1, List.filter_cons_of_neg h1]
      exact ih
theorem pickF_step {f : Row → Bool} {us : List V} {rs : List Row} (hl : us.length = rs.length) {i : Nat} {u : V} {r : Row} (hu : us[i]? = some u) (hr : rs[i]? = some r) : pickF f (us.take (i + 1)) (rs.take (i + 1)) = if f r = true then pickF f (us.take i) (rs.take i) ++ [u] else pickF f (us.take i) (rs.take i) := by
  rw [List.take_add_one, List.take_add_one, hu, hr]
  exact pickF_snoc (by rw [List.length_take, List.length_take, hl])
theorem filter_one {f : Row → Bool} {rs : List Row} {k : Nat} {x : Row} (hk : rs[k]? = some x) (h : ∀ j r, rs[j]? = some r → (f r = true ↔ j = k)) : (rs.filter f).length = 1 := by
  have kl := (List.getElem?_eq_some_iff.mp hk).1
  have e : rs = rs.take k ++ x :: rs.drop (k + 1) := by
    obtain ⟨l, ex⟩ := List.getElem?_eq_some_iff.mp hk
    rw [← ex, ← List.drop_eq_getElem_cons l, List.take_append_drop]
  have h1 : (rs.take k).filter f = [] := by
    rw [List.filter_eq_nil_iff]
    intro r hr
    obtain ⟨j, hj⟩ := List.getElem?_of_mem hr
    have jl := (List.getElem?_eq_some_iff.mp hj).1
    rw [List.length_take] at jl
    rw [List.getElem?_take_of_lt (by omega)] at hj
    intro z
    have := (h j r hj).mp z
    omega
  have h2 : (rs.drop (k + 1)).filter f = [] := by
    rw [List.filter_eq_nil_iff]
    intro r hr
    obtain ⟨j, hj⟩ := List.getElem?_of_mem hr
    rw [List.getElem?_drop] at hj
    intro z
    have := (h _ r hj).mp z
    omega
  have h3 : f x = true := (h k x hk).mpr rfl
  rw [e, List.filter_append, List.filter_cons_of_pos h3, h1, h2]
  rfl
/-- rows by their gates -/
structure ByGate (H : Hp) (D : Addr) (us : List V) (rows : List Row) : Prop where
  fk : ∃ fk : List (Key × V), H D = some (.dK fk) ∧ ∀ nm : Str, (valV fk (Sum.inr nm) = none ∧ pickF (fun r => decide (r.nm = nm)) us rows = []) ∨ ∃ L, valV fk (Sum.inr nm) = some (.ref L) ∧ H L = some (.lst (pickF (fun r => decide (r.nm = nm)) us rows))
theorem ByGate.same {H H' : Hp} {D : Addr} {us : List V} {rows : List Row} (h : ByGate H D us rows) (s : Same H H') : ByGate H' D us rows := by
  obtain ⟨fk, h1, h2⟩ := h
  refine ⟨fk, s _ _ h1, fun nm => ?_⟩
  rcases h2 nm with h | ⟨L, e, h⟩
  · exact .inl h
  · exact .inr ⟨L, e, s _ _ h⟩
def beatF (nm : Str) (m t : Int) (r : Row) : Bool := decide (r.nm = nm) && (decide (r.mi ≤ m) && decide (r.tl ≤ t))
theorem filter_two (nm : Str) (m t : Int) (rows : List Row) : (rows.filter fun r => decide (r.nm = nm)).filter (fun r => decide (r.mi ≤ m) && decide (r.tl ≤ t)) = rows.filter (beatF nm m t) := by
  rw [List.filter_filter]
  congr 1
  funext r
  unfold beatF
  rw [Bool.and_comm]
section
variable {N : NetD} {g : Str} {limit : Int} {rows : List Row}
theorem dom_filter {nm : Str} {m t : Int} (h : Dom rows nm m t) : (rows.drop 1).filter (beatF nm m t) ≠ [] := by
  obtain ⟨j, row, h0, hj, e, h1, h2⟩ := h
  intro z
  rw [List.filter_eq_nil_iff] at z
  have hm : row ∈ rows.drop 1 := List.mem_of_getElem? (i := j - 1) (by rw [List.getElem?_drop, show 1 + (j - 1) = j by omega]; exact hj)
  refine z row hm ?_
  unfold beatF
  rw [decide_eq_true e, decide_eq_true h1, decide_eq_true h2]
  rfl
/-- no row beats another one of its gate -/
theorem one_filter (h : RInv N g limit rows []) (nd : (N.gates.map (·.1)).Nodup) {k : Nat} {row : Row} (h0 : 0 < k) (hk : rows[k]? = some row) : ((rows.drop 1).filter (beatF row.nm row.mi row.tl)).length = 1 := by
  refine filter_one (k := k - 1) (x := row) (by rw [List.getElem?_drop, show 1 + (k - 1) = k by omega]; exact hk) fun j r hj => ?_
  rw [List.getElem?_drop] at hj
  unfold beatF
  simp only [Bool.and_eq_true, decide_eq_true_eq]
  constructor
  · rintro ⟨e, h1, h2⟩
    rcases Nat.lt_trichotomy (1 + j) k with z | z | z
    · have := h.dec (1 + j) k r row (by omega) z hj hk e
      omega
    · omega
    · have hd := h.dec k (1 + j) row r h0 z hk hj e.symm
      obtain ⟨t1, t2, c1, c2, g1, g2, hl⟩ := h.srt k (1 + j) row r h0 z hk hj
      omega
  · intro e
    have : 1 + j = k := by omega
    rw [this, hk] at hj
    cases hj
    exact ⟨rfl, Int.le_refl _, Int.le_refl _⟩
theorem row_le (h : RInv N g limit rows []) {k : Nat} {r1 r2 : Row} (h1 : 1 < k) (e1 : rows[k - 1]? = some r1) (e2 : rows[k]? = some r2) : ∃ (t1 t2 : Nat) (c1 c2 : Bool), N.gates[t1]? = some (r1.nm, c1) ∧ N.gates[t2]? = some (r2.nm, c2) ∧ TH.kLe [r1.tl, r1.mi, (t1 : Int)] [r2.tl, r2.mi, (t2 : Int)] := by
  obtain ⟨t1, t2, c1, c2, g1, g2, hl⟩ := h.srt (k - 1) k r1 r2 (by omega) (by omega) e1 e2
  refine ⟨t1, t2, c1, c2, g1, g2, ?_⟩
  rw [TH.kLe_cons, TH.kLe_cons, TH.kLe_cons]
  rcases hl with h | ⟨h, h' | ⟨h', h''⟩⟩
  · exact .inl h
  · exact .inr ⟨h, .inl h'⟩
  · refine .inr ⟨h, .inr ⟨h', ?_⟩⟩
    rcases Int.lt_or_eq_of_le (show (t1 : Int) ≤ (t2 : Int) by omega) with z | z
    · exact .inl z
    · exact .inr ⟨z, TH.kLe_refl []⟩
theorem row_names (h : RInv N g limit rows []) (ok : NetOk N) {k : Nat} {row : Row} (h0 : 0 < k) (hk : rows[k]? = some row) : seesOf N.gates row.nm ≠ none := by
  obtain ⟨b, i, rb, r, _, hg, e⟩ := h.r1 k row h0 hk
  subst e
  exact ok.o2 r (List.mem_of_getElem? hg.hr)
theorem sees_in {gs : List (Str × Bool)} {nm : Str} (h : seesOf gs nm ≠ none) : ∃ c, (nm, c) ∈ gs := by
  obtain ⟨t, c, ht⟩ := turn_of h
  exact ⟨c, List.mem_of_getElem? ht⟩
end
end Toll
namespace Toll
open PySem L2
theorem rowsD_ne {rows : List Row} (h : rows ≠ []) : PyData.eqv (rowsD rows) (rowsD []) = false := by
  cases rows with
  | nil => exact absurd rfl h
  | cons r rs => rfl
end Toll
namespace Toll
open PySem L2
theorem paired_app {α β : Type} {F : α → β → Prop} : ∀ {l : List α} {m : List β} {l' : List α} {m' : List β}, Paired F l m → Paired F l' m' → Paired F (l ++ l') (m ++ m')
  | _, _, _, _, .nil, h => h
  | _, _, _, _, .cons r t, h => .cons r (paired_app t h)
end Toll
namespace Toll
open PySem L2
theorem cut_last (xs : List V) (x : V) : cutV (xs ++ [x]) none (some (-1)) = xs := by
  unfold cutV
  rw [HT.sIx_none, Nat.sub_zero, List.drop_zero]
  have e : HT.sIx (xs ++ [x]).length (xs ++ [x]).length (some (-1)) = xs.length := by
    rw [List.length_append, List.length_singleton]
    unfold HT.sIx
    simp
    omega
  rw [e]
  simp
end Toll

set_option Elab.async false
set_option linter.all false
set_option maxRecDepth 100000
set_option maxHeartbeats 4000000
namespace Toll
open PySem L2
/-! ### sightings, ways -/
def SeenV (H : Hp) (v : V) (q : Int × Str) : Prop := ∃ t, v = .ref t ∧ H t = some (.tup [.int q.1, .str q.2])
def PassV (H : Hp) (v : V) (q : Str × Int) : Prop := ∃ t, v = .ref t ∧ H t = some (.tup [.str q.1, .int q.2])
theorem seen_same {H H' : Hp} {us : List V} {ss : List (Int × Str)} (s : Same H H') (h : Paired (SeenV H) us ss) : Paired (SeenV H') us ss := L2.Paired.mapP h fun _ _ ⟨t, e, ht⟩ => ⟨t, e, s _ _ ht⟩
theorem pass_same {H H' : Hp} {us : List V} {ss : List (Str × Int)} (s : Same H H') (h : Paired (PassV H) us ss) : Paired (PassV H') us ss := L2.Paired.mapP h fun _ _ ⟨t, e, ht⟩ => ⟨t, e, s _ _ ht⟩
theorem pass_tk {H H' : Hp} (k : TK H H') {us : List V} {ss : List (Str × Int)} (h : Paired (PassV H) us ss) : Paired (PassV H') us ss := L2.Paired.mapP h fun _ _ ⟨t, e, ht⟩ => ⟨t, e, k _ _ ht⟩
theorem seen_tk {H H' : Hp} (k : TK H H') {us : List V} {ss : List (Int × Str)} (h : Paired (SeenV H) us ss) : Paired (SeenV H') us ss := L2.Paired.mapP h fun _ _ ⟨t, e, ht⟩ => ⟨t, e, k _ _ ht⟩
def seenRef (N : NetD) : Int → List (Int × Str) → Option Bool
  | _, [] => none
  | ah, q :: r => if seesOf N.gates q.2 = none then some true else if q.1 < ah then some false else seenRef N q.1 r
def otherOf (N : NetD) (x : Int) : Str := ((N.roads[x.toNat]?).map (·.other)).getD (Str.ofString "")
def walkT (N : NetD) (t : Int) : List Int → List (Str × Int)
  | [] => []
  | x :: r => (otherOf N x, t + miOf N x) :: walkT N (t + miOf N x) r
theorem walkT_snoc (N : NetD) (x : Int) : ∀ (l : List Int) (t : Int), walkT N t (l ++ [x]) = walkT N t l ++ [(otherOf N x, t + (l.map (miOf N)).sum + miOf N x)]
  | [], t => by simp [walkT]
  | y :: l, t => by
    have ih := walkT_snoc N x l (t + miOf N y)
    show (otherOf N y, t + miOf N y) :: walkT N (t + miOf N y) (l ++ [x]) = _
    rw [ih, List.map_cons, List.sum_cons]
    show _ = (otherOf N y, t + miOf N y) :: (walkT N (t + miOf N y) l ++ _)
    rw [Int.add_assoc t (miOf N y)]
theorem walkT_len (N : NetD) : ∀ (l : List Int) (t : Int), (walkT N t l).length = l.length
  | [], _ => rfl
  | x :: l, t => by
    show (walkT N _ l).length + 1 = l.length + 1
    rw [walkT_len N l]
theorem walkT_at (N : NetD) : ∀ (l : List Int) (t : Int) (i : Nat) (x : Int), l[i]? = some x → (walkT N t l)[i]? = some (otherOf N x, t + ((l.take i).map (miOf N)).sum + miOf N x)
  | [], _, _, _, h => by simp at h
  | y :: l, t, 0, x, h => by
    have : y = x := by simpa using h
    subst this
    simp [walkT]
  | y :: l, t, i + 1, x, h => by
    have ih := walkT_at N l (t + miOf N y) i x (by simpa using h)
    show (walkT N (t + miOf N y) l)[i]? = _
    rw [ih, List.take_succ_cons, List.map_cons, List.sum_cons, Int.add_assoc t (miOf N y)]
abbrev LegD := Int × Int × List Int
/-- the legs of sightings -/
def LegsAt (N : NetD) (ss : List (Int × Str)) (legs : List LegD) : Prop := ∀ i a b l, ss[i]? = some a → ss[i + 1]? = some b → legs[i]? = some l → BestD N a.2 b.2 (b.1 - a.1) l.1 l.2.1 l.2.2 ∧ LegIs N a.2 b.2 (b.1 - a.1) (some l) ∧ l.2.2.length ≤ 4000
inductive GOut where
  | no (k : Nat)
  | way (legs : List LegD)
def GuessP (N : NetD) (ss : List (Int × Str)) : GOut → Prop
  | .no k => ∃ legs : List LegD, legs.length = k ∧ LegsAt N ss legs ∧ ∃ a b, ss[k]? = some a ∧ ss[k + 1]? = some b ∧ (∀ m t rs, Drv N a.2 b.2 m t rs → ¬ m ≤ b.1 - a.1) ∧ LegIs N a.2 b.2 (b.1 - a.1) none
  | .way legs => legs.length + 1 = ss.length ∧ LegsAt N ss legs
theorem legs_same {N : NetD} {ss : List (Int × Str)} {l1 l2 : List LegD} (h1 : LegsAt N ss l1) (h2 : LegsAt N ss l2) {i : Nat} (hs : i + 1 < ss.length) (hi1 : i < l1.length) (hi2 : i < l2.length) : l1[i]? = l2[i]? := by
  obtain ⟨a, ha⟩ : ∃ a, ss[i]? = some a := ⟨_, List.getElem?_eq_getElem (by omega)⟩
  obtain ⟨b, hb⟩ : ∃ b, ss[i + 1]? = some b := ⟨_, List.getElem?_eq_getElem (by omega)⟩
  obtain ⟨x, hx⟩ : ∃ x, l1[i]? = some x := ⟨_, List.getElem?_eq_getElem hi1⟩
  obtain ⟨y, hy⟩ : ∃ y, l2[i]? = some y := ⟨_, List.getElem?_eq_getElem hi2⟩
  rw [hx, hy]
  exact (h1 i a b x ha hb hx).2.1.uniq (h2 i a b y ha hb hy).2.1
theorem no_way {N : NetD} {ss : List (Int × Str)} {k : Nat} {legs : List LegD} (h : GuessP N ss (.no k)) (h2 : LegsAt N ss legs) (hl : k < legs.length) : False := by
  obtain ⟨_, _, _, a, b, ha, hb, _, hn⟩ := h
  obtain ⟨x, hx⟩ : ∃ x, legs[k]? = some x := ⟨_, List.getElem?_eq_getElem hl⟩
  have := hn.uniq (h2 k a b x ha hb hx).2.1
  cases this
theorem GuessP.uniq {N : NetD} {ss : List (Int × Str)} : ∀ {o o' : GOut}, GuessP N ss o → GuessP N ss o' → o = o'
  | .no k, .no k', h, h' => by
    have : k = k' := by
      rcases Nat.lt_trichotomy k k' with z | z | z
      · obtain ⟨l, hl, hs, _⟩ := h'
        exact (no_way h hs (by omega)).elim
      · exact z
      · obtain ⟨l, hl, hs, _⟩ := h
        exact (no_way h' hs (by omega)).elim
    rw [this]
  | .no k, .way legs, h, h' => by
    obtain ⟨_, _, _, a, b, ha, hb, _⟩ := id h
    have := (List.getElem?_eq_some_iff.mp hb).1
    have := h'.1
    exact (no_way h h'.2 (by omega)).elim
  | .way legs, .no k, h, h' => by
    obtain ⟨_, _, _, a, b, ha, hb, _⟩ := id h'
    have := (List.getElem?_eq_some_iff.mp hb).1
    have := h.1
    exact (no_way h' h.2 (by omega)).elim
  | .way legs, .way legs', h, h' => by
    have e : legs = legs' := by
      apply List.ext_getElem?
      intro i
      by_cases hi : i < legs.length
      · exact legs_same h.2 h'.2 (by have := h.1; omega) hi (by have := h.1; have := h'.1; omega)
      · rw [List.getElem?_eq_none (by omega), List.getElem?_eq_none (by have := h.1; have := h'.1; omega)]
    rw [e]
def tollsOf (legs : List LegD) : Int := (legs.map fun l => l.1).sum
def roadsAll (legs : List LegD) : List Int := (legs.map fun l => l.2.2).flatten
/-- what is passed behind the first sighting, of the first n legs -/
def passU (N : NetD) (ss : List (Int × Str)) (legs : List LegD) : Nat → List (Str × Int)
  | 0 => []
  | n + 1 => passU N ss legs n ++ (match ss[n]?, ss[n + 1]?, legs[n]? with
    | some a, some b, some l => walkT N a.1 l.2.2.dropLast ++ [(b.2, b.1)]
    | _, _, _ => [])
theorem passU_step {N : NetD} {ss : List (Int × Str)} {legs : List LegD} {n : Nat} {a b : Int × Str} {l : LegD} (ha : ss[n]? = some a) (hb : ss[n + 1]? = some b) (hl : legs[n]? = some l) : passU N ss legs (n + 1) = passU N ss legs n ++ (walkT N a.1 l.2.2.dropLast ++ [(b.2, b.1)]) := by
  conv => lhs; unfold passU
  rw [ha, hb, hl]
theorem passU_grow {N : NetD} {ss : List (Int × Str)} {legs : List LegD} (x : LegD) : ∀ n, n ≤ legs.length → passU N ss (legs ++ [x]) n = passU N ss legs n
  | 0, _ => rfl
  | n + 1, h => by
    have ih := passU_grow (N := N) (ss := ss) (legs := legs) x n (by omega)
    unfold passU
    rw [ih, List.getElem?_append_left (by omega)]
theorem LegsAt.snoc {N : NetD} {ss : List (Int × Str)} {legs : List LegD} (h : LegsAt N ss legs) {a b : Int × Str} {l : LegD} (ha : ss[legs.length]? = some a) (hb : ss[legs.length + 1]? = some b) (h1 : BestD N a.2 b.2 (b.1 - a.1) l.1 l.2.1 l.2.2) (h2 : LegIs N a.2 b.2 (b.1 - a.1) (some l)) (h3 : l.2.2.length ≤ 4000) : LegsAt N ss (legs ++ [l]) := fun i a' b' l' ha' hb' hl' => by
  rcases get_app hl' with z | ⟨z, e⟩
  · exact h i a' b' l' ha' hb' z
  · subst z
    rw [ha] at ha'
    rw [hb] at hb'
    cases ha'
    cases hb'
    subst e
    exact ⟨h1, h2, h3⟩
theorem roadsAll_snoc (legs : List LegD) (l : LegD) : roadsAll (legs ++ [l]) = roadsAll legs ++ l.2.2 := by
  unfold roadsAll
  rw [List.map_append, List.flatten_append]
  simp
theorem tollsOf_snoc (legs : List LegD) (l : LegD) : tollsOf (legs ++ [l]) = tollsOf legs + l.1 := by
  unfold tollsOf
  rw [List.map_append, List.sum_append]
  simp
end Toll
namespace Toll
open PySem L2
theorem cut_dropLast (xs : List V) : cutV xs none (some (-1)) = xs.dropLast := by
  unfold cutV
  rw [HT.sIx_none, Nat.sub_zero, List.drop_zero, List.dropLast_eq_take]
  have e : HT.sIx xs.length xs.length (some (-1)) = xs.length - 1 := by
    unfold HT.sIx
    simp
    omega
  rw [e]
theorem map_int_at {ns : List Int} {i : Nat} {x : V} (h : (ns.map V.int)[i]? = some x) : ∃ z, ns[i]? = some z ∧ x = V.int z := by
  rw [List.getElem?_map] at h
  cases e : ns[i]? with
  | none => rw [e] at h; cases h
  | some z => rw [e] at h; exact ⟨z, rfl, (Option.some.inj h).symm⟩
end Toll
namespace Toll
open PySem L2
theorem passU_len {N : NetD} {ss : List (Int × Str)} {legs : List LegD} (h : LegsAt N ss legs) : ∀ n, (passU N ss legs n).length ≤ 4000 * n
  | 0 => Nat.le_refl _
  | n + 1 => by
    have ih := passU_len h n
    unfold passU
    rw [List.length_append]
    cases ha : ss[n]? with
    | none => simp; omega
    | some a =>
      cases hb : ss[n + 1]? with
      | none => simp; omega
      | some b =>
        cases hl : legs[n]? with
        | none => simp; omega
        | some l =>
          have hd := h n a b l ha hb hl
          have hp := hd.1.1.walk.2
          show _ + (walkT N a.1 l.2.2.dropLast ++ [(b.2, b.1)]).length ≤ _
          rw [List.length_append, walkT_len, List.length_dropLast, List.length_singleton]
          omega
end Toll
namespace Toll
open PySem L2
structure SeenOk (gs : List (Str × Bool)) (u : Int) (ss : List (Int × Str)) : Prop where
  nm : ∀ q ∈ ss, ∃ c, (q.2, c) ∈ gs
  t0 : ∀ q ∈ ss, 0 ≤ q.1
  gap : ∀ (i : Nat) (a b : Int × Str), ss[i]? = some a → ss[i + 1]? = some b → ∃ most rest : Int, b.1 = a.1 + u * most + rest ∧ 0 ≤ most ∧ most ≤ 20 ∧ 0 ≤ rest ∧ rest < u
theorem SeenOk.ok {gs : List (Str × Bool)} {rs : List RoadD} {u : Int} {ss : List (Int × Str)} (h : SeenOk gs u ss) (hu : 1 ≤ u) : ∀ (n i : Nat), n = ss.length - i → ∀ ah : Int, (∀ q, ss[i]? = some q → ah ≤ q.1) → seenRef ⟨gs, rs⟩ ah (ss.drop i) = none
  | 0, i, hn, ah, _ => by
    rw [List.drop_eq_nil_of_le (by omega)]
    rfl
  | n + 1, i, hn, ah, ha => by
    have il : i < ss.length := by omega
    have e : ss.drop i = ss[i] :: ss.drop (i + 1) := List.drop_eq_getElem_cons il
    have hi : ss[i]? = some ss[i] := List.getElem?_eq_getElem il
    rw [e]
    show (if seesOf gs ss[i].2 = none then some true else if ss[i].1 < ah then some false else seenRef _ ss[i].1 (ss.drop (i + 1))) = none
    obtain ⟨c, hc⟩ := h.nm _ (List.mem_of_getElem? hi)
    rw [if_neg (sees_mem (q := (ss[i].2, c)) hc), if_neg (by have := ha _ hi; omega)]
    refine SeenOk.ok h hu n (i + 1) (by omega) _ fun q hq => ?_
    obtain ⟨most, rest, e, m0, _, r0, _⟩ := h.gap i _ q hi hq
    have := Int.mul_nonneg (show 0 ≤ u by omega) m0
    omega
theorem SeenOk.ref {gs : List (Str × Bool)} {rs : List RoadD} {u : Int} {ss : List (Int × Str)} (h : SeenOk gs u ss) (hu : 1 ≤ u) : seenRef ⟨gs, rs⟩ 0 ss = none := by
  have := h.ok (rs := rs) hu ss.length 0 (by omega) 0 fun q hq => h.t0 q (List.mem_of_getElem? hq)
  rwa [List.drop_zero] at this
theorem SeenOk.legs {gs : List (Str × Bool)} {rs : List RoadD} {u : Int} {ss : List (Int × Str)} (h : SeenOk gs u ss) (hu : 1 ≤ u) (hr : ∀ r ∈ rs, LineOk gs u r) (i : Nat) (a b : Int × Str) (ha : ss[i]? = some a) (hb : ss[i + 1]? = some b) : seesOf gs a.2 ≠ none ∧ seesOf gs b.2 ≠ none ∧ a.1 ≤ b.1 ∧ ∃ u', Few ⟨gs, rs⟩ a.2 (b.1 - a.1) u' := by
  obtain ⟨c, hc⟩ := h.nm a (List.mem_of_getElem? ha)
  obtain ⟨d, hd⟩ := h.nm b (List.mem_of_getElem? hb)
  obtain ⟨most, rest, e, m0, m1, r0, r1⟩ := h.gap i a b ha hb
  have h1 := Int.mul_nonneg (show 0 ≤ u by omega) m0
  have h2 := Int.mul_le_mul_of_nonneg_left m1 (show 0 ≤ u by omega)
  exact ⟨sees_mem (q := (a.2, c)) hc, sees_mem (q := (b.2, d)) hd, by omega, u, few_of a.2 hu hr (by omega)⟩
theorem SeenOk.snoc {gs : List (Str × Bool)} {u : Int} {ss : List (Int × Str)} (h : SeenOk gs u ss) {q : Int × Str} {c : Bool} (hc : (q.2, c) ∈ gs) (h0 : 0 ≤ q.1) (hg : ∀ a, ss[ss.length - 1]? = some a → ∃ most rest : Int, q.1 = a.1 + u * most + rest ∧ 0 ≤ most ∧ most ≤ 20 ∧ 0 ≤ rest ∧ rest < u) : SeenOk gs u (ss ++ [q]) := by
  refine ⟨fun x hx => ?_, fun x hx => ?_, fun i a b ha hb => ?_⟩
  · rcases List.mem_append.mp hx with z | z
    · exact h.nm x z
    · rw [List.mem_singleton] at z
      subst z
      exact ⟨c, hc⟩
  · rcases List.mem_append.mp hx with z | z
    · exact h.t0 x z
    · rw [List.mem_singleton] at z
      subst z
      exact h0
  · rcases get_app hb with z | ⟨z, e⟩
    · have := (List.getElem?_eq_some_iff.mp z).1
      rw [List.getElem?_append_left (by omega)] at ha
      exact h.gap i a b ha z
    · subst e
      rw [List.getElem?_append_left (by omega)] at ha
      exact hg a (by rw [show ss.length - 1 = i by omega]; exact ha)
end Toll

set_option Elab.async false
set_option linter.all false
set_option maxRecDepth 100000
set_option maxHeartbeats 4000000
namespace Toll
open PySem L2
section
variable {N : NetD} {one w : Str} {u limit rest : Int} {most : Nat}
theorem drv_mult (ok : NetOk N) (hu : 1 ≤ u) (hun : ∀ r ∈ N.roads, r.op = true → r.mi % u = 0) (hl : limit = u * (most : Int) + rest) (h1 : rest < u) {m t : Int} {rs : List Int} (d : Drv N one w m t rs) (hm : m ≤ limit) : ∃ j : Nat, j < most + 1 ∧ m = u * (j : Int) := by
  have p := (d.pos ok).1
  have e := d.unit hun
  have e2 := Int.mul_ediv_add_emod m u
  have q0 : 0 ≤ m / u := Int.ediv_nonneg (by omega) (by omega)
  refine ⟨(m / u).toNat, ?_, by rw [Int.toNat_of_nonneg q0]; omega⟩
  have : m / u < (most : Int) + 1 := by
    refine Classical.byContradiction fun z => ?_
    have := Int.mul_le_mul_of_nonneg_left (show (most : Int) + 1 ≤ m / u by omega) (show 0 ≤ u by omega)
    rw [Int.mul_add] at this
    omega
  omega
theorem least_best (ok : NetOk N) (hu : 1 ≤ u) (hun : ∀ r ∈ N.roads, r.op = true → r.mi % u = 0) (hl : limit = u * (most : Int) + rest) (h0 : 0 ≤ rest) (h1 : rest < u) {c : Int} {k : Nat} (h : LeastP N one w u (most + 1) (some (c, k))) : ∃ rs, BestD N one w limit c (u * (k : Int)) rs := by
  obtain ⟨hk, ⟨rs, d⟩, hm⟩ := h
  have lim : u * (k : Int) ≤ limit := by
    have := Int.mul_le_mul_of_nonneg_left (show (k : Int) ≤ (most : Int) by omega) (show 0 ≤ u by omega)
    omega
  refine ⟨rs, d, lim, fun m' t' rs' d' hl' => ?_⟩
  obtain ⟨j, hj, rfl⟩ := drv_mult ok hu hun hl h1 d' hl'
  have a := hm j t' rs' hj d'
  rcases a with a | ⟨a, b⟩
  · exact .inl a
  · exact .inr ⟨a, Int.mul_le_mul_of_nonneg_left (by omega) (by omega)⟩
theorem BestD.toll {c c' m m' : Int} {rs rs' : List Int} (h : BestD N one w limit c m rs) (h' : BestD N one w limit c' m' rs') : c = c' ∧ m = m' := by
  have a := h.2.2 _ _ _ h'.1 h'.2.1
  have b := h'.2.2 _ _ _ h.1 h.2.1
  omega
end
def Joined (N : NetD) (a b : Int × Str) : Prop := ∃ m t rs, Drv N a.2 b.2 m t rs ∧ m ≤ b.1 - a.1
inductive DOut where
  | no (k : Nat)
  | way (tolls : List Int)
def TollsAt (N : NetD) (ss : List (Int × Str)) (tolls : List Int) : Prop := ∀ (i : Nat) (a b : Int × Str) (t : Int), ss[i]? = some a → ss[i + 1]? = some b → tolls[i]? = some t → ∃ m rs, BestD N a.2 b.2 (b.1 - a.1) t m rs
def DueP (N : NetD) (ss : List (Int × Str)) : DOut → Prop
  | .no k => ∃ tolls : List Int, tolls.length = k ∧ TollsAt N ss tolls ∧ ∃ a b, ss[k]? = some a ∧ ss[k + 1]? = some b ∧ ¬ Joined N a b
  | .way tolls => tolls.length + 1 = ss.length ∧ TollsAt N ss tolls
def DOut.of : GOut → DOut
  | .no k => .no k
  | .way legs => .way (legs.map (·.1))
theorem GuessP.due {N : NetD} {ss : List (Int × Str)} : ∀ {o : GOut}, GuessP N ss o → DueP N ss (DOut.of o) := by
  have h : ∀ {legs : List LegD}, LegsAt N ss legs → TollsAt N ss (legs.map (·.1)) := fun {legs} h i a b t ha hb ht => by
    rw [List.getElem?_map] at ht
    cases e : legs[i]? with
    | none => rw [e] at ht; cases ht
    | some l =>
      rw [e] at ht
      cases ht
      exact ⟨_, _, (h i a b l ha hb e).1⟩
  intro o g
  cases o with
  | no k =>
    obtain ⟨legs, e, hl, a, b, ha, hb, hn, _⟩ := g
    exact ⟨legs.map (·.1), by rw [List.length_map]; exact e, h hl, a, b, ha, hb, fun ⟨m, t, rs, d, hm⟩ => hn m t rs d hm⟩
  | way legs => exact ⟨by rw [List.length_map]; exact g.1, h g.2⟩
theorem tolls_join {N : NetD} {ss : List (Int × Str)} {tolls : List Int} (h : TollsAt N ss tolls) {k : Nat} (hk : k < tolls.length) {a b : Int × Str} (ha : ss[k]? = some a) (hb : ss[k + 1]? = some b) : Joined N a b := by
  obtain ⟨m, rs, d, l, _⟩ := h k a b _ ha hb (List.getElem?_eq_getElem hk)
  exact ⟨m, _, rs, d, l⟩
theorem DueP.uniq {N : NetD} {ss : List (Int × Str)} : ∀ {o o' : DOut}, DueP N ss o → DueP N ss o' → o = o'
  | .no k, .no k', h, h' => by
    obtain ⟨l, e, hl, a, b, ha, hb, hn⟩ := h
    obtain ⟨l', e', hl', a', b', ha', hb', hn'⟩ := h'
    have : k = k' := by
      rcases Nat.lt_trichotomy k k' with z | z | z
      · exact absurd (tolls_join hl' (by omega) ha hb) hn
      · exact z
      · exact absurd (tolls_join hl (by omega) ha' hb') hn'
    rw [this]
  | .no k, .way t, h, h' => by
    obtain ⟨l, e, hl, a, b, ha, hb, hn⟩ := h
    have := (List.getElem?_eq_some_iff.mp hb).1
    have := h'.1
    exact absurd (tolls_join h'.2 (by omega) ha hb) hn
  | .way t, .no k, h, h' => by
    obtain ⟨l, e, hl, a, b, ha, hb, hn⟩ := h'
    have := (List.getElem?_eq_some_iff.mp hb).1
    have := h.1
    exact absurd (tolls_join h.2 (by omega) ha hb) hn
  | .way t, .way t', h, h' => by
    have e : t = t' := by
      apply List.ext_getElem?
      intro i
      by_cases hi : i < t.length
      · have h1 := h.1
        have h2 := h'.1
        obtain ⟨a, ha⟩ : ∃ a, ss[i]? = some a := ⟨_, List.getElem?_eq_getElem (by omega)⟩
        obtain ⟨b, hb⟩ : ∃ b, ss[i + 1]? = some b := ⟨_, List.getElem?_eq_getElem (by omega)⟩
        obtain ⟨x, hx⟩ : ∃ x, t[i]? = some x := ⟨_, List.getElem?_eq_getElem hi⟩
        obtain ⟨y, hy⟩ : ∃ y, t'[i]? = some y := ⟨_, List.getElem?_eq_getElem (by omega)⟩
        obtain ⟨_, _, b1⟩ := h.2 i a b x ha hb hx
        obtain ⟨_, _, b2⟩ := h'.2 i a b y ha hb hy
        rw [hx, hy, (b1.toll b2).1]
      · have h1 := h.1
        have h2 := h'.1
        rw [List.getElem?_eq_none (by omega), List.getElem?_eq_none (by omega)]
    rw [e]
theorem TollsAt.snoc {N : NetD} {ss : List (Int × Str)} {tolls : List Int} (h : TollsAt N ss tolls) {a b : Int × Str} {t m : Int} {rs : List Int} (ha : ss[tolls.length]? = some a) (hb : ss[tolls.length + 1]? = some b) (hd : BestD N a.2 b.2 (b.1 - a.1) t m rs) : TollsAt N ss (tolls ++ [t]) := fun i a' b' t' ha' hb' ht' => by
  rcases get_app ht' with z | ⟨z, e⟩
  · exact h i a' b' t' ha' hb' z
  · subst z
    rw [ha] at ha'
    rw [hb] at hb'
    cases ha'
    cases hb'
    subst e
    exact ⟨m, rs, hd⟩
theorem sum_snoc (l : List Int) (x : Int) : (l ++ [x]).sum = l.sum + x := by
  rw [List.sum_append]
  simp
def dueVs : DOut → List V
  | .no k => [.str "none", .int (k : Int)]
  | .way tolls => [.str "way", .int tolls.sum]
def dueD : DOut → PyData
  | .no k => .tuple [.str "none", .int (k : Int)]
  | .way tolls => .tuple [.str "way", .int tolls.sum]
theorem dueD_ok (o : DOut) : okD 1 (dueD o) := by
  have l1 : PyData.strOk ("none" : Str) = true := by decide +kernel
  have l2 : PyData.strOk ("way" : Str) = true := by decide +kernel
  cases o with
  | no k =>
    refine okD_tup fun d hd => ?_
    simp only [List.mem_cons, List.not_mem_nil, or_false] at hd
    rcases hd with rfl | rfl
    · exact okD_str l1
    · exact okD_int _
  | way t =>
    refine okD_tup fun d hd => ?_
    simp only [List.mem_cons, List.not_mem_nil, or_false] at hd
    rcases hd with rfl | rfl
    · exact okD_str l2
    · exact okD_int _
theorem dueD_dp {K : PySem.W.Frag} {H : Hp} {a : Addr} (o : DOut) (h : H a = some (.tup (dueVs o))) : Dp K H (.ref a) (dueD o) := by
  cases o with
  | no k => exact .tup (SqT.of h) (.cons (.str _) (.cons (.int _) .nil))
  | way t => exact .tup (SqT.of h) (.cons (.str _) (.cons (.int _) .nil))
end Toll

set_option Elab.async false
set_option linter.all false
set_option maxRecDepth 100000
set_option maxHeartbeats 4000000
namespace Toll
open PySem L2
/-! ### the net's lists as data -/
def roadD1 (r : RoadD) : PyData := .tuple [.str r.one, .str r.other, .int r.mi, .int r.tl, .bool r.op]
def gateD1 (q : Str × Bool) : PyData := .tuple [.str q.1, .bool q.2]
def roadsD (rs : List RoadD) : PyData := .list (rs.map roadD1)
def gatesD (gs : List (Str × Bool)) : PyData := .list (gs.map gateD1)
theorem dpAll_roads {K : PySem.W.Frag} {H : Hp} : ∀ {us : List V} {rs : List RoadD}, Paired (RoadV H) us rs → DpAll K H us (rs.map roadD1)
  | _, _, .nil => .nil
  | _, _, .cons ⟨t, e, h⟩ r => by
    subst e
    exact .cons (.tup (SqT.of h) (.cons (.str _) (.cons (.str _) (.cons (.int _) (.cons (.int _) (.cons (.bl _) .nil)))))) (dpAll_roads r)
theorem dpAll_gates {K : PySem.W.Frag} {H : Hp} : ∀ {us : List V} {gs : List (Str × Bool)}, Paired (GateV H) us gs → DpAll K H us (gs.map gateD1)
  | _, _, .nil => .nil
  | _, _, .cons ⟨t, e, h⟩ r => by
    subst e
    exact .cons (.tup (SqT.of h) (.cons (.str _) (.cons (.bl _) .nil))) (dpAll_gates r)
theorem dp_roads {K : PySem.W.Frag} {H : Hp} {a : Addr} {us : List V} {rs : List RoadD} (h : SqL K H a us) (p : Paired (RoadV H) us rs) : Dp K H (.ref a) (roadsD rs) := .lst h (dpAll_roads p)
theorem dp_gates {K : PySem.W.Frag} {H : Hp} {a : Addr} {us : List V} {gs : List (Str × Bool)} (h : SqL K H a us) (p : Paired (GateV H) us gs) : Dp K H (.ref a) (gatesD gs) := .lst h (dpAll_gates p)
theorem roadsD_ok {rs : List RoadD} (h : ∀ r ∈ rs, PyData.strOk r.one = true ∧ PyData.strOk r.other = true) : okD 2 (roadsD rs) := okD_list fun d hd => by
  obtain ⟨r, hr, rfl⟩ := List.mem_map.mp hd
  obtain ⟨h1, h2⟩ := h r hr
  refine okD_tup fun e he => ?_
  simp only [List.mem_cons, List.not_mem_nil, or_false] at he
  rcases he with rfl | rfl | rfl | rfl | rfl
  · exact okD_str h1
  · exact okD_str h2
  · exact okD_int _
  · exact okD_int _
  · exact okD_bool _
theorem gatesD_ok {gs : List (Str × Bool)} (h : ∀ q ∈ gs, PyData.strOk q.1 = true) : okD 2 (gatesD gs) := okD_list fun d hd => by
  obtain ⟨q, hq, rfl⟩ := List.mem_map.mp hd
  refine okD_tup fun e he => ?_
  simp only [List.mem_cons, List.not_mem_nil, or_false] at he
  rcases he with rfl | rfl
  · exact okD_str (h q hq)
  · exact okD_bool _
theorem roadsV_tk {H H' : Hp} (k : TK H H') {us : List V} {rs : List RoadD} (h : Paired (RoadV H) us rs) : Paired (RoadV H') us rs := L2.Paired.mapP h fun _ _ ⟨t, e, ht⟩ => ⟨t, e, k _ _ ht⟩
theorem gatesV_tk {H H' : Hp} (k : TK H H') {us : List V} {rs : List (Str × Bool)} (h : Paired (GateV H) us rs) : Paired (GateV H') us rs := L2.Paired.mapP h fun _ _ ⟨t, e, ht⟩ => ⟨t, e, k _ _ ht⟩
end Toll
namespace Toll
open PySem L2
/-- what guess told -/
def FoundV (H : Hp) (T : Addr) (ss : List (Int × Str)) (N : NetD) : GOut → Prop
  | .no k => H T = some (.tup [.str "none", .int (k : Int)])
  | .way legs => ∃ (R L : Addr) (ws : List V) (q0 : Int × Str), R ≠ L ∧ H T = some (.tup [.str "way", .int (tollsOf legs), .ref R, .ref L]) ∧ H R = some (.lst ((roadsAll legs).map V.int)) ∧ H L = some (.lst ws) ∧ ss[0]? = some q0 ∧ Paired (PassV H) ws ((q0.2, q0.1) :: passU N ss legs legs.length)
theorem FoundV.same {H H' : Hp} {T : Addr} {ss : List (Int × Str)} {N : NetD} {go : GOut} (s : Same H H') (h : FoundV H T ss N go) : FoundV H' T ss N go := by
  cases go with
  | no k => exact s _ _ h
  | way legs =>
    obtain ⟨R, L, ws, q0, h0, h1, h2, h3, h4, h5⟩ := h
    exact ⟨R, L, ws, q0, h0, s _ _ h1, s _ _ h2, s _ _ h3, h4, pass_same s h5⟩
theorem SeenOk.names {gs : List (Str × Bool)} {u : Int} {ss : List (Int × Str)} (h : SeenOk gs u ss) (ok : GsOk gs) : ∀ q ∈ ss, q.2.length ≤ 1000 ∧ PyData.strOk q.2 = true := fun q hq => by
  obtain ⟨c, hc⟩ := h.nm q hq
  have h2 := ok.nm _ hc
  have h1 : q.2.length ≤ 8 := h2.1
  exact ⟨by omega, h2.2.1⟩
end Toll

set_option Elab.async false
set_option linter.all false
set_option maxRecDepth 100000
set_option maxHeartbeats 4000000
namespace Toll
open PySem L2
section
variable {N : NetD} {g w : Str} {limit : Int} {rows : List Row}
theorem rows_none (ok : NetOk N) (inv : RInv N g limit rows []) (cov : Cov N limit rows [] rows.length) (hl : leastF rows w rows.length = none) : ∀ m t rs, Drv N g w m t rs → ¬ m ≤ limit := fun m t rs d hm => by
  have sp := leastF_spec (nm := w) rows.length (Nat.le_refl _)
  rw [hl] at sp
  rcases drv_cov inv cov ok d hm with ⟨j, row, h0, hj, a, _, _⟩ | ⟨_, hk, _⟩
  · exact sp j row h0 (List.getElem?_eq_some_iff.mp hj).1 hj a
  · cases hk
theorem rows_best (ok : NetOk N) (inv : RInv N g limit rows []) (cov : Cov N limit rows [] rows.length) {b : Nat} (hl : leastF rows w rows.length = some b) : ∃ rb, 0 < b ∧ rows[b]? = some rb ∧ rb.nm = w ∧ BestD N g w limit rb.tl rb.mi (roadsOf rows (b : Int)) := by
  have sp := leastF_spec (nm := w) rows.length (Nat.le_refl _)
  rw [hl] at sp
  obtain ⟨b0, b1, rb, hb, eb, hm⟩ := sp
  obtain ⟨d, dl⟩ := inv.drv b rb b0 hb
  rw [eb] at d
  refine ⟨rb, b0, hb, eb, d, dl, fun m' t' rs' d' hl' => ?_⟩
  rcases drv_cov inv cov ok d' hl' with ⟨j, row, h0, hj, a, h1, h2⟩ | ⟨_, hk, _⟩
  · obtain ⟨k1, k2⟩ := hm j row h0 (List.getElem?_eq_some_iff.mp hj).1 hj a
    by_cases hlt : rb.tl < t'
    · exact .inl hlt
    · have et : row.tl = rb.tl := by omega
      have hbj := k2 et
      refine .inr ⟨by omega, ?_⟩
      by_cases hj2 : b = j
      · subst hj2
        rw [hb] at hj
        cases hj
        exact h1
      · obtain ⟨t1, t2, c1, c2, g1, g2, hs⟩ := inv.srt b j rb row b0 (by omega) hb hj
        omega
  · cases hk
end
/-- the tolls of the rows of a name, but the first -/
def tollsF (w : Str) (rows : List Row) : List Int := ((rows.drop 1).filter fun r => decide (r.nm = w)).map (·.tl)
theorem tollsF_step {w : Str} {rows : List Row} {i : Nat} {r : Row} (h : rows[i]? = some r) : tollsF w (rows.take (i + 1)) = if 0 < i ∧ r.nm = w then tollsF w (rows.take i) ++ [r.tl] else tollsF w (rows.take i) := by
  unfold tollsF
  rw [List.take_add_one, h]
  show (((rows.take i ++ [r]).drop 1).filter _).map _ = _
  by_cases h0 : 0 < i
  · have il := (List.getElem?_eq_some_iff.mp h).1
    have e : (rows.take i ++ [r]).drop 1 = (rows.take i).drop 1 ++ [r] := by
      rw [List.drop_append_of_le_length (by rw [List.length_take]; omega)]
    rw [e, List.filter_append, List.map_append]
    by_cases hn : r.nm = w
    · rw [if_pos ⟨h0, hn⟩]
      simp [hn]
    · rw [if_neg (fun z => hn z.2)]
      simp [hn]
  · have : i = 0 := by omega
    subst this
    rw [if_neg (by omega)]
    rfl
theorem tollsF_mem {w : Str} {rows : List Row} {t : Int} : t ∈ tollsF w rows ↔ ∃ j r, 0 < j ∧ rows[j]? = some r ∧ r.nm = w ∧ r.tl = t := by
  unfold tollsF
  constructor
  · intro h
    obtain ⟨r, hr, e⟩ := List.mem_map.mp h
    rw [List.mem_filter] at hr
    obtain ⟨j, hj⟩ := List.getElem?_of_mem hr.1
    rw [List.getElem?_drop] at hj
    exact ⟨1 + j, r, by omega, hj, of_decide_eq_true hr.2, e⟩
  · rintro ⟨j, r, h0, hj, hn, e⟩
    refine List.mem_map.mpr ⟨r, List.mem_filter.mpr ⟨List.mem_of_getElem? (i := j - 1) (by rw [List.getElem?_drop, show 1 + (j - 1) = j by omega]; exact hj), decide_eq_true hn⟩, e⟩
theorem tollsF_len (w : Str) (rows : List Row) : (tollsF w rows).length ≤ rows.length := by
  unfold tollsF
  rw [List.length_map]
  refine Nat.le_trans (List.length_filter_le _ _) ?_
  rw [List.length_drop]
  omega
theorem tollsF_nil {w : Str} {rows : List Row} (h : tollsF w rows = []) : leastF rows w rows.length = none := by
  cases hl : leastF rows w rows.length with
  | none => rfl
  | some b =>
    have sp := leastF_spec (nm := w) rows.length (Nat.le_refl _)
    rw [hl] at sp
    obtain ⟨b0, b1, rb, hb, eb, hm⟩ := sp
    have := (tollsF_mem (w := w)).mpr ⟨b, rb, b0, hb, eb, rfl⟩
    rw [h] at this
    cases this
theorem tollsF_min {w : Str} {rows : List Row} {b : Nat} (hl : leastF rows w rows.length = some b) : ∃ rb, 0 < b ∧ rows[b]? = some rb ∧ rb.nm = w ∧ rb.tl ∈ tollsF w rows ∧ ∀ m, m ∈ tollsF w rows → (∀ y ∈ tollsF w rows, m ≤ y) → m = rb.tl := by
  have sp := leastF_spec (nm := w) rows.length (Nat.le_refl _)
  rw [hl] at sp
  obtain ⟨b0, b1, rb, hb, eb, hm⟩ := sp
  have hmem : rb.tl ∈ tollsF w rows := tollsF_mem.mpr ⟨b, rb, b0, hb, eb, rfl⟩
  refine ⟨rb, b0, hb, eb, hmem, fun m hm1 hm2 => ?_⟩
  obtain ⟨j, r, h0, hj, hn, e⟩ := tollsF_mem.mp hm1
  have h1 := hm2 _ hmem
  have h2 := (hm j r h0 (List.getElem?_eq_some_iff.mp hj).1 hj hn).1
  omega
/-! ### a way as data -/
def passD1 (q : Str × Int) : PyData := .tuple [.str q.1, .int q.2]
def wayD (t : Int) (rs : List Int) (ps : List (Str × Int)) : PyData := .tuple [.str "way", .int t, intsD rs, .list (ps.map passD1)]
theorem dpAll_pass {K : PySem.W.Frag} {H : Hp} : ∀ {us : List V} {ps : List (Str × Int)}, Paired (PassV H) us ps → DpAll K H us (ps.map passD1)
  | _, _, .nil => .nil
  | _, _, .cons ⟨t, e, h⟩ r => by
    subst e
    exact .cons (.tup (SqT.of h) (.cons (.str _) (.cons (.int _) .nil))) (dpAll_pass r)
theorem dp_way {K : PySem.W.Frag} {H : Hp} {T R L : Addr} {t : Int} {rs : List Int} {ws : List V} {ps : List (Str × Int)} (hT : H T = some (.tup [.str "way", .int t, .ref R, .ref L])) (hR : H R = some (.lst (rs.map V.int))) (hL : H L = some (.lst ws)) (hW : Paired (PassV H) ws ps) : Dp K H (.ref T) (wayD t rs ps) :=
  .tup (SqT.of hT) (.cons (.str _) (.cons (.int _) (.cons (dp_ints (SqL.of hR)) (.cons (.lst (SqL.of hL) (dpAll_pass hW)) .nil))))
theorem passL_ok {ps : List (Str × Int)} (h : ∀ q ∈ ps, PyData.strOk q.1 = true) : okD 2 (.list (ps.map passD1)) := okD_list fun d hd => by
  obtain ⟨q, hq, rfl⟩ := List.mem_map.mp hd
  refine okD_tup fun e he => ?_
  simp only [List.mem_cons, List.not_mem_nil, or_false] at he
  rcases he with rfl | rfl
  · exact okD_str (h q hq)
  · exact okD_int _
theorem okD.mono {k j : Nat} {d : PyData} (h : okD k d) (hkj : k ≤ j) : okD j d := ⟨h.1, Nat.le_trans h.2 hkj⟩
theorem wayD_ok {t : Int} {rs : List Int} {ps : List (Str × Int)} (h : ∀ q ∈ ps, PyData.strOk q.1 = true) : okD 3 (wayD t rs ps) := okD_tup fun e he => by
  have l2 : PyData.strOk ("way" : Str) = true := by decide +kernel
  simp only [List.mem_cons, List.not_mem_nil, or_false] at he
  rcases he with rfl | rfl | rfl | rfl
  · exact (okD_str l2).mono (by omega)
  · exact (okD_int _).mono (by omega)
  · exact (intsD_ok rs).mono (by omega)
  · exact passL_ok h
theorem walkT_names {N : NetD} {nmOk : Str → Prop} (h : ∀ r ∈ N.roads, nmOk r.other) : ∀ (l : List Int) (t : Int), (∀ x ∈ l, 0 ≤ x ∧ x < (N.roads.length : Int)) → ∀ q ∈ walkT N t l, nmOk q.1
  | [], _, _, q, hq => by cases hq
  | x :: l, t, hv, q, hq => by
    rcases List.mem_cons.mp hq with e | e
    · subst e
      obtain ⟨x0, x1⟩ := hv x (List.mem_cons_self ..)
      show nmOk (otherOf N x)
      obtain ⟨r, hr⟩ : ∃ r, N.roads[x.toNat]? = some r := ⟨_, List.getElem?_eq_getElem (by omega)⟩
      unfold otherOf
      rw [hr]
      exact h r (List.mem_of_getElem? hr)
    · exact walkT_names h l _ (fun y hy => hv y (List.mem_cons_of_mem _ hy)) q e
theorem passU_names {N : NetD} {nmOk : Str → Prop} (h : ∀ r ∈ N.roads, nmOk r.other) {ss : List (Int × Str)} (hs : ∀ q ∈ ss, nmOk q.2) {legs : List LegD} (hl : LegsAt N ss legs) : ∀ n, ∀ q ∈ passU N ss legs n, nmOk q.1
  | 0, q, hq => by cases hq
  | n + 1, q, hq => by
    unfold passU at hq
    rcases List.mem_append.mp hq with e | e
    · exact passU_names h hs hl n q e
    · cases ha : ss[n]? with
      | none => rw [ha] at e; cases e
      | some a =>
        cases hb : ss[n + 1]? with
        | none => rw [ha, hb] at e; cases e
        | some b =>
          cases hg : legs[n]? with
          | none => rw [ha, hb, hg] at e; cases e
          | some l =>
            rw [ha, hb, hg] at e
            have e : q ∈ walkT N a.1 l.2.2.dropLast ++ [(b.2, b.1)] := e
            rcases List.mem_append.mp e with z | z
            · exact walkT_names h _ _ (fun x hx => (hl n a b l ha hb hg).1.1.roads x ((List.dropLast_sublist _).mem hx)) q z
            · rw [List.mem_singleton] at z
              subst z
              exact hs b (List.mem_of_getElem? hb)
end Toll
namespace Toll
open PySem L2
theorem tollsF_none {w : Str} {rows : List Row} (hl : leastF rows w rows.length = none) : tollsF w rows = [] := by
  cases e : tollsF w rows with
  | nil => rfl
  | cons x xs =>
    have sp := leastF_spec (nm := w) rows.length (Nat.le_refl _)
    rw [hl] at sp
    have hx : x ∈ tollsF w rows := by rw [e]; exact List.mem_cons_self ..
    obtain ⟨j, r, h0, hj, hn, _⟩ := tollsF_mem.mp hx
    exact absurd hn (sp j r h0 (List.getElem?_eq_some_iff.mp hj).1 hj)
theorem ints_ne {x : Int} {xs : List Int} : PyData.eqv (intsD (x :: xs)) (intsD []) = false := rfl
end Toll

set_option Elab.async false
set_option linter.all false
set_option maxRecDepth 100000
set_option maxHeartbeats 4000000
namespace Toll
open PySem L2
/-! ### a way, road by road -/
def offL (legs : List LegD) (n : Nat) : Nat := (roadsAll (legs.take n)).length
theorem offL_zero (legs : List LegD) : offL legs 0 = 0 := rfl
theorem offL_all (legs : List LegD) : offL legs legs.length = (roadsAll legs).length := by
  unfold offL
  rw [List.take_length]
theorem offL_step {legs : List LegD} {i : Nat} {l : LegD} (h : legs[i]? = some l) : offL legs (i + 1) = offL legs i + l.2.2.length := by
  unfold offL
  rw [List.take_add_one, h]
  show (roadsAll (legs.take i ++ [l])).length = _
  rw [roadsAll_snoc, List.length_append]
theorem roadsAll_at {legs : List LegD} {i j : Nat} {l : LegD} (h : legs[i]? = some l) (hj : j < l.2.2.length) : (roadsAll legs)[offL legs i + j]? = l.2.2[j]? := by
  have il := (List.getElem?_eq_some_iff.mp h).1
  have e : legs = legs.take i ++ l :: legs.drop (i + 1) := by
    obtain ⟨l0, ex⟩ := List.getElem?_eq_some_iff.mp h
    rw [← ex, ← List.drop_eq_getElem_cons l0, List.take_append_drop]
  have e2 : roadsAll legs = roadsAll (legs.take i) ++ (l.2.2 ++ roadsAll (legs.drop (i + 1))) := by
    conv => lhs; rw [e]
    unfold roadsAll
    rw [List.map_append, List.flatten_append, List.map_cons, List.flatten_cons]
  rw [e2]
  unfold offL
  rw [List.getElem?_append_right (by omega), Nat.add_sub_cancel_left, List.getElem?_append_left hj]
theorem off_find {legs : List LegD} : ∀ m, m ≤ legs.length → ∀ k, k < offL legs m → ∃ (i j : Nat) (l : LegD), i < m ∧ legs[i]? = some l ∧ j < l.2.2.length ∧ k = offL legs i + j
  | 0, _, k, h => absurd h (by rw [offL_zero]; omega)
  | m + 1, hm, k, h => by
    obtain ⟨l, hl⟩ : ∃ l, legs[m]? = some l := ⟨_, List.getElem?_eq_getElem (by omega)⟩
    by_cases hk : k < offL legs m
    · obtain ⟨i, j, l', hi, h1, h2, h3⟩ := off_find m (by omega) k hk
      exact ⟨i, j, l', by omega, h1, h2, h3⟩
    · rw [offL_step hl] at h
      exact ⟨m, k - offL legs m, l, by omega, hl, by omega, by omega⟩
section
variable {N : NetD} {ss : List (Int × Str)} {legs : List LegD} {q0 : Int × Str}
theorem passU_off (hl : LegsAt N ss legs) (hs : legs.length + 1 = ss.length) : ∀ n, n ≤ legs.length → (passU N ss legs n).length = offL legs n
  | 0, _ => rfl
  | n + 1, h => by
    have ih := passU_off hl hs n (by omega)
    obtain ⟨l, hll⟩ : ∃ l, legs[n]? = some l := ⟨_, List.getElem?_eq_getElem (by omega)⟩
    obtain ⟨a, ha⟩ : ∃ a, ss[n]? = some a := ⟨_, List.getElem?_eq_getElem (by omega)⟩
    obtain ⟨b, hb⟩ : ∃ a, ss[n + 1]? = some a := ⟨_, List.getElem?_eq_getElem (by omega)⟩
    have hp := (hl n a b l ha hb hll).1.1.walk.2
    rw [passU_step ha hb hll, offL_step hll, List.length_append, ih, List.length_append, walkT_len, List.length_dropLast, List.length_singleton]
    omega
theorem passU_pre (n m : Nat) : ∃ r, passU N ss legs (n + m) = passU N ss legs n ++ r := by
  induction m with
  | zero => exact ⟨[], by simp⟩
  | succ m ih =>
    obtain ⟨r, e⟩ := ih
    show ∃ r, passU N ss legs (n + m) ++ _ = passU N ss legs n ++ r
    rw [e]
    exact ⟨_, List.append_assoc _ _ _⟩
/-- the gate and time at the sighting i -/
theorem pass_sight (hl : LegsAt N ss legs) (hs : legs.length + 1 = ss.length) (h0 : ss[0]? = some q0) : ∀ i a, i ≤ legs.length → ss[i]? = some a → ((q0.2, q0.1) :: passU N ss legs i)[offL legs i]? = some (a.2, a.1)
  | 0, a, _, ha => by
    rw [h0] at ha
    cases ha
    rfl
  | i + 1, b, hi, hb => by
    obtain ⟨l, hll⟩ : ∃ l, legs[i]? = some l := ⟨_, List.getElem?_eq_getElem (by omega)⟩
    obtain ⟨a, ha⟩ : ∃ a, ss[i]? = some a := ⟨_, List.getElem?_eq_getElem (by omega)⟩
    have hlen := passU_off hl hs (i + 1) hi
    have hp := (hl i a b l ha hb hll).1.1.walk.2
    have hst := offL_step hll
    have h2 := passU_off hl hs i (by omega)
    rw [show offL legs (i + 1) = (offL legs (i + 1) - 1) + 1 by omega, List.getElem?_cons_succ, passU_step ha hb hll, List.getElem?_append_right (by omega), List.getElem?_append_right (by rw [walkT_len, List.length_dropLast]; omega), walkT_len, List.length_dropLast, h2]
    rw [show offL legs (i + 1) - 1 - offL legs i - (l.2.2.length - 1) = 0 by omega]
    rfl
theorem pass_at (hl : LegsAt N ss legs) (hs : legs.length + 1 = ss.length) (h0 : ss[0]? = some q0) {i j : Nat} {a b : Int × Str} {l : LegD} (ha : ss[i]? = some a) (hb : ss[i + 1]? = some b) (hll : legs[i]? = some l) (hj : j ≤ l.2.2.length) :
    ((q0.2, q0.1) :: passU N ss legs legs.length)[offL legs i + j]? = some (if j = 0 then (a.2, a.1) else if j = l.2.2.length then (b.2, b.1) else (otherOf N (l.2.2.getD (j - 1) 0), a.1 + ((l.2.2.take j).map (miOf N)).sum)) := by
  have il := (List.getElem?_eq_some_iff.mp hll).1
  have hlen := passU_off hl hs (i + 1) (by omega)
  have hlen0 := passU_off hl hs i (by omega)
  have hst := offL_step hll
  have hp := (hl i a b l ha hb hll).1.1.walk.2
  obtain ⟨r, e⟩ := passU_pre (N := N) (ss := ss) (legs := legs) (i + 1) (legs.length - (i + 1))
  rw [show i + 1 + (legs.length - (i + 1)) = legs.length by omega] at e
  rw [e, ← List.cons_append, List.getElem?_append_left (by rw [List.length_cons]; omega)]
  by_cases j0 : j = 0
  · subst j0
    rw [if_pos rfl, passU_step ha hb hll, ← List.cons_append, List.getElem?_append_left (by rw [List.length_cons]; omega)]
    exact pass_sight hl hs h0 i a (by omega) ha
  · rw [if_neg j0]
    by_cases jl : j = l.2.2.length
    · rw [if_pos jl, jl, ← hst]
      exact pass_sight hl hs h0 (i + 1) b (by omega) hb
    · rw [if_neg jl, show offL legs i + j = (offL legs i + (j - 1)) + 1 by omega, List.getElem?_cons_succ, passU_step ha hb hll, List.getElem?_append_right (by omega), hlen0, Nat.add_sub_cancel_left, List.getElem?_append_left (by rw [walkT_len, List.length_dropLast]; omega)]
      have hx : l.2.2.dropLast[j - 1]? = some (l.2.2.getD (j - 1) 0) := by
        rw [List.getElem?_dropLast, if_pos (by omega), List.getD_eq_getElem?_getD, List.getElem?_eq_getElem (by omega)]
        rfl
      rw [walkT_at N _ _ _ _ hx]
      have ht : (l.2.2.dropLast.take (j - 1)).map (miOf N) = (l.2.2.take (j - 1)).map (miOf N) := by
        rw [List.dropLast_eq_take, List.take_take, Nat.min_eq_left (by omega)]
      rw [ht]
      congr 2
      have hx2 : l.2.2[j - 1]? = some (l.2.2.getD (j - 1) 0) := by
        rw [List.getD_eq_getElem?_getD, List.getElem?_eq_getElem (by omega)]
        rfl
      rw [show l.2.2.take j = l.2.2.take (j - 1 + 1) by rw [show j - 1 + 1 = j by omega], List.take_add_one, hx2]
      show _ = _ + ((l.2.2.take (j - 1) ++ [l.2.2.getD (j - 1) 0]).map (miOf N)).sum
      rw [List.map_append, List.sum_append]
      show _ = _ + (_ + (miOf N (l.2.2.getD (j - 1) 0) + 0))
      omega
end
/-- what the law asks of a way -/
structure WayOk (N : NetD) (ss : List (Int × Str)) (rs : List Int) (ps : List (Str × Int)) (t : Int) (n : Nat) (off : Nat → Nat) : Prop where
  ln : n + 1 = ss.length
  len : ps.length = rs.length + 1
  first : ∃ q0, ss[0]? = some q0 ∧ ps[0]? = some (q0.2, q0.1)
  join : ∀ k x, rs[k]? = some x → ∃ (i : Nat) (r : RoadD) (p q : Str × Int), x = (i : Int) ∧ N.roads[i]? = some r ∧ r.op = true ∧ ps[k]? = some p ∧ ps[k + 1]? = some q ∧ r.one = p.1 ∧ r.other = q.1 ∧ p.2 + r.mi ≤ q.2
  sum : (rs.map (tlOf N)).sum = t
  off0 : off 0 = 0
  offn : off n = rs.length
  seg : ∀ i, i < n → ∃ b, ss[i + 1]? = some b ∧ off i < off (i + 1) ∧ off (i + 1) ≤ rs.length ∧ ps[off (i + 1)]? = some (b.2, b.1) ∧
    ∀ k, off i ≤ k → k + 1 < off (i + 1) → ∃ (j : Nat) (r : RoadD) (p q : Str × Int), rs[k]? = some (j : Int) ∧ N.roads[j]? = some r ∧ ps[k]? = some p ∧ ps[k + 1]? = some q ∧ q.2 = p.2 + r.mi ∧ seesOf N.gates q.1 = some false ∧ q.2 < b.1
theorem take_sum_le {N : NetD} (ok : NetOk N) : ∀ (l : List Int) (j : Nat), (∀ x ∈ l, 0 ≤ x ∧ x < (N.roads.length : Int)) → j < l.length → ((l.take j).map (miOf N)).sum < (l.map (miOf N)).sum := by
  have pos : ∀ x : Int, 0 ≤ x → x < (N.roads.length : Int) → 1 ≤ miOf N x := fun x x0 x1 => by
    obtain ⟨r, hr⟩ : ∃ r, N.roads[x.toNat]? = some r := ⟨_, List.getElem?_eq_getElem (by omega)⟩
    unfold miOf
    rw [hr]
    exact ok.mi r (List.mem_of_getElem? hr)
  intro l
  induction l with
  | nil => intro j _ h; simp at h
  | cons x l ih =>
    intro j hv hj
    have p := pos x (hv x (List.mem_cons_self ..)).1 (hv x (List.mem_cons_self ..)).2
    rw [List.map_cons, List.sum_cons]
    cases j with
    | zero =>
      show (0 : Int) < _
      have nn : ∀ l : List Int, (∀ x ∈ l, 0 ≤ x ∧ x < (N.roads.length : Int)) → 0 ≤ (l.map (miOf N)).sum := by
        intro l
        induction l with
        | nil => intro _; exact Int.le_refl 0
        | cons y l ih =>
          intro hv
          have p := pos y (hv y (List.mem_cons_self ..)).1 (hv y (List.mem_cons_self ..)).2
          have := ih fun z hz => hv z (List.mem_cons_of_mem _ hz)
          rw [List.map_cons, List.sum_cons]
          omega
      have := nn l fun z hz => hv z (List.mem_cons_of_mem _ hz)
      omega
    | succ j =>
      have := ih j (fun z hz => hv z (List.mem_cons_of_mem _ hz)) (by simpa using hj)
      rw [List.take_succ_cons, List.map_cons, List.sum_cons]
      omega
theorem way_ok {N : NetD} (ok : NetOk N) {ss : List (Int × Str)} {legs : List LegD} {q0 : Int × Str} (hl : LegsAt N ss legs) (hs : legs.length + 1 = ss.length) (h0 : ss[0]? = some q0) : WayOk N ss (roadsAll legs) ((q0.2, q0.1) :: passU N ss legs legs.length) (tollsOf legs) legs.length (offL legs) := by
  -- of one road of one leg
  have one : ∀ {i j : Nat} {l : LegD}, legs[i]? = some l → j < l.2.2.length → ∃ (a b : Int × Str) (x : Int) (n : Nat) (r : RoadD) (p q : Str × Int), ss[i]? = some a ∧ ss[i + 1]? = some b ∧ (roadsAll legs)[offL legs i + j]? = some x ∧ x = (n : Int) ∧ N.roads[n]? = some r ∧ r.op = true ∧
      ((q0.2, q0.1) :: passU N ss legs legs.length)[offL legs i + j]? = some p ∧ ((q0.2, q0.1) :: passU N ss legs legs.length)[offL legs i + j + 1]? = some q ∧ r.one = p.1 ∧ r.other = q.1 ∧ p.2 + r.mi ≤ q.2 ∧ (j + 1 < l.2.2.length → q.2 = p.2 + r.mi ∧ seesOf N.gates q.1 = some false ∧ q.2 < b.1) ∧ (j + 1 = l.2.2.length → q = (b.2, b.1)) := fun {i j l} hll hj => by
    have il := (List.getElem?_eq_some_iff.mp hll).1
    obtain ⟨a, ha⟩ : ∃ a, ss[i]? = some a := ⟨_, List.getElem?_eq_getElem (by omega)⟩
    obtain ⟨b, hb⟩ : ∃ a, ss[i + 1]? = some a := ⟨_, List.getElem?_eq_getElem (by omega)⟩
    have hd := (hl i a b l ha hb hll).1
    obtain ⟨⟨ga, g0, g1, hw⟩, hp⟩ := hd.1.walk
    have hsum := (Drv.sum hd.1).2
    have hrd := hd.1.roads
    obtain ⟨x, hx⟩ : ∃ x, l.2.2[j]? = some x := ⟨_, List.getElem?_eq_getElem hj⟩
    obtain ⟨n, r, rfl, hr, hop, h1, h2, h3⟩ := hw j x hx
    have pj := pass_at hl hs h0 ha hb hll (j := j) (by omega)
    have pj1 := pass_at hl hs h0 ha hb hll (j := j + 1) (by omega)
    have tj : ((l.2.2.take (j + 1)).map (miOf N)).sum = ((l.2.2.take j).map (miOf N)).sum + r.mi := by
      rw [List.take_add_one, hx]
      show ((l.2.2.take j ++ [(n : Int)]).map (miOf N)).sum = _
      rw [List.map_append, List.sum_append]
      show _ + (miOf N (n : Int) + 0) = _
      rw [(tlOf_at hr).2, Int.add_zero]
    have hoj : otherOf N (l.2.2.getD j 0) = r.other := by
      rw [List.getD_eq_getElem?_getD, hx]
      show otherOf N (n : Int) = _
      unfold otherOf
      rw [Int.toNat_natCast, hr]
      rfl
    -- the place ahead
    have P : ∃ p : Str × Int, ((q0.2, q0.1) :: passU N ss legs legs.length)[offL legs i + j]? = some p ∧ p.1 = ga j ∧ p.2 = a.1 + ((l.2.2.take j).map (miOf N)).sum := by
      by_cases j0 : j = 0
      · subst j0
        rw [if_pos rfl] at pj
        exact ⟨_, pj, g0.symm, by simp⟩
      · rw [if_neg j0, if_neg (by omega)] at pj
        refine ⟨_, pj, ?_, rfl⟩
        obtain ⟨y, hy⟩ : ∃ y, l.2.2[j - 1]? = some y := ⟨_, List.getElem?_eq_getElem (by omega)⟩
        obtain ⟨n', r', rfl, hr', _, _, _, h3'⟩ := hw (j - 1) y hy
        rw [show j - 1 + 1 = j by omega] at h3'
        show otherOf N (l.2.2.getD (j - 1) 0) = _
        rw [List.getD_eq_getElem?_getD, hy]
        show otherOf N (n' : Int) = _
        unfold otherOf
        rw [Int.toNat_natCast, hr']
        exact h3'
    obtain ⟨p, hpp, p1, p2⟩ := P
    rw [if_neg (by omega)] at pj1
    refine ⟨a, b, (n : Int), n, r, p, _, ha, hb, by rw [roadsAll_at hll hj]; exact hx, rfl, hr, hop, hpp, pj1, by rw [p1]; exact h1, ?_, ?_, fun hlt => ?_, fun he => by rw [if_pos he]⟩
    · by_cases he : j + 1 = l.2.2.length
      · rw [if_pos he]
        show r.other = b.2
        rw [h3, he]
        exact g1
      · rw [if_neg he]
        exact hoj.symm
    · by_cases he : j + 1 = l.2.2.length
      · rw [if_pos he]
        show p.2 + r.mi ≤ b.1
        have hm := hd.2.1
        rw [he, List.take_length, hsum] at tj
        omega
      · rw [if_neg he]
        show p.2 + r.mi ≤ a.1 + ((l.2.2.take (j + 1)).map (miOf N)).sum
        omega
    · rw [if_neg (by omega)]
      refine ⟨by show a.1 + ((l.2.2.take (j + 1)).map (miOf N)).sum = p.2 + r.mi; omega, ?_, ?_⟩
      · obtain ⟨y, hy⟩ : ∃ y, l.2.2[j + 1]? = some y := ⟨_, List.getElem?_eq_getElem hlt⟩
        obtain ⟨_, _, _, _, _, _, h2', _⟩ := hw (j + 1) y hy
        show seesOf N.gates (otherOf N (l.2.2.getD j 0)) = _
        rw [hoj, h3]
        exact h2' (by omega)
      · show a.1 + ((l.2.2.take (j + 1)).map (miOf N)).sum < b.1
        have := take_sum_le ok l.2.2 (j + 1) hrd hlt
        rw [hsum] at this
        have := hd.2.1
        omega
  have hfind : ∀ k, k < (roadsAll legs).length → ∃ (i j : Nat) (l : LegD), legs[i]? = some l ∧ j < l.2.2.length ∧ k = offL legs i + j := fun k hk => by
    rw [← offL_all] at hk
    obtain ⟨i, j, l, _, h1, h2, h3⟩ := off_find legs.length (Nat.le_refl _) k hk
    exact ⟨i, j, l, h1, h2, h3⟩
  refine ⟨hs, by rw [List.length_cons, passU_off hl hs _ (Nat.le_refl _), offL_all], ⟨q0, h0, rfl⟩, fun k x hx => ?_, ?_, rfl, offL_all legs, fun i hi => ?_⟩
  · obtain ⟨i, j, l, h1, h2, rfl⟩ := hfind k (List.getElem?_eq_some_iff.mp hx).1
    obtain ⟨a, b, x', n, r, p, q, _, _, hx', en, hr, hop, hp, hq, e1, e2, e3, _⟩ := one h1 h2
    rw [hx] at hx'
    cases hx'
    exact ⟨n, r, p, q, en, hr, hop, hp, hq, e1, e2, e3⟩
  · have : ∀ ls : List LegD, (∀ l ∈ ls, (l.2.2.map (tlOf N)).sum = l.1) → ((roadsAll ls).map (tlOf N)).sum = tollsOf ls := by
      intro ls
      induction ls with
      | nil => intro _; rfl
      | cons l ls ih =>
        intro h
        have := ih fun x hx => h x (List.mem_cons_of_mem _ hx)
        have h1 := h l (List.mem_cons_self ..)
        unfold roadsAll tollsOf at *
        rw [List.map_cons, List.flatten_cons, List.map_append, List.sum_append, List.map_cons, List.sum_cons, h1, this]
    refine this legs fun l hlm => ?_
    obtain ⟨i, hi⟩ := List.getElem?_of_mem hlm
    have il := (List.getElem?_eq_some_iff.mp hi).1
    obtain ⟨a, ha⟩ : ∃ a, ss[i]? = some a := ⟨_, List.getElem?_eq_getElem (by omega)⟩
    obtain ⟨b, hb⟩ : ∃ a, ss[i + 1]? = some a := ⟨_, List.getElem?_eq_getElem (by omega)⟩
    exact (Drv.sum (hl i a b l ha hb hi).1.1).1
  · obtain ⟨l, hll⟩ : ∃ l, legs[i]? = some l := ⟨_, List.getElem?_eq_getElem hi⟩
    obtain ⟨a, ha⟩ : ∃ a, ss[i]? = some a := ⟨_, List.getElem?_eq_getElem (by omega)⟩
    obtain ⟨b, hb⟩ : ∃ a, ss[i + 1]? = some a := ⟨_, List.getElem?_eq_getElem (by omega)⟩
    have hp := (hl i a b l ha hb hll).1.1.walk.2
    have hst := offL_step hll
    have hle : offL legs (i + 1) ≤ (roadsAll legs).length := by
      have : ∀ n m, offL legs n ≤ offL legs (n + m) := fun n m => by
        induction m with
        | zero => exact Nat.le_refl _
        | succ m ih =>
          cases e : legs[n + m]? with
          | none =>
            have := List.getElem?_eq_none_iff.mp e
            unfold offL at *
            rw [List.take_of_length_le (show legs.length ≤ n + m by omega)] at ih
            rw [List.take_of_length_le (show legs.length ≤ n + (m + 1) by omega)]
            exact ih
          | some l =>
            have := offL_step e
            show _ ≤ offL legs (n + m + 1)
            omega
      have := this (i + 1) (legs.length - (i + 1))
      rw [show i + 1 + (legs.length - (i + 1)) = legs.length by omega, offL_all] at this
      exact this
    refine ⟨b, hb, by omega, hle, ?_, fun k hk1 hk2 => ?_⟩
    · have := pass_at hl hs h0 ha hb hll (j := l.2.2.length) (Nat.le_refl _)
      rw [if_neg (by omega), if_pos rfl] at this
      rw [hst]
      exact this
    · obtain ⟨a', b', x', n, r, p, q, _, hb', hx', rfl, hr, _, hp', hq, _, _, _, h5, _⟩ := one hll (j := k - offL legs i) (by omega)
      rw [hb] at hb'
      cases hb'
      rw [show offL legs i + (k - offL legs i) = k by omega] at hx' hp' hq
      obtain ⟨h6, h7, h8⟩ := h5 (by omega)
      exact ⟨n, r, p, q, hx', hr, hp', hq, h6, h7, h8⟩
end Toll
namespace Toll
open PySem L2
theorem pass_ne {p q : Str × Int} (h : p.2 ≠ q.2) : PyData.eqv (passD1 p) (passD1 q) = false := by
  unfold passD1
  have e : PyData.eqv (.int p.2) (.int q.2) = false := by
    show decide (p.2 = q.2) = false
    exact decide_eq_false h
  show (PyData.eqv (.str p.1) (.str q.1) && (PyData.eqv (.int p.2) (.int q.2) && true)) = false
  rw [e]
  simp
end Toll

set_option Elab.async false
set_option linter.all false
set_option maxRecDepth 100000
set_option maxHeartbeats 4000000
namespace Toll
open PySem L2
def seenD1 (q : Int × Str) : PyData := .tuple [.int q.1, .str q.2]
theorem dpAll_seen {K : PySem.W.Frag} {H : Hp} : ∀ {us : List V} {ss : List (Int × Str)}, Paired (SeenV H) us ss → DpAll K H us (ss.map seenD1)
  | _, _, .nil => .nil
  | _, _, .cons ⟨t, e, h⟩ r => by
    subst e
    exact .cons (.tup (SqT.of h) (.cons (.int _) (.cons (.str _) .nil))) (dpAll_seen r)
theorem dp_seen {K : PySem.W.Frag} {H : Hp} {a : Addr} {us : List V} {ss : List (Int × Str)} (h : SqL K H a us) (p : Paired (SeenV H) us ss) : Dp K H (.ref a) (.list (ss.map seenD1)) := .lst h (dpAll_seen p)
theorem seenL_ok {ss : List (Int × Str)} (h : ∀ q ∈ ss, PyData.strOk q.2 = true) : okD 2 (.list (ss.map seenD1)) := okD_list fun d hd => by
  obtain ⟨q, hq, rfl⟩ := List.mem_map.mp hd
  refine okD_tup fun e he => ?_
  simp only [List.mem_cons, List.not_mem_nil, or_false] at he
  rcases he with rfl | rfl
  · exact okD_int _
  · exact okD_str (h q hq)
theorem roadsAll_len {N : NetD} {ss : List (Int × Str)} {legs : List LegD} (hl : LegsAt N ss legs) (hs : legs.length + 1 = ss.length) : (roadsAll legs).length ≤ 4000 * legs.length := by
  have : ∀ ls : List LegD, (∀ l ∈ ls, l.2.2.length ≤ 4000) → (roadsAll ls).length ≤ 4000 * ls.length := by
    intro ls
    induction ls with
    | nil => intro _; exact Nat.le_refl _
    | cons l ls ih =>
      intro h
      have h1 := ih fun x hx => h x (List.mem_cons_of_mem _ hx)
      have h2 := h l (List.mem_cons_self ..)
      unfold roadsAll at *
      rw [List.map_cons, List.flatten_cons, List.length_append, List.length_cons]
      omega
  refine this legs fun l hlm => ?_
  obtain ⟨i, hi⟩ := List.getElem?_of_mem hlm
  have il := (List.getElem?_eq_some_iff.mp hi).1
  exact (hl i _ _ l (List.getElem?_eq_getElem (by omega)) (List.getElem?_eq_getElem (by omega)) hi).2.2
theorem none_way : PyData.eqv (.tuple [.str "way"]) (.tuple [.str "none"]) = false := by decide +kernel
theorem one_ok {x : Str} (h : PyData.strOk x = true) : okD 1 (.tuple [.str x]) := okD_tup fun e he => by
  rw [List.mem_singleton] at he
  rw [he]
  exact okD_str h
end Toll

set_option Elab.async false
set_option linter.all false
set_option maxRecDepth 100000
set_option maxHeartbeats 4000000
namespace Toll
open PySem PySem.Calls PySem.W PyProof.Rows L2
/-! ### sorted, of sightings -/
def seenLe (a b : Int × Str) : Bool := dataLe false seenD1 a b
/-- what an item stands for -/
def SeenU (H : Hp) (v : Value) (q : Int × Str) : Prop := ∃ t, v = Value.ref t ∧ H t = some (.tup [.int q.1, .str q.2])
theorem seenU_of {H : Hp} : ∀ {us : List V} {its : List Value} {ss : List (Int × Str)}, Vals us its → Paired (SeenV H) us ss → EachIs (SeenU H) its ss
  | _, _, _, .nil, .nil => .nil
  | _, _, _, .cons r rs, .cons ⟨t, e, h⟩ ps => by
    subst e
    cases r
    exact .cons ⟨t, rfl, h⟩ (seenU_of rs ps)
theorem seenV_of {H : Hp} : ∀ {its : List Value} {ss : List (Int × Str)}, EachIs (SeenU H) its ss → ∃ us : List V, Vals us its ∧ Paired (SeenV H) us ss
  | _, _, .nil => ⟨[], .nil, .nil⟩
  | _, _, .cons ⟨t, e, h⟩ r => by
    obtain ⟨us, h1, h2⟩ := seenV_of r
    subst e
    exact ⟨.ref t :: us, .cons rfl h1, .cons ⟨t, rfl, h⟩ h2⟩
theorem each_len {α β : Type} {R : α → β → Prop} : ∀ {l : List α} {m : List β}, EachIs R l m → l.length = m.length
  | _, _, .nil => rfl
  | _, _, .cons _ t => by simp [each_len t]
theorem seen_alike (ss : List (Int × Str)) : AllAlike (ss.map seenD1) := AllAlike.of fun b b' => by simp [seenD1, alike, alikeAll]
theorem seen_sortable (ss : List (Int × Str)) : Sortable (ss.map seenD1) := Sortable.tuples fun b => ⟨_, _, rfl⟩
section
variable {X : Cx}
def rSortSeen (K : PySem.W.Frag) : List V → Hp → VK → Prop := fun vs H Q => ∃ (a : Addr) (us : List V) (ss : List (Int × Str)), vs = [.ref a] ∧ SqL K H a us ∧ Paired (SeenV H) us ss ∧ ss.length ≤ 1000 ∧
  ∀ (p : Addr) (us' : List V), H p = none → Paired (SeenV H) us' (ss.mergeSort seenLe) → Q (.ref p) (upd H p (.lst us'))
theorem cr_sortSeen (hu : X.A.units + 64 < cLine) : CallR X (.builtin "sorted") (rSortSeen X.K) := by
  intro pins s σ H vs vals Q I r h
  obtain ⟨a, us, ss, rfl, hs, hp, hlen, q⟩ := h
  obtain ⟨its, rv, hl, hz⟩ := I.list hs
  obtain ⟨u, rfl, ru⟩ := vals1 r
  obtain rfl : u = Value.ref a := ru
  have e := seenU_of rv hp
  have er : EachIs (fun v b => ∃ as, Reads s.heap v (seenD1 b) as) its ss := e.mono fun v b ⟨t, ev, ht⟩ => by
    subst ev
    exact Dp.reads I (seenD1 b) (.ref t) (.ref t) (.tup (SqT.of ht) (.cons (.int _) (.cons (.str _) .nil))) rfl
  have dep : ∀ b : Int × Str, (seenD1 b).depth ≤ 1 := fun b => by simp [seenD1, PyData.depth, PyData.depthAll]
  refine sorted_data hl.isList e er (seen_alike ss) (seen_sortable ss) (Evl.sz_of (by omega)) (fun b _ => by have := dep b; show X.A.units + 2 + _ < cLine; omega) fun out hol ho => ?_
  obtain ⟨us', v1, p1⟩ := seenV_of ho
  have hul : us'.length ≤ sizeLine := by
    rw [v1.length, hol]
    exact Evl.sz_of (by omega)
  obtain ⟨n, hn⟩ := sortedAll_at s.heap its out.toArray
  refine ⟨.ref (s.heap.objs.size + 1), _, I.laid (t' := s.toks) (o := .lst us') (fun b o eb => sortedAll_old eb) (Nat.le_succ _) ⟨hul, out, n, v1, hn⟩, rfl, q _ us' (I.hok.fresh (Nat.le_succ _)) p1⟩
/-- keys of a dict by sightings -/
def SeenK (kvs : List (List Key × V)) (ss : List (Int × Str)) : Prop := kvs.map (·.1) = ss.map fun q => [Sum.inl q.1, Sum.inr q.2]
def rSortSeenT : List V → Hp → VK → Prop := fun vs H Q => ∃ (a : Addr) (kvs : List (List Key × V)) (ss : List (Int × Str)), vs = [.ref a] ∧ H a = some (.dT kvs) ∧ SeenK kvs ss ∧ ss.length ≤ 1000 ∧
  ∀ (p : Addr) (us' : List V), H p = none → Paired (SeenV H) us' (ss.mergeSort seenLe) → Q (.ref p) (upd H p (.lst us'))
theorem seenU_keys {H : Hp} : ∀ {kvs : List (List Key × V)} {bs : List Addr} {ss : List (Int × Str)}, IsKeys H kvs bs → SeenK kvs ss → EachIs (SeenU H) (bs.map Value.ref) ss
  | [], _, [], .nil, _ => .nil
  | [], _, _ :: _, _, h => by simp [SeenK] at h
  | _ :: _, _, [], _, h => by simp [SeenK] at h
  | kv :: kvs, _, q :: ss, .cons h r, e => by
    unfold SeenK at e
    rw [List.map_cons, List.map_cons] at e
    injection e with e1 e2
    refine .cons ⟨_, rfl, ?_⟩ (seenU_keys r e2)
    rw [h, e1]
    rfl
theorem call_sortSeenT (hc : X.calm = true) (hu : X.A.units + 64 < cLine) : CallR X (.builtin "sorted") rSortSeenT := by
  intro pins s σ H vs vals Q I r h
  obtain ⟨a, kvs, ss, rfl, hd, hk, hlen, q⟩ := h
  obtain ⟨u, rfl, rx⟩ := r.one
  cases rx
  obtain ⟨z, hs, ks, pr, o, es, ep, ho, hx, hdt, he, hn⟩ := (show ObjOk X.prog X.w H s.heap a (.dT kvs) from I.hok a _ hd)
  have l1 : es.size = ks.length := size_of_entries he
  have l2 : kvs.length = ks.length := Paired.length pr
  have l3 : kvs.length = ss.length := by
    have := congrArg List.length hk
    simpa using this
  refine Calls.call_function_entry kind_sorted plain_sorted entry_sorted (args_sorted1 _) ?_
  unfold Builtin.«sorted»
  refine wpAny_bind (m := checkCount "sorted" 1 1 _) (wpAny_pure ?_)
  refine wpAny_bind (PySem.W.kdu_collect (A := X.A.in1) (kdl_raw hs hx hdt) (I.ok.hd hc) ho (by rw [l1, ← l2, l3]; exact Evl.sz_of (by omega)) fun h' tk acc kp it => ?_)
  have ea : acc.toList = (ks.map fun x => x.2.1).map Value.ref := by
    have hl : acc.toList.length = ks.length := by rw [Array.length_toList, it.1]; exact l1
    apply List.ext_getElem?
    intro j
    rw [List.getElem?_map, List.getElem?_map]
    cases hj : acc.toList[j]? with
    | none =>
      have h1 := List.getElem?_eq_none_iff.mp hj
      rw [show ks[j]? = none from List.getElem?_eq_none (by omega)]
      rfl
    | some v =>
      obtain ⟨en, hen, hv⟩ := it.2 j v ((Array.getElem?_toList).symm.trans hj)
      have qe := entry_at he j
      cases hb : ks[j]? with
      | none =>
        have h1 := List.getElem?_eq_none_iff.mp hb
        have h2 := (List.getElem?_eq_some_iff.mp hj).1
        omega
      | some b =>
        rw [hen, hb] at qe
        have e2 : en = entryOfKey (tupleKind (mixKind X.prog X.w)) b := Option.some.inj qe
        rw [hv, e2]
        rfl
  have I1 : L2.Inv X pins σ H { s with heap := h', toks := tk } := I.kept kp
  have e0 := seenU_keys (isKeys_of pr) hk
  rw [← ea] at e0
  have alen := each_len e0
  refine wpAny_bind (wpAny_newList ?_ (by rw [alen]; exact Evl.sz_of (by omega)))
  have hoL : (h'.push (seqObj "list" acc.toList.toArray 0)).get? h'.objs.size = some (seqObj "list" acc.toList.toArray 0) := Heap.get?_push_size _ rfl
  have dep : ∀ b : Int × Str, (seenD1 b).depth ≤ 1 := fun b => by simp [seenD1, PyData.depth, PyData.depthAll]
  have er : EachIs (fun v b => ∃ as, Reads (h'.push (seqObj "list" acc.toList.toArray 0)) v (seenD1 b) as ∧ h'.objs.size ∉ as) acc.toList ss := e0.mono fun v b ⟨t, ev, ht⟩ => by
    subst ev
    obtain ⟨_, its, r, o2, ho2, hc2, n2, hd2⟩ := I1.hok t _ ht
    obtain ⟨u1, u2, rfl, ri, rj⟩ := vals2 r
    obtain ⟨t1, rfl⟩ := ri
    obtain ⟨t2, rfl⟩ := rj
    exact ⟨_, .tuple (Heap.get?_push_of_some _ ho2) hc2 hd2 (.cons (.int _ _) (.cons (.str _ _) .nil)), by simp⟩
  show wpAny _ _ _ _ _ { s with heap := h'.push (seqObj "list" acc.toList.toArray 0), toks := tk }
  refine wpAny_bind (wpAny_holding (list_sort_data (s := { s with heap := h'.push (seqObj "list" acc.toList.toArray 0), toks := tk }) hoL e0 er (seen_alike ss) (seen_sortable ss) (Evl.sz_of (by omega)) (fun b _ => by have := dep b; show X.A.units + 1 + 1 + _ < cLine; omega) fun out hol hout => ?_))
  obtain ⟨us', v1, p1⟩ := seenV_of hout
  have hul : us'.length ≤ sizeLine := by
    rw [v1.length, hol]
    exact Evl.sz_of (by omega)
  obtain ⟨e', he'⟩ := PyProof.Rows.sortedHeap_at (vs := acc.toList) (out := out.toArray) hoL
  refine wpAny_pure ⟨_, rfl, .ref h'.objs.size, upd H h'.objs.size (.lst us'), I1.laid (t' := tk) (fun b u e => ?_) (Nat.le_refl _)
    (show ObjOk X.prog X.w _ _ _ (.lst us') from ⟨hul, out, e', v1, he'⟩), rfl, q _ us' (I1.hok.fresh (Nat.le_refl _)) p1⟩
  have hb : b < h'.objs.size := Heap.lt_size e
  rw [PyProof.Rows.sortedHeap_old (Nat.ne_of_lt hb) (by rw [size_push']; exact Nat.lt_succ_of_lt hb)]
  exact Heap.get?_push_of_some _ e
end
end Toll

set_option Elab.async false
set_option linter.all false
set_option maxRecDepth 100000
set_option maxHeartbeats 4000000
namespace Toll
open PySem L2
/-! ### a watch: cars in their turn, each with its sightings -/
structure CarE where
  car : Str
  d : Addr
  ss : List (Int × Str)
def carsK (W : List CarE) : List (Key × V) := W.map fun e => (Sum.inr e.car, V.ref e.d)
def carOf (W : List CarE) (c : Str) : Option CarE := W.find? fun e => decide (e.car = c)
theorem valV_cars (W : List CarE) (c : Str) : valV (carsK W) (Sum.inr c : Key) = (carOf W c).map fun e => V.ref e.d := by
  induction W with
  | nil => rfl
  | cons e W ih =>
    unfold carsK carOf at *
    rw [List.map_cons]
    by_cases h : e.car = c
    · rw [valV_pos (key_inr.mpr h), List.find?_cons_of_pos (by simpa using h)]
      rfl
    · rw [valV_neg (fun z => h (key_inr.mp z)), List.find?_cons_of_neg (by simpa using h)]
      exact ih
theorem carOf_some {W : List CarE} {c : Str} {e : CarE} (h : carOf W c = some e) : e ∈ W ∧ e.car = c := by
  unfold carOf at h
  have h2 := List.find?_some h
  exact ⟨List.mem_of_find?_eq_some h, of_decide_eq_true h2⟩
theorem carOf_none {W : List CarE} {c : Str} (h : carOf W c = none) : ∀ e ∈ W, e.car ≠ c := fun e he z => by
  unfold carOf at h
  exact (List.find?_eq_none.mp h) e he (decide_eq_true z)
theorem carOf_mem {W : List CarE} (nd : (W.map (·.car)).Nodup) {e : CarE} (he : e ∈ W) : carOf W e.car = some e := by
  induction W with
  | nil => cases he
  | cons x W ih =>
    rw [List.map_cons, List.nodup_cons] at nd
    unfold carOf
    rcases List.mem_cons.mp he with z | z
    · subst z
      rw [List.find?_cons_of_pos (by simp)]
    · rw [List.find?_cons_of_neg (by
        intro y
        exact nd.1 (by rw [of_decide_eq_true y]; exact List.mem_map.mpr ⟨e, z, rfl⟩))]
      exact ih nd.2 z
theorem carsK_snoc {W : List CarE} {c : Str} {d : Addr} {ss : List (Int × Str)} (h : carOf W c = none) : putK (carsK W) (Sum.inr c : Key) (V.ref d) = carsK (W ++ [⟨c, d, ss⟩]) := by
  rw [putK_new _ (by rw [valV_cars, h]; rfl)]
  simp [carsK]
def setSs (W : List CarE) (c : Str) (ss : List (Int × Str)) : List CarE := W.map fun e => if e.car = c then { e with ss := ss } else e
theorem setSs_cars (W : List CarE) (c : Str) (ss : List (Int × Str)) : (setSs W c ss).map (·.car) = W.map (·.car) := by
  unfold setSs
  rw [List.map_map]
  apply List.map_congr_left
  intro e _
  by_cases h : e.car = c <;> simp [h]
theorem setSs_d (W : List CarE) (c : Str) (ss : List (Int × Str)) : (setSs W c ss).map (·.d) = W.map (·.d) := by
  unfold setSs
  rw [List.map_map]
  apply List.map_congr_left
  intro e _
  by_cases h : e.car = c <;> simp [h]
theorem setSs_K (W : List CarE) (c : Str) (ss : List (Int × Str)) : carsK (setSs W c ss) = carsK W := by
  unfold setSs carsK
  rw [List.map_map]
  apply List.map_congr_left
  intro e _
  by_cases h : e.car = c <;> simp [h]
theorem setSs_mem {W : List CarE} {c : Str} {ss : List (Int × Str)} {e : CarE} (h : e ∈ setSs W c ss) : ∃ e0 ∈ W, e.d = e0.d ∧ e.car = e0.car ∧ ((e.car = c ∧ e.ss = ss) ∨ (e.car ≠ c ∧ e = e0)) := by
  unfold setSs at h
  obtain ⟨e0, h0, rfl⟩ := List.mem_map.mp h
  refine ⟨e0, h0, ?_⟩
  by_cases z : e0.car = c
  · rw [if_pos z]
    exact ⟨rfl, rfl, .inl ⟨z, rfl⟩⟩
  · rw [if_neg z]
    exact ⟨rfl, rfl, .inr ⟨z, rfl⟩⟩
/-! ### keys of sightings -/
def keyT (q : Int × Str) : List Key := [Sum.inl q.1, Sum.inr q.2]
theorem keyT_inj {a b : Int × Str} : keyT a = keyT b ↔ a = b := by
  constructor
  · intro h
    unfold keyT at h
    injection h with h1 h2
    injection h2 with h2 _
    injection h1 with h1
    injection h2 with h2
    exact Prod.ext h1 h2
  · intro h
    rw [h]
theorem seenK_has {kvs : List (List Key × V)} {ss : List (Int × Str)} (h : SeenK kvs ss) (q : Int × Str) : (valV kvs (keyT q)).isSome = decide (q ∈ ss) := by
  induction kvs generalizing ss with
  | nil =>
    cases ss with
    | nil => rfl
    | cons _ _ => simp [SeenK] at h
  | cons kv kvs ih =>
    cases ss with
    | nil => simp [SeenK] at h
    | cons p ss =>
      unfold SeenK at h
      rw [List.map_cons, List.map_cons] at h
      injection h with h1 h2
      have h1 : kv.1 = keyT p := h1
      have ih := ih (ss := ss) h2
      obtain ⟨k, v⟩ := kv
      by_cases e : p = q
      · subst e
        rw [valV_pos h1]
        simp
      · rw [valV_neg (fun z => e (keyT_inj.mp (h1.symm.trans z))), ih]
        have : q ≠ p := fun z => e z.symm
        simp [this]
theorem seenK_put {kvs : List (List Key × V)} {ss : List (Int × Str)} (h : SeenK kvs ss) {q : Int × Str} (hq : q ∉ ss) (v : V) : SeenK (putK kvs (keyT q) v) (ss ++ [q]) := by
  have hn : valV kvs (keyT q) = none := by
    have := seenK_has h q
    rw [decide_eq_false hq] at this
    cases e : valV kvs (keyT q) with
    | none => rfl
    | some x => rw [e] at this; cases this
  rw [putK_new _ (by rw [hn])]
  unfold SeenK at *
  rw [List.map_append, List.map_append, h]
  rfl
theorem seenK_len {kvs : List (List Key × V)} {ss : List (Int × Str)} (h : SeenK kvs ss) : kvs.length = ss.length := by
  have := congrArg List.length h
  simpa using this
/-! ### the object -/
theorem ns_ : ¬ (("net" : Str) = "_sightings") := by decide +kernel
def watchF (n sd : Addr) : List (Str × V) := putF "_sightings" (.ref sd) (putF "net" (.ref n) [])
theorem watchF_net (n sd : Addr) : (watchF n sd).lookup ("net" : Str) = some (.ref n) := by
  unfold watchF
  rw [lookup_putF, if_neg ns_, lookup_putF, if_pos rfl]
theorem watchF_sd (n sd : Addr) : (watchF n sd).lookup ("_sightings" : Str) = some (.ref sd) := by
  unfold watchF
  rw [lookup_putF, if_pos rfl]
theorem watchF_no (n sd : Addr) {m : Str} (h1 : ¬ m = "_sightings") (h2 : ¬ m = "net") : (watchF n sd).lookup m = none := by
  unfold watchF
  rw [lookup_putF, if_neg h1, lookup_putF, if_neg h2]
  all_goals rfl
structure WatchAt (C : Addr) (H : Hp) (p n sd : Addr) (W : List CarE) : Prop where
  ob : ∃ dx, H p = some (.ins C dx (watchF n sd))
  sd : H sd = some (.dK (carsK W))
  ds : ∀ e ∈ W, ∃ kvs, H e.d = some (.dT kvs) ∧ SeenK kvs e.ss
  nc : (W.map (·.car)).Nodup
  nd : (W.map (·.d)).Nodup
  nm : ∀ e ∈ W, e.car.length ≤ 8 ∧ PyData.strOk e.car = true
  ne : ∀ e ∈ W, e.ss ≠ [] ∧ e.ss.Nodup
  l1 : W.length ≤ 60
  l2 : ∀ e ∈ W, e.ss.length ≤ 900
def wfoot (sd : Addr) (W : List CarE) : List Addr := sd :: W.map (·.d)
theorem WatchAt.same {C : Addr} {H H' : Hp} {p n sd : Addr} {W : List CarE} (h : WatchAt C H p n sd W) (s : Same H H') : WatchAt C H' p n sd W := by
  obtain ⟨⟨dx, ob⟩, hsd, ds, a, b, c, d, e, f⟩ := h
  exact ⟨⟨dx, s _ _ ob⟩, s _ _ hsd, fun e he => by obtain ⟨kvs, h1, h2⟩ := ds e he; exact ⟨kvs, s _ _ h1, h2⟩, a, b, c, d, e, f⟩
theorem WatchAt.keep {C : Addr} {S : List Addr} {H H' : Hp} {p n sd : Addr} {W : List CarE} (h : WatchAt C H p n sd W) (k : Keep S H H') (hp : p ∉ S) (hf : ∀ x ∈ wfoot sd W, x ∉ S) : WatchAt C H' p n sd W := by
  obtain ⟨⟨dx, ob⟩, hsd, ds, a, b, c, d, e, f⟩ := h
  exact ⟨⟨dx, k _ _ ob hp⟩, k _ _ hsd (hf _ (List.mem_cons_self ..)), fun e he => by obtain ⟨kvs, h1, h2⟩ := ds e he; exact ⟨kvs, k _ _ h1 (hf _ (List.mem_cons_of_mem _ (List.mem_map.mpr ⟨e, he, rfl⟩))), h2⟩, a, b, c, d, e, f⟩
theorem WatchAt.sdne {C : Addr} {H : Hp} {p n sd : Addr} {W : List CarE} (h : WatchAt C H p n sd W) : ∀ e ∈ W, e.d ≠ sd := fun e he => by
  obtain ⟨kvs, h1, _⟩ := h.ds e he
  exact ne_of h1 h.sd (by intro z; cases z)
theorem WatchAt.pne {C : Addr} {H : Hp} {p n sd : Addr} {W : List CarE} (h : WatchAt C H p n sd W) : ∀ x ∈ wfoot sd W, p ≠ x := fun x hx => by
  obtain ⟨dx, ob⟩ := h.ob
  rcases List.mem_cons.mp hx with e | e
  · subst e
    exact ne_of ob h.sd (by intro z; cases z)
  · obtain ⟨e0, h0, rfl⟩ := List.mem_map.mp e
    obtain ⟨kvs, h1, _⟩ := h.ds e0 h0
    exact ne_of ob h1 (by intro z; cases z)
/-- a new car -/
theorem WatchAt.add {C : Addr} {H : Hp} {p n sd : Addr} {W : List CarE} (h : WatchAt C H p n sd W) {c : Str} {q : Int × Str} {d : Addr} (hc : carOf W c = none) (hn : c.length ≤ 8 ∧ PyData.strOk c = true) (hl : W.length < 60) {H' : Hp} (hk : Keep [sd] H H') (hs : H' sd = some (.dK (carsK (W ++ [⟨c, d, [q]⟩]))) ) (hd : ∃ kvs, H' d = some (.dT kvs) ∧ SeenK kvs [q]) (hdn : H d = none) : WatchAt C H' p n sd (W ++ [⟨c, d, [q]⟩]) := by
  have hp := h.pne sd (List.mem_cons_self ..)
  have hsd := h.sdne
  obtain ⟨⟨dx, ob⟩, _, ds, nc, nd, nm, ne, l1, l2⟩ := h
  refine ⟨⟨dx, hk _ _ ob (by simpa using hp)⟩, hs, fun e he => ?_, ?_, ?_, fun e he => ?_, fun e he => ?_, by rw [List.length_append]; show W.length + 1 ≤ 60; omega, fun e he => ?_⟩
  · rcases List.mem_append.mp he with z | z
    · obtain ⟨kvs, h1, h2⟩ := ds e z
      exact ⟨kvs, hk _ _ h1 (by simpa using hsd e z), h2⟩
    · rw [List.mem_singleton] at z
      subst z
      exact hd
  · rw [List.map_append, List.nodup_append]
    refine ⟨nc, by simp, fun x hx y hy => ?_⟩
    obtain ⟨e, he, rfl⟩ := List.mem_map.mp hx
    have hy : y = c := by simpa using hy
    rw [hy]
    exact carOf_none hc e he
  · rw [List.map_append, List.nodup_append]
    refine ⟨nd, by simp, fun x hx y hy => ?_⟩
    obtain ⟨e, he, rfl⟩ := List.mem_map.mp hx
    have hy : y = d := by simpa using hy
    rw [hy]
    intro z
    obtain ⟨kvs, h1, _⟩ := ds e he
    rw [z, hdn] at h1
    cases h1
  · rcases List.mem_append.mp he with z | z
    · exact nm e z
    · rw [List.mem_singleton] at z
      subst z
      exact hn
  · rcases List.mem_append.mp he with z | z
    · exact ne e z
    · rw [List.mem_singleton] at z
      subst z
      exact ⟨by simp, by simp⟩
  · rcases List.mem_append.mp he with z | z
    · exact l2 e z
    · rw [List.mem_singleton] at z
      subst z
      show 1 ≤ 900
      omega
/-- one more sighting of a car -/
theorem WatchAt.more {C : Addr} {H : Hp} {p n sd : Addr} {W : List CarE} (h : WatchAt C H p n sd W) {c : Str} {q : Int × Str} {e0 : CarE} (hc : carOf W c = some e0) (hq : q ∉ e0.ss) (hl : e0.ss.length < 900) {H' : Hp} (hk : Keep [e0.d] H H') (hd : ∃ kvs, H' e0.d = some (.dT kvs) ∧ SeenK kvs (e0.ss ++ [q])) : WatchAt C H' p n sd (setSs W c (e0.ss ++ [q])) := by
  obtain ⟨hm, hcar⟩ := carOf_some hc
  have hp := h.pne e0.d (List.mem_cons_of_mem _ (List.mem_map.mpr ⟨e0, hm, rfl⟩))
  have hsd := h.sdne e0 hm
  obtain ⟨⟨dx, ob⟩, hs, ds, nc, nd, nm, ne, l1, l2⟩ := h
  have one : ∀ e ∈ W, e.car = c → e = e0 := fun e he z => by
    have h1 := carOf_mem nc he
    rw [z, hc] at h1
    exact (Option.some.inj h1).symm
  have dne : ∀ e ∈ W, e.car ≠ c → e.d ≠ e0.d := fun e he z y => by
    obtain ⟨i, hi⟩ := List.getElem?_of_mem he
    obtain ⟨j, hj⟩ := List.getElem?_of_mem hm
    have li := List.getElem?_eq_some_iff.mp hi
    have lj := List.getElem?_eq_some_iff.mp hj
    obtain ⟨li, ei⟩ := li
    obtain ⟨lj, ej⟩ := lj
    have := (List.getElem_inj (xs := W.map (·.d)) (i := i) (j := j) (h₀ := by simpa using li) (h₁ := by simpa using lj) nd).mp (by simp [ei, ej, y])
    subst this
    rw [hi] at hj
    cases hj
    exact z hcar
  refine ⟨⟨dx, hk _ _ ob (by simpa using hp)⟩, by rw [setSs_K]; exact hk _ _ hs (by simpa using hsd.symm), fun e he => ?_, by rw [setSs_cars]; exact nc, by rw [setSs_d]; exact nd, fun e he => ?_, fun e he => ?_, by unfold setSs; rw [List.length_map]; exact l1, fun e he => ?_⟩
  · obtain ⟨e1, h1, hd1, hc1, ⟨z, zs⟩ | ⟨z, zs⟩⟩ := setSs_mem he
    · have : e1 = e0 := one e1 h1 (by rw [← hc1]; exact z)
      subst this
      rw [hd1, zs]
      exact hd
    · subst zs
      obtain ⟨kvs, h3, h4⟩ := ds e h1
      exact ⟨kvs, hk _ _ h3 (by simpa using dne e h1 z), h4⟩
  · obtain ⟨e1, h1, hd1, hc1, _⟩ := setSs_mem he
    rw [hc1]
    exact nm e1 h1
  · obtain ⟨e1, h1, hd1, hc1, ⟨z, zs⟩ | ⟨z, zs⟩⟩ := setSs_mem he
    · rw [zs]
      refine ⟨by simp, ?_⟩
      rw [List.nodup_append]
      exact ⟨(ne e0 hm).2, by simp, fun x hx y hy w => hq (by rw [List.mem_singleton] at hy; rw [← hy, ← w]; exact hx)⟩
    · subst zs
      exact ne e h1
  · obtain ⟨e1, h1, hd1, hc1, ⟨z, zs⟩ | ⟨z, zs⟩⟩ := setSs_mem he
    · rw [zs, List.length_append]
      show e0.ss.length + 1 ≤ 900
      omega
    · subst zs
      exact l2 e h1
end Toll
namespace Toll
open PySem L2
theorem carsK_drop (W : List CarE) (c : Str) : dropK (carsK W) (Sum.inr c : Key) = carsK (W.filter fun e => decide (e.car ≠ c)) := by
  unfold dropK carsK
  rw [List.filter_map]
  congr 1
  apply List.filter_congr
  intro e _
  show decide ((Sum.inr e.car : Key) ≠ Sum.inr c) = decide (e.car ≠ c)
  exact decide_eq_decide.mpr (not_congr key_inr)
theorem WatchAt.drop {C : Addr} {H : Hp} {p n sd : Addr} {W : List CarE} (h : WatchAt C H p n sd W) (c : Str) : WatchAt C (upd H sd (.dK (dropK (carsK W) (Sum.inr c)))) p n sd (W.filter fun e => decide (e.car ≠ c)) := by
  have hp := h.pne sd (List.mem_cons_self ..)
  have hsd := h.sdne
  obtain ⟨⟨dx, ob⟩, hs, ds, nc, nd, nm, ne, l1, l2⟩ := h
  have sub : ∀ e ∈ W.filter (fun e => decide (e.car ≠ c)), e ∈ W := fun e he => (List.mem_filter.mp he).1
  refine ⟨⟨dx, by rw [upd_ne hp]; exact ob⟩, by rw [upd_same, carsK_drop], fun e he => ?_, ?_, ?_, fun e he => nm e (sub e he), fun e he => ne e (sub e he), Nat.le_trans (List.length_filter_le _ _) l1, fun e he => l2 e (sub e he)⟩
  · obtain ⟨kvs, h1, h2⟩ := ds e (sub e he)
    exact ⟨kvs, by rw [upd_ne (hsd e (sub e he))]; exact h1, h2⟩
  · exact nc.sublist (List.filter_sublist.map _)
  · exact nd.sublist (List.filter_sublist.map _)
end Toll

set_option Elab.async false
set_option linter.all false
set_option maxRecDepth 100000
set_option maxHeartbeats 4000000
namespace Toll
open PySem PySem.Spec PyProof.Rows L2
/-! ### a def that is called while an error is held: what it gives may hang on that error -/
abbrev Err := Addr × Obj
structure HeldOk (P : Program) (w : World) (K : PySem.W.Frag) (mg : Str → Option Value) (base : Heap) (k : Nat) (f : Addr) (fd : FuncData) (ps : List Str) (sp : Addr → Value → Option Addr → Sp) : Prop where
  many : ∀ {a : Addr} {cls : Value} {d : Option Addr} {vs : List V} {H : Hp} {Q : VK} {E : XK}, sp a cls d vs H Q E → vs.length = ps.length
  goes : ∀ {A : Around} {outer : List Env} {s : Shared} {H : Hp} {args : Args} {us : List Value} {vs : List V} {Q : VK} {E : XK} {p : Err} {cls : Value} {d : Option Addr}, Zc cls d p.2 → (∃ vs, p.2.data = .fields vs) → L2H.RoomH k A → L2H.PinOk outer H s p → Env0 P w K mg base A outer s H →
    BindsTo s fd args (ps.zip us) → Vals vs us → sp p.1 cls d vs H Q E → codeAny (model P w) A (.call (.ref f) args) (CR CX0 outer P w H s Q E) s
section
variable {P : Program} {w : World} {K : PySem.W.Frag} {mg : Str → Option Value} {base : Heap}
/-- where the parameters stand: by name, or by a cell -/
theorem places {N ps : List Str} {sc : Scope} (S : FnScope N ps sc) (c : Nat) (us : List Value) : ∀ y ∈ ps.zip us, sc.names.lookup y.1 = some .local ∨ (sc.names.lookup y.1 = some .cell ∧ ((cellsFrom c sc.names []).lookup y.1).isSome = true) := by
  rintro ⟨n, v⟩ hy
  exact (S.par n (List.of_mem_zip hy).1).imp id fun q => ⟨q, PySem.W.cellsFrom_some _ _ _ (.inl q)⟩
theorem Fun.held {x qual : Str} {st : Stmt} {f : Addr} {fd : FuncData} {N ps : List Str} {k : Nat} {sp : Addr → Value → Option Addr → Sp} (F : Fun K x qual st f fd) (S : FnScope N ps (defScope st)) (many : ∀ a cls d vs H Q E, sp a cls d vs H Q E → vs.length = ps.length)
    (body : ∀ (cdv : Value) (A : Around) (outer : List Env) (s : Shared) (H : Hp) (vs : List V) (Q : VK) (E : XK) (a : Addr) (oe : Obj) (cls : Value) (d : Option Addr), Zc cls d oe → (∃ vs, oe.data = .fields vs) → L2H.RoomH k (A.deeper (envOfC qual (defScope st) s.heap.objs.size f cdv)) → sp a cls d vs H Q E →
      ∃ t, PSs (L2H.cxH CX0 P w K mg base N qual (defScope st) f cdv A outer s H E (a, oe)) (defBody st) t ∧ t { nx := fun _ H' => Q .non H', rt := Q } (L2.start N vs) H) : HeldOk P w K mg base (k + 1) f fd ps sp := by
  obtain ⟨oc, od, kV, doc, pm, an, cdv, ct, osl, rfl, lk, hcd⟩ := F.ex
  constructor
  · intro a cls d vs H Q E h
    exact many _ _ _ _ _ _ _ h
  · intro A outer s H args us vs Q E p cls d hz hf room pin e0 bd r h
    have stays : ∀ b o, base.get? b = some o → s.heap.get? b = some o := fun b o e => (e0.bs b o e).1
    have kin := e0.mod.kin.keeps stays
    refine codeAny_call_function room.depth (kin _ _ lk) rfl S.co S.gen rfl (PySem.W.codeRec_of kin hcd) (bd _ _ _ _ ?_)
    refine wpAny_newFunctionEnv_cells S.kind (places S _ us) fun env he s1 x => ?_
    subst he
    obtain ⟨t, term, reads⟩ := body cdv A outer s H vs Q E p.1 p.2 cls d hz hf (room.deeper _) h
    have I := L2H.inv_startH (CX := CX0) (E := E) S pin e0 (many _ _ _ _ _ _ _ h) r x
    refine ⟨(e0.mod.nolimit.keeps stays).keeps x.toInCall.keep, codeAny_func (wpAny_mono (term.run [] s1 _ H _ I reads) ?_ fun _ _ z => z)⟩
    intro fl s2 hs
    match fl, hs with
    | .ret u, ⟨v, σ2, H2, J, rv, q⟩ => exact ⟨v, H2, J.os, J.bare, J.base, J.hok, rv, q⟩
    | .next, ⟨σ2, H2, J, q⟩ => exact ⟨V.non, H2, J.os, J.bare, J.base, J.hok, rfl, q⟩
    | .brk, ⟨_, _, _, q⟩ => exact q.elim
    | .cont, ⟨_, _, _, q⟩ => exact q.elim
end
section
variable {X : Cx} {k : Nat} {f : Addr} {fd : FuncData} {ps : List Str} {sp : Addr → Value → Option Addr → Sp} {a : Addr} {oe : Obj} {cls : Value} {d : Option Addr} {x : Str} {q pos : Pos} {e : Expr} {es : List Expr} {t : TA}
/-- such a def's call, where the context bears the error p -/
theorem pe_held (F : HeldOk X.prog X.w X.K X.mg X.base k f fd ps sp) (hp : (a, oe) ∈ X.pn) (hz : Zc cls d oe) (hf : ∃ vs, oe.data = .fields vs) (room : L2H.RoomH k X.A) (hg : Gl X x) (hm : X.mg x = some (.ref f)) (hk : PySem.W.keepIn X.K (.ref f) = true) (hb : Binds X.K fd ps []) (ha : PA X (e :: es) t)
    (hdb : (x == ("__debug__" : Str)) = false := by decide) (he : starEach (e :: es) X.env = (false, eval e X.env) :: starEach es X.env := by rfl) (hpl : (backTo pos (starEach es X.env)).any (·.1) = false := by rfl) :
    PE X (.Call (.Name x q) (e :: es) [] pos) (tCallS (sp a cls d) (fun _ _ _ _ => False) t) := by
  constructor
  intro pins s σ H Q I h
  refine wpAny_Call_Name_kw (ld_glob I hg hm ?_ hdb)
  refine PySem.W.callWith_K (h₀ := X.base) I.ok.mod.kin hk (thn (ha.run pos pins s σ H _ I h) fun us s1 ⟨vs, H1, J, r, q⟩ => ⟨J.kIn, ?_⟩) he hpl
  have nArgs : us.length = ps.length := r.length.symm.trans (F.many q)
  have bd := hb s1 us J.kIn (by rw [List.append_nil]; exact nArgs)
  rw [List.append_nil] at bd
  obtain ⟨there, free, nl, nf, nc⟩ := J.pin (a, oe) (List.mem_append_left _ hp)
  have pin : L2H.PinOk X.stack H1 s1 (a, oe) := ⟨there, free, fun hm => (List.mem_cons.mp (J.stkSub a hm)).elim nl nf, nc⟩
  refine wpAny_call (codeAny_mono (F.goes hz hf room pin J.env0 bd r q) ?_)
  intro res s2 hq
  match res, hq with
  | .error _, hq => exact False.elim hq
  | .ok (.ret u), hq => exact J.after hq
  | .ok .next, hq => exact False.elim hq
  | .ok .brk, hq => exact False.elim hq
  | .ok .cont, hq => exact False.elim hq
end
theorem room_mark {j k : Nat} {A : Around} (r : Room k A) (h : j ≤ k) (v : Option Value) : L2H.RoomH j (A.mark v) := ⟨(L2H.roomH_of (r.mono h)).dp, (L2H.roomH_of (r.mono h)).un⟩
/-! ### isinstance(e, c) of an error that the context bears -/
def rIsP (K : PySem.W.Frag) (cls : Value) (d : Option Addr) (a : Addr) : List V → Hp → VK → Prop := fun xs H Q => ∃ (D : Addr) (c : V) (cv : Value) (b : Bool), cls = .ref D ∧ d = none ∧ ExcC K D ∧ xs = [.ref a, c] ∧ ClsV c cv ∧ PySem.W.kitOne K (.ref D) cv = some b ∧ Q (.bl b) H
theorem call_isP {X : Cx} {a : Addr} {oe : Obj} {cls : Value} {d : Option Addr} (hp : (a, oe) ∈ X.pn) (hz : Zc cls d oe) (hf : ∃ vs, oe.data = .fields vs) : CallR X (.builtin "isinstance") (rIsP X.K cls d a) := by
  intro pins s σ H xs us Q I r h
  obtain ⟨D, c, cv, b, rfl, rfl, C, rfl, hc, e, q⟩ := h
  match r with
  | .cons rx (.cons rt .nil) =>
    cases rx
    have ec := hc.eq rt
    subst ec
    have there := (I.pin (a, oe) (List.mem_append_left _ hp)).1
    obtain ⟨vs, hv⟩ := hf
    have J : PySem.W.InstAt s.heap a oe D none := by
      obtain ⟨oc, od, oda, osl⟩ := oe
      obtain ⟨rfl, rfl⟩ := hz
      cases hv
      exact ⟨there, rfl, rfl, trivial⟩
    exact PySem.W.kia_one (PySem.W.handS_kitx_exc C.hg C.hk C.hs C.hd C.ha C.hn C.ht C.hm) I.kIn J e (fun z => nomatch z) fun tk => ⟨.bl b, H, I.kept (t' := tk) fun _ _ z => z, rfl, q⟩
/-- two classes of ours -/
theorem kit_err {K : PySem.W.Frag} {mg : Str → Option Value} {n : Str} {C D : Addr} {b : Bool} (e : ErrC K mg n C) (h : PySem.W.subIn K (.ref D) (.ref C) = some b) (hs : PySem.W.subIn K (.ref C) (.ref C) = some true) : PySem.W.kitOne K (.ref D) (.ref C) = some b := by
  unfold PySem.W.kitOne
  by_cases z : D = C
  · subst z
    rw [h] at hs
    rw [if_pos (beq_self_eq_true _), hs]
  · have ne : ¬ ((Value.ref D == Value.ref C) = true) := fun y => z (Value.ref.inj (beq_iff_eq.mp y))
    rw [if_neg ne]
    obtain ⟨cd, hc, _⟩ := PySem.W.any_some e.h
    show (if ((PySem.W.clsIn K C).isSome && PySem.W.typeIn K (.ref C) == some (.type "type")) = true then _ else _) = _
    rw [hc, e.t]
    exact h
/-! ### count(True) of a list of truths -/
def rCountB (K : PySem.W.Frag) : V → List V → Hp → VK → Prop := fun x xs H Q => ∃ (p : Addr) (bs : List Bool) (k : Bool), x = .ref p ∧ xs = [.bl k] ∧ SqL K H p (bs.map V.bl) ∧ Q (.int (bs.count k : Nat)) H
theorem bools_of : ∀ {bs : List Bool} {us : List Value}, Vals (bs.map V.bl) us → us = bs.map Value.bool
  | [], _, .nil => rfl
  | b :: bs, _, .cons r rr => by
    have h := bools_of (bs := bs) rr
    have h0 : _ = Value.bool b := r
    rw [h, h0]
    rfl
theorem countP_bools (k : Bool) : ∀ (bs : List Bool), (bs.map Value.bool).countP (isBoolOf k) = bs.count k
  | [] => rfl
  | b :: bs => by
    rw [List.map_cons, List.countP_cons, List.count_cons, countP_bools k bs]
    rfl
theorem mt_countB {X : Cx} : MtR X "list.count" (rCountB X.K) := by
  intro pins s σ H x xs v us Q I rx rxs h
  obtain ⟨p, bs, k, rfl, rfl, hs, q⟩ := h
  cases rx
  obtain ⟨u, rfl, ru⟩ := rxs.one
  have ru : u = Value.bool k := ru
  subst ru
  obtain ⟨its, rv, ⟨⟨cls, dd, data, sl⟩, n, ho, hc, hdn, hd⟩, hlen⟩ := I.list hs
  simp only at hc hd
  subst hc hd
  have hi := bools_of rv
  subst hi
  refine call_meets PySem.F.slot_list_count ⟨_, ho, rfl⟩ PySem.F.entry_list_count (PySem.F.args_list_count_2 _ _) (SeqAt.list_countAt p _ n dd sl (.bool k) (isBoolOf k)) ⟨ho, fun y hy => ?_, ?_⟩
  · have hy : y ∈ bs.map Value.bool := by simpa using hy
    obtain ⟨b, _, rfl⟩ := List.mem_map.mp hy
    exact SeqAt.EqAt.bool_bool b k
  · refine ⟨.int (bs.count k : Nat), H, I.tok _, ⟨s.toks, ?_⟩, q⟩
    show Value.int (((bs.map Value.bool).countP (isBoolOf k) : Nat) : Int) s.toks = _
    rw [countP_bools]
end Toll

set_option Elab.async false
set_option linter.all false
set_option maxRecDepth 100000
set_option maxHeartbeats 4000000
namespace Toll
open PySem L2
/-! ### refusals and refused deeds of a net -/
inductive Rf where
  | NoName
  | SameGate
  | FullNet
  | NoGate
  | NoNumber
  | NoRoad
  | Already
  | NoTime
  | Blind
  | NoCar
  | NoSight
  deriving DecidableEq
def Rf.word : Rf → Str
  | .NoName => "NoName"
  | .SameGate => "SameGate"
  | .FullNet => "FullNet"
  | .NoGate => "NoGate"
  | .NoNumber => "NoNumber"
  | .NoRoad => "NoRoad"
  | .Already => "Already"
  | .NoTime => "NoTime"
  | .Blind => "Blind"
  | .NoCar => "NoCar"
  | .NoSight => "NoSight"
def Rf.all : List Rf := [.NoName, .SameGate, .FullNet, .NoGate, .NoNumber, .NoRoad, .Already, .NoTime, .Blind, .NoCar, .NoSight]
theorem one_of (c : Rf) : (Rf.all.map fun d => decide (c = d)).count true = 1 := by cases c <;> decide
inductive D3 where
  | gate (nm : Str)
  | road (one other : Str) (mi tl : Int)
  | turn (b : Bool) (nm : Str)
  | lane (b : Bool) (n : Int)
  | leave (nm : Str)
def D3.vs : D3 → List V
  | .gate nm => [.str "gate", .str nm]
  | .road one other mi tl => [.str "road", .str one, .str other, .int mi, .int tl]
  | .turn false nm => [.str "blind", .str nm]
  | .turn true nm => [.str "mend", .str nm]
  | .lane false n => [.str "close", .int n]
  | .lane true n => [.str "reopen", .int n]
  | .leave nm => [.str "leaving", .str nm]
def Fine (nm : Str) : Prop := nm.length ≤ 1000 ∧ PyData.strOk nm = true
def D3.fine : D3 → Prop
  | .gate nm => Fine nm
  | .road one other _ _ => Fine one ∧ Fine other
  | .turn _ nm => Fine nm
  | .lane _ _ => True
  | .leave nm => Fine nm
def refusal3 (N : NetD) : D3 → Option Rf
  | .gate nm => if isName nm.cps.toList = false then some .NoName else if seesOf N.gates nm ≠ none then some .SameGate else if 60 ≤ N.gates.length then some .FullNet else none
  | .road one other mi tl => if seesOf N.gates one = none ∨ seesOf N.gates other = none then some .NoGate else if one = other then some .SameGate
    else if ¬ ((1 ≤ mi ∧ mi ≤ 1000000) ∧ (0 ≤ tl ∧ tl ≤ 1000000)) then some .NoNumber else if 200 ≤ N.roads.length then some .FullNet else none
  | .turn b nm => match seesOf N.gates nm with
    | none => some .NoGate
    | some c => if c = b then some .Already else none
  | .lane b n => if ¬ (0 ≤ n ∧ n < (N.roads.length : Int)) then some .NoRoad else match N.roads[n.toNat]? with
    | none => some .NoRoad
    | some r => if r.op = b then some .Already else none
  | .leave nm => if seesOf N.gates nm = none then some .NoGate else none
def done3 (N : NetD) : D3 → NetD
  | .gate nm => { N with gates := N.gates ++ [(nm, true)] }
  | .road one other mi tl => { N with roads := N.roads ++ [⟨one, other, mi, tl, true⟩] }
  | .turn b nm => { N with gates := setSees N.gates nm b }
  | .lane b n => match N.roads[n.toNat]? with
    | none => N
    | some r => { N with roads := N.roads.set n.toNat { r with op := b } }
  | .leave _ => N
section
variable {N : NetD} {b : Bool} {nm : Str} {n : Int} {r : RoadD}
theorem r3_turn0 (h : seesOf N.gates nm = none) : refusal3 N (.turn b nm) = some .NoGate := by
  show (match seesOf N.gates nm with | none => some Rf.NoGate | some c => if c = b then some Rf.Already else none) = _
  rw [h]
theorem r3_turn1 (h : seesOf N.gates nm = some b) : refusal3 N (.turn b nm) = some .Already := by
  show (match seesOf N.gates nm with | none => some Rf.NoGate | some c => if c = b then some Rf.Already else none) = _
  rw [h]
  exact if_pos rfl
theorem r3_turn2 (h : seesOf N.gates nm = some (!b)) : refusal3 N (.turn b nm) = none := by
  show (match seesOf N.gates nm with | none => some Rf.NoGate | some c => if c = b then some Rf.Already else none) = _
  rw [h]
  exact if_neg (by cases b <;> simp)
theorem r3_lane (N : NetD) (b : Bool) (n : Int) : refusal3 N (.lane b n) = (if ¬ (0 ≤ n ∧ n < (N.roads.length : Int)) then some .NoRoad else match N.roads[n.toNat]? with
    | none => some .NoRoad
    | some r => if r.op = b then some .Already else none) := rfl
theorem r3_lane0 (h : ¬ (0 ≤ n ∧ n < (N.roads.length : Int))) : refusal3 N (.lane b n) = some .NoRoad := by
  rw [r3_lane, if_pos h]
theorem r3_lane1 (h0 : 0 ≤ n) (h : N.roads[n.toNat]? = some r) (e : r.op = b) : refusal3 N (.lane b n) = some .Already := by
  rw [r3_lane, if_neg (fun z => z (lane_in h0 h)), h]
  exact if_pos e
theorem r3_lane2 (h0 : 0 ≤ n) (h : N.roads[n.toNat]? = some r) (e : r.op = !b) : refusal3 N (.lane b n) = none := by
  rw [r3_lane, if_neg (fun z => z (lane_in h0 h)), h]
  exact if_neg (by rw [e]; cases b <;> simp)
theorem d3_lane (h : N.roads[n.toNat]? = some r) : done3 N (.lane b n) = { N with roads := N.roads.set n.toNat { r with op := b } } := by
  show (match N.roads[n.toNat]? with | none => N | some r => { N with roads := N.roads.set n.toNat { r with op := b } }) = _
  rw [h]
end
end Toll

set_option Elab.async false
set_option linter.all false
set_option maxRecDepth 100000
set_option maxHeartbeats 4000000
namespace Toll
open PySem L2
/-! ### texts that are no names -/
theorem isName_long {cs : List Nat} (h : 8 < cs.length) : isName cs = false := by
  unfold isName
  rw [decide_eq_false (by omega : ¬ cs.length ≤ 8)]
  simp
theorem isName_head {c : Nat} {cs : List Nat} (h : smallC c = false) : isName (c :: cs) = false := by
  unfold isName
  rw [show (c :: cs).getD 0 0 = c from rfl, h]
  simp
theorem isName_bad {c : Nat} {cs : List Nat} (m : c ∈ cs) (h : signC c = false) : isName cs = false := by
  unfold isName
  have : cs.all signC = false := by
    rw [Bool.eq_false_iff]
    intro a
    have := List.all_eq_true.mp a c m
    rw [h] at this
    cases this
  rw [this]
  simp
theorem isName_pos {cs : List Nat} (h : isName cs = true) : 0 < cs.length ∧ cs.length ≤ 8 := by
  unfold isName at h
  simp only [Bool.and_eq_true, decide_eq_true_eq] at h
  exact ⟨h.1.1.1, h.1.1.2⟩
theorem str_tl (a b : Str) : (a ++ b).cps.toList = a.cps.toList ++ b.cps.toList := by
  show (a.cps ++ b.cps).toList = _
  simp
theorem cut_tl (z : Str) (lo hi : Option Int) : ∃ i j, (cutS z lo hi).cps.toList = (z.cps.toList.drop i).take j := ⟨_, _, by unfold cutS; simp; rfl⟩
theorem str_size (z : Str) : z.length = z.cps.toList.length := by
  show z.cps.size = _
  simp
theorem cut_size (z : Str) (lo hi : Option Int) : (cutS z lo hi).length ≤ z.length := by
  obtain ⟨i, j, e⟩ := cut_tl z lo hi
  rw [str_size, str_size, e, List.length_take, List.length_drop]
  omega
theorem strOk_iff (z : Str) : PyData.strOk z = true ↔ ∀ c ∈ z.cps.toList, c < 0x110000 := by
  unfold PyData.strOk
  rw [Array.all_eq_true']
  simp
theorem strOk_app {a b : Str} (ha : PyData.strOk a = true) (hb : PyData.strOk b = true) : PyData.strOk (a ++ b) = true := by
  rw [strOk_iff] at *
  intro c hc
  rw [str_tl] at hc
  rcases List.mem_append.mp hc with h | h
  · exact ha c h
  · exact hb c h
theorem strOk_cut {z : Str} (h : PyData.strOk z = true) (lo hi : Option Int) : PyData.strOk (cutS z lo hi) = true := by
  rw [strOk_iff] at *
  obtain ⟨i, j, e⟩ := cut_tl z lo hi
  intro c hc
  rw [e] at hc
  exact h c (List.mem_of_mem_drop (List.mem_of_mem_take hc))
theorem str_add (a b : Str) : (a ++ b).length = a.length + b.length := by
  rw [str_size, str_size, str_size, str_tl, List.length_append]
theorem Fine.app {a b : Str} {n m : Nat} (ha : PyData.strOk a = true) (la : a.length ≤ n) (hb : PyData.strOk b = true) (lb : b.length ≤ m) (h : n + m ≤ 1000) : Fine (a ++ b) :=
  ⟨by rw [str_add]; omega, strOk_app ha hb⟩
def Bad (z : Str) : Prop := Fine z ∧ isName z.cps.toList = false
@[irreducible] def overS : Str := " AZ_-.\t\n~{`\x40["
theorem overS_def : overS = " AZ_-.\t\n~{`\x40[" := by unfold overS; rfl
theorem over_len : overS.cps.toList.length = 13 := by rw [overS_def]; decide +kernel
theorem over_bad {c : Nat} (h : c ∈ overS.cps.toList) : signC c = false ∧ c < 0x110000 := by
  have h1 : overS.cps.toList.all (fun c => !signC c && decide (c < 0x110000)) = true := by rw [overS_def]; decide +kernel
  have := List.all_eq_true.mp h1 c h
  simpa using this
theorem getD_mem {l : List Nat} {n : Nat} {i : Int} (hl : l.length = n) (h0 : 0 ≤ i) (h1 : i < (n : Int)) : l.getD i.toNat 0 ∈ l := by
  have h : i.toNat < l.length := by omega
  rw [List.getD_eq_getElem?_getD, List.getElem?_eq_getElem h]
  exact List.getElem_mem h
theorem bad_empty : Bad ("" : Str) := ⟨⟨by decide +kernel, by decide +kernel⟩, by decide +kernel⟩
section
variable {nm : Str} (h : NameOk nm)
include h
theorem bad_nine : Bad (cutS (nm ++ "abcdefgh") none (some 9)) := by
  obtain ⟨h1, h2, h3⟩ := h
  have hp := (isName_pos h3).1
  have e8 : ("abcdefgh" : Str).length = 8 := by decide +kernel
  have l : (nm ++ "abcdefgh" : Str).length = nm.length + 8 := by rw [str_add, e8]
  have ok : PyData.strOk (nm ++ "abcdefgh") = true := strOk_app h2 (by decide +kernel)
  refine ⟨⟨Nat.le_trans (cut_size ..) (by omega), strOk_cut ok _ _⟩, isName_long ?_⟩
  have e : HT.sIx (nm ++ "abcdefgh" : Str).length (nm ++ "abcdefgh" : Str).length (some 9) = min 9 (nm.length + 8) := by
    rw [l]
    exact HT.sIx_nat _ _ 9
  have e0 : HT.sIx (nm ++ "abcdefgh" : Str).length 0 none = 0 := rfl
  unfold cutS
  rw [e, e0, List.drop_zero]
  simp only [List.toList_toArray]
  rw [List.length_take, ← str_size, l]
  have := str_size nm
  omega
theorem bad_first {x : Str} {c : Nat} (hx : x.cps.toList = [c]) (hc : smallC c = false) (ho : PyData.strOk x = true) : Bad (x ++ cutS nm (some 1) none) := by
  obtain ⟨h1, h2, h3⟩ := h
  refine ⟨Fine.app (n := 1) (m := 8) ho (by rw [str_size, hx]; simp) (strOk_cut h2 _ _) (Nat.le_trans (cut_size ..) h1) (by decide), ?_⟩
  rw [str_tl, hx]
  exact isName_head hc
theorem bad_over {c : Nat} (hc : c ∈ overS.cps.toList) (i j k l : Option Int) : Bad ((cutS nm i j ++ ⟨#[c]⟩) ++ cutS nm k l) := by
  obtain ⟨h1, h2, h3⟩ := h
  obtain ⟨b1, b2⟩ := over_bad hc
  have o1 : PyData.strOk (⟨#[c]⟩ : Str) = true := by rw [strOk_iff]; intro x hx; simp at hx; rw [hx]; exact b2
  refine ⟨Fine.app (n := 9) (m := 8) (strOk_app (strOk_cut h2 _ _) o1) ?_ (strOk_cut h2 _ _) (Nat.le_trans (cut_size ..) h1) (by decide), ?_⟩
  · rw [str_add]
    have := cut_size nm i j
    show _ + 1 ≤ 9
    omega
  · refine isName_bad (c := c) ?_ b1
    rw [str_tl, str_tl]
    simp
end
end Toll

set_option Elab.async false
set_option linter.all false
set_option maxRecDepth 100000
set_option maxHeartbeats 4000000
namespace Toll
open PySem L2
/-! ### askings of a net and a watch, and why they are refused -/
inductive A8 where
  | saw (c g : Str) (t : Int)
  | seen (c : Str)
  | forget (c : Str)
  | reached (g : Str) (l : Int)
  | leg (x y : Str) (l : Int)
  | guess (S : Addr) (ss : List (Int × Str))
def A8.vs : A8 → List V
  | .saw c g t => [.str "saw", .str c, .str g, .int t]
  | .seen c => [.str "seen", .str c]
  | .forget c => [.str "forget", .str c]
  | .reached g l => [.str "reached", .str g, .int l]
  | .leg x y l => [.str "leg", .str x, .str y, .int l]
  | .guess S _ => [.str "guess", .ref S]
def A8.lists (H : Hp) : A8 → Prop
  | .guess S ss => ∃ us, H S = some (.lst us) ∧ Paired (SeenV H) us ss
  | _ => True
theorem A8.lists.same {H H' : Hp} {a : A8} (s : Same H H') (h : a.lists H) : a.lists H' := by
  cases a with
  | guess S ss =>
    obtain ⟨us, h1, h2⟩ := h
    exact ⟨us, s _ _ h1, L2.Paired.mapP h2 fun _ _ ⟨t, e, ht⟩ => ⟨t, e, s _ _ ht⟩⟩
  | _ => exact h
def A8.fine : A8 → Prop
  | .saw c g t => Fine c ∧ Fine g ∧ t.natAbs < 2 ^ 1900
  | .seen c => Fine c
  | .forget c => Fine c
  | .reached g _ => Fine g
  | .leg x y _ => Fine x ∧ Fine y
  | .guess _ ss => ss.length ≤ 20 ∧ ∀ q ∈ ss, Fine q.2
def refusal8 (N : NetD) (W : List CarE) : A8 → Option Rf
  | .saw c g t => if isName c.cps.toList = false then some .NoName else match seesOf N.gates g with
    | none => some .NoGate
    | some false => some .Blind
    | some true => if ¬ (0 ≤ t ∧ t ≤ 1000000000) then some .NoTime else none
  | .seen c => match carOf W c with | none => some .NoCar | some _ => none
  | .forget c => match carOf W c with | none => some .NoCar | some _ => none
  | .reached g l => if seesOf N.gates g = none then some .NoGate else if l < 0 then some .NoNumber else none
  | .leg x y l => if seesOf N.gates x = none then some .NoGate else if seesOf N.gates y = none then some .NoGate else if l < 0 then some .NoNumber else none
  | .guess _ ss => if ss = [] then some .NoSight else match seenRef N 0 ss with
    | some true => some .NoGate
    | some false => some .NoTime
    | none => none
/-- what is to be said of the net where an asking is done -/
def A8.able (N : NetD) : A8 → Prop
  | .reached g l => ∃ u, Few N g l u
  | .leg x _ l => ∃ u, Few N x l u
  | .guess _ ss => ∀ i a b, ss[i]? = some a → ss[i + 1]? = some b → seesOf N.gates a.2 ≠ none ∧ seesOf N.gates b.2 ≠ none ∧ a.1 ≤ b.1 ∧ ∃ u, Few N a.2 (b.1 - a.1) u
  | _ => True
section
variable {N : NetD} {W : List CarE}
theorem r8_saw0 {c g : Str} {t : Int} (h : isName c.cps.toList = false) : refusal8 N W (.saw c g t) = some .NoName := if_pos h
theorem r8_saw (c g : Str) (t : Int) (h : isName c.cps.toList = true) : refusal8 N W (.saw c g t) = (match seesOf N.gates g with
    | none => some .NoGate
    | some false => some .Blind
    | some true => if ¬ (0 ≤ t ∧ t ≤ 1000000000) then some .NoTime else none) := if_neg (by rw [h]; simp)
theorem r8_saw1 {c g : Str} {t : Int} (h : isName c.cps.toList = true) (hs : seesOf N.gates g = none) : refusal8 N W (.saw c g t) = some .NoGate := by rw [r8_saw c g t h, hs]
theorem r8_saw2 {c g : Str} {t : Int} (h : isName c.cps.toList = true) (hs : seesOf N.gates g = some false) : refusal8 N W (.saw c g t) = some .Blind := by rw [r8_saw c g t h, hs]
theorem r8_saw3 {c g : Str} {t : Int} (h : isName c.cps.toList = true) (hs : seesOf N.gates g = some true) (ht : ¬ (0 ≤ t ∧ t ≤ 1000000000)) : refusal8 N W (.saw c g t) = some .NoTime := by
  rw [r8_saw c g t h, hs]
  exact if_pos ht
theorem r8_saw4 {c g : Str} {t : Int} (h : isName c.cps.toList = true) (hs : seesOf N.gates g = some true) (ht : 0 ≤ t ∧ t ≤ 1000000000) : refusal8 N W (.saw c g t) = none := by
  rw [r8_saw c g t h, hs]
  exact if_neg fun z => z ht
theorem r8_seen0 {c : Str} (h : carOf W c = none) : refusal8 N W (.seen c) = some .NoCar := by
  show (match carOf W c with | none => some Rf.NoCar | some _ => none) = _
  rw [h]
theorem r8_seen1 {c : Str} {e : CarE} (h : carOf W c = some e) : refusal8 N W (.seen c) = none := by
  show (match carOf W c with | none => some Rf.NoCar | some _ => none) = _
  rw [h]
theorem r8_forget0 {c : Str} (h : carOf W c = none) : refusal8 N W (.forget c) = some .NoCar := by
  show (match carOf W c with | none => some Rf.NoCar | some _ => none) = _
  rw [h]
theorem r8_forget1 {c : Str} {e : CarE} (h : carOf W c = some e) : refusal8 N W (.forget c) = none := by
  show (match carOf W c with | none => some Rf.NoCar | some _ => none) = _
  rw [h]
theorem r8_guess (S : Addr) {ss : List (Int × Str)} (h : ss ≠ []) : refusal8 N W (.guess S ss) = (match seenRef N 0 ss with
    | some true => some .NoGate
    | some false => some .NoTime
    | none => none) := if_neg h
theorem r8_guess0 {S : Addr} {ss : List (Int × Str)} (h : ss = []) : refusal8 N W (.guess S ss) = some .NoSight := if_pos h
theorem r8_guess1 {S : Addr} {ss : List (Int × Str)} (h : ss ≠ []) (e : seenRef N 0 ss = some true) : refusal8 N W (.guess S ss) = some .NoGate := by rw [r8_guess S h, e]
theorem r8_guess2 {S : Addr} {ss : List (Int × Str)} (h : ss ≠ []) (e : seenRef N 0 ss = some false) : refusal8 N W (.guess S ss) = some .NoTime := by rw [r8_guess S h, e]
theorem r8_guess3 {S : Addr} {ss : List (Int × Str)} (h : ss ≠ []) (e : seenRef N 0 ss = none) : refusal8 N W (.guess S ss) = none := by rw [r8_guess S h, e]
theorem seenRef_head {ah : Int} {q : Int × Str} {r : List (Int × Str)} : seenRef N ah (q :: r) = if seesOf N.gates q.2 = none then some true else if q.1 < ah then some false else seenRef N q.1 r := rfl
/-- a list that is let by: all its gates are there, its times rise -/
theorem seenRef_rise : ∀ (ss : List (Int × Str)) (ah : Int), seenRef N ah ss = none → (∀ q ∈ ss, seesOf N.gates q.2 ≠ none) ∧ ∀ i a b, ss[i]? = some a → ss[i + 1]? = some b → a.1 ≤ b.1
  | [], _, _ => ⟨fun q h => (by cases h), fun i a b h => (by simp at h)⟩
  | q :: r, ah, h => by
    rw [seenRef_head] at h
    split at h
    · cases h
    · rename_i h1
      split at h
      · cases h
      · obtain ⟨i1, i2⟩ := seenRef_rise r q.1 h
        refine ⟨fun x hx => ?_, fun i a b ha hb => ?_⟩
        · rcases List.mem_cons.mp hx with rfl | hx
          · exact h1
          · exact i1 x hx
        · cases i with
          | succ i => exact i2 i a b ha hb
          | zero =>
            obtain rfl : q = a := Option.some.inj ha
            cases r with
            | nil => cases hb
            | cons b' r' =>
              obtain rfl : b' = b := Option.some.inj hb
              rw [seenRef_head] at h
              split at h
              · cases h
              · split at h
                · cases h
                · omega
theorem seenRef_all : ∀ (ss : List (Int × Str)) (ah : Int), (∀ q ∈ ss, seesOf N.gates q.2 ≠ none) → seenRef N ah ss ≠ some true
  | [], _, _ => by simp [seenRef]
  | q :: r, ah, h => by
    rw [seenRef_head, if_neg (h q (List.mem_cons_self ..))]
    split
    · simp
    · exact seenRef_all r q.1 fun x hx => h x (List.mem_cons_of_mem _ hx)
end
/-! ### the net and the watch of each group -/
structure Like8 (n0 n1 n2 : Str) (N : NetD) : Prop where
  s0 : seesOf N.gates n0 = some true
  s1 : seesOf N.gates n1 = some false
  s2 : seesOf N.gates n2 = none
def base8 (n0 n1 : Str) : NetD := ⟨[(n0, true), (n1, false)], [⟨n0, n1, 3, 4, true⟩, ⟨n1, n0, 5, 6, true⟩]⟩
theorem base8_like {n0 n1 n2 : Str} (h01 : n0 ≠ n1) (h02 : n0 ≠ n2) (h12 : n1 ≠ n2) : Like8 n0 n1 n2 (base8 n0 n1) := by
  refine ⟨?_, ?_, ?_⟩
  · simp [base8, seesOf]
  · simp [base8, seesOf, h01]
  · simp [base8, seesOf, h02, h12]
/-- the list of sightings that is drawn first -/
def rowS (n0 n1 : Str) (k : Nat) : List (Int × Str) := (List.range k).map fun i : Nat => (10 * (i : Int), if i % 2 = 0 then n0 else n1)
def ahS (k : Nat) : Int := if k = 0 then 0 else 10 * ((k : Int) - 1)
section
variable {n0 n1 n2 : Str} {N : NetD}
theorem rowS_succ (n0 n1 : Str) (k : Nat) : rowS n0 n1 (k + 1) = rowS n0 n1 k ++ [(10 * (k : Int), if k % 2 = 0 then n0 else n1)] := by simp [rowS, List.range_succ]
theorem rowS_len (n0 n1 : Str) (k : Nat) : (rowS n0 n1 k).length = k := by simp [rowS]
theorem rowS_get (n0 n1 : Str) {k i : Nat} (h : i < k) : (rowS n0 n1 k)[i]? = some (10 * (i : Int), if i % 2 = 0 then n0 else n1) := by
  unfold rowS
  rw [List.getElem?_map, List.getElem?_range h]
  rfl
theorem seenRef_row (h0 : seesOf N.gates n0 ≠ none) (h1 : seesOf N.gates n1 ≠ none) : ∀ (k : Nat) (T : List (Int × Str)), seenRef N 0 (rowS n0 n1 k ++ T) = seenRef N (ahS k) T
  | 0, T => rfl
  | k + 1, T => by
    rw [rowS_succ, List.append_assoc, seenRef_row h0 h1 k, List.singleton_append, seenRef_head, if_neg, if_neg]
    · show seenRef N (10 * (k : Int)) T = seenRef N (if k + 1 = 0 then 0 else 10 * (((k + 1 : Nat) : Int) - 1)) T
      rw [if_neg (by omega : ¬ k + 1 = 0)]
      congr 1
      omega
    · unfold ahS
      show ¬ 10 * (k : Int) < _
      split <;> omega
    · show ¬ seesOf N.gates (if k % 2 = 0 then n0 else n1) = none
      split
      · exact h0
      · exact h1
theorem rowS_set (n0 n1 : Str) {k at' : Nat} (h : at' < k) (q : Int × Str) : (rowS n0 n1 k).set at' q = rowS n0 n1 at' ++ q :: (rowS n0 n1 k).drop (at' + 1) := by
  rw [List.set_eq_take_append_cons_drop, if_pos (by rw [rowS_len]; exact h)]
  congr 1
  unfold rowS
  rw [← List.map_take, List.take_range, Nat.min_eq_left (Nat.le_of_lt h)]
end
/-! ### the askings that the law draws -/
structure Gss (n0 n1 n2 : Str) (ss : List (Int × Str)) : Prop where
  ne : ss ≠ []
  len : ss.length ≤ 20
  nm : ∀ q ∈ ss, q.2 = n0 ∨ q.2 = n1 ∨ q.2 = n2
  gap : ∀ i a b, ss[i]? = some a → ss[i + 1]? = some b → b.1 - a.1 ≤ 64
inductive K8 (n0 n1 n2 c3 c5 : Str) : A8 → Rf → Prop where
  | s0 {z g : Str} {t : Int} (h : Bad z) (hg : g = n0 ∨ g = n2) (ht : t.natAbs < 2 ^ 1900) : K8 n0 n1 n2 c3 c5 (.saw z g t) .NoName
  | s1 {t : Int} (ht : t.natAbs < 2 ^ 1900) : K8 n0 n1 n2 c3 c5 (.saw c3 n2 t) .NoGate
  | s2 {t : Int} (ht : t.natAbs < 2 ^ 1900) : K8 n0 n1 n2 c3 c5 (.saw c3 n1 t) .Blind
  | s3 {t : Int} (ht : t.natAbs < 2 ^ 1900) (h : ¬ (0 ≤ t ∧ t ≤ 1000000000)) : K8 n0 n1 n2 c3 c5 (.saw c3 n0 t) .NoTime
  | c1 : K8 n0 n1 n2 c3 c5 (.seen c5) .NoCar
  | c2 : K8 n0 n1 n2 c3 c5 (.forget c5) .NoCar
  | r1 {l : Int} (h : l < 0) : K8 n0 n1 n2 c3 c5 (.reached n0 l) .NoNumber
  | r2 {l : Int} (h : l ≤ 64) : K8 n0 n1 n2 c3 c5 (.reached n2 l) .NoGate
  | l1 {l : Int} (h : l < 0) : K8 n0 n1 n2 c3 c5 (.leg n2 n0 l) .NoGate
  | l2 {l : Int} (h : l < 0) : K8 n0 n1 n2 c3 c5 (.leg n0 n2 l) .NoGate
  | l3 {l : Int} (h : l < 0) : K8 n0 n1 n2 c3 c5 (.leg n0 n1 l) .NoNumber
  | g0 {S : Addr} : K8 n0 n1 n2 c3 c5 (.guess S []) .NoSight
  | g1 {S : Addr} {ss : List (Int × Str)} (h : Gss n0 n1 n2 ss) (r : ∀ N, Like8 n0 n1 n2 N → seenRef N 0 ss = some true) : K8 n0 n1 n2 c3 c5 (.guess S ss) .NoGate
  | g2 {S : Addr} {ss : List (Int × Str)} (h : Gss n0 n1 n2 ss) (r : ∀ N, Like8 n0 n1 n2 N → seenRef N 0 ss = some false) : K8 n0 n1 n2 c3 c5 (.guess S ss) .NoTime
section
variable {n0 n1 n2 c3 c5 : Str} {N : NetD} {W : List CarE} {a : A8} {c : Rf}
theorem K8.refusal (k : K8 n0 n1 n2 c3 c5 a c) (h : Like8 n0 n1 n2 N) (o3 : NameOk c3) (hW : carOf W c5 = none) : refusal8 N W a = some c := by
  cases k with
  | s0 z => exact r8_saw0 z.2
  | s1 => exact r8_saw1 o3.2.2 h.s2
  | s2 => exact r8_saw2 o3.2.2 h.s1
  | s3 _ z => exact r8_saw3 o3.2.2 h.s0 z
  | c1 => exact r8_seen0 hW
  | c2 => exact r8_forget0 hW
  | r1 z => exact (if_neg (by rw [h.s0]; simp)).trans (if_pos z)
  | r2 => exact if_pos h.s2
  | l1 => exact if_pos h.s2
  | l2 => exact (if_neg (by rw [h.s0]; simp)).trans (if_pos h.s2)
  | l3 z => exact (if_neg (by rw [h.s0]; simp)).trans ((if_neg (by rw [h.s1]; simp)).trans (if_pos z))
  | g0 => exact r8_guess0 rfl
  | g1 g r => exact r8_guess1 g.ne (r N h)
  | g2 g r => exact r8_guess2 g.ne (r N h)
theorem nameOk_fine8 {z : Str} (h : NameOk z) : Fine z := ⟨Nat.le_trans h.1 (by decide), h.2.1⟩
theorem Gss.fine {ss : List (Int × Str)} (g : Gss n0 n1 n2 ss) (h : NameOk n0 ∧ NameOk n1 ∧ NameOk n2) : ∀ q ∈ ss, Fine q.2 := fun q hq => by
  rcases g.nm q hq with e | e | e <;> rw [e]
  · exact nameOk_fine8 h.1
  · exact nameOk_fine8 h.2.1
  · exact nameOk_fine8 h.2.2
theorem K8.fine (k : K8 n0 n1 n2 c3 c5 a c) (h : NameOk n0 ∧ NameOk n1 ∧ NameOk n2) (o3 : NameOk c3) (o5 : NameOk c5) : a.fine := by
  have f0 := nameOk_fine8 h.1
  have f1 := nameOk_fine8 h.2.1
  have f2 := nameOk_fine8 h.2.2
  have f3 := nameOk_fine8 o3
  have f5 := nameOk_fine8 o5
  cases k with
  | s0 z hg ht =>
    refine ⟨z.1, ?_, ht⟩
    rcases hg with rfl | rfl
    · exact f0
    · exact f2
  | s1 ht => exact ⟨f3, f2, ht⟩
  | s2 ht => exact ⟨f3, f1, ht⟩
  | s3 ht _ => exact ⟨f3, f0, ht⟩
  | c1 => exact f5
  | c2 => exact f5
  | r1 => exact f0
  | r2 => exact f2
  | l1 => exact ⟨f2, f0⟩
  | l2 => exact ⟨f0, f2⟩
  | l3 => exact ⟨f0, f1⟩
  | g0 => exact ⟨by simp, fun q hq => (by cases hq)⟩
  | g1 g r => exact ⟨g.len, g.fine h⟩
  | g2 g r => exact ⟨g.len, g.fine h⟩
/-- what becomes of an asking that is made good -/
def Okay8 (N : NetD) (W : List CarE) (a : A8) : Prop := refusal8 N W a = none ∧ a.able N ∨ refusal8 N W a = some .NoTime ∨ refusal8 N W a = some .NoNumber
theorem saw_okay {g : Str} {t : Int} (o3 : NameOk c3) (hs : seesOf N.gates g = some true) : Okay8 N W (.saw c3 g t) := by
  by_cases z : 0 ≤ t ∧ t ≤ 1000000000
  · exact .inl ⟨r8_saw4 o3.2.2 hs z, trivial⟩
  · exact .inr (.inl (r8_saw3 o3.2.2 hs z))
theorem K8.gated (k : K8 n0 n1 n2 c3 c5 a .NoGate) (o3 : NameOk c3) (h0 : seesOf N.gates n0 ≠ none) (h1 : seesOf N.gates n1 ≠ none) (h2 : seesOf N.gates n2 = some true) (few : ∀ g l, l ≤ 64 → Few N g l 1) : Okay8 N W a := by
  have h2' : seesOf N.gates n2 ≠ none := by rw [h2]; simp
  cases k with
  | s1 => exact saw_okay o3 h2
  | @r2 l z =>
    by_cases y : l < 0
    · exact .inr (.inr ((if_neg h2').trans (if_pos y)))
    · exact .inl ⟨(if_neg h2').trans (if_neg y), _, few _ _ z⟩
  | l1 z => exact .inr (.inr ((if_neg h2').trans ((if_neg h0).trans (if_pos z))))
  | l2 z => exact .inr (.inr ((if_neg h0).trans ((if_neg h2').trans (if_pos z))))
  | @g1 S ss g r =>
    have all : ∀ q ∈ ss, seesOf N.gates q.2 ≠ none := fun q hq => by
      rcases g.nm q hq with e | e | e <;> rw [e]
      · exact h0
      · exact h1
      · exact h2'
    cases e : seenRef N 0 ss with
    | some b =>
      cases b with
      | true => exact absurd e (seenRef_all ss 0 all)
      | false => exact .inr (.inl (r8_guess2 g.ne e))
    | none =>
      refine .inl ⟨r8_guess3 g.ne e, fun i x y hx hy => ⟨all x (List.mem_of_getElem? hx), all y (List.mem_of_getElem? hy), (seenRef_rise ss 0 e).2 i x y hx hy, 1, few _ _ (g.gap i x y hx hy)⟩⟩
theorem base8_few {gs : List (Str × Bool)} (h : (∃ c, (n0, c) ∈ gs) ∧ ∃ c, (n1, c) ∈ gs) (ne : n0 ≠ n1) (g : Str) (l : Int) (hl : l ≤ 64) : Few ⟨gs, (base8 n0 n1).roads⟩ g l 1 := by
  refine few_of g (by decide) (fun r hr => ?_) (by omega)
  simp only [base8, List.mem_cons, List.not_mem_nil, or_false] at hr
  rcases hr with rfl | rfl
  · exact ⟨h.1, h.2, ne, ⟨3, by decide, by decide, rfl⟩, by show (0 : Int) ≤ 4; decide, by show (4 : Int) ≤ 1000000; decide⟩
  · exact ⟨h.2, h.1, ne.symm, ⟨5, by decide, by decide, rfl⟩, by show (0 : Int) ≤ 6; decide, by show (6 : Int) ≤ 1000000; decide⟩
theorem base8_ok {gs : List (Str × Bool)} (h : (∃ c, (n0, c) ∈ gs) ∧ ∃ c, (n1, c) ∈ gs) (nd : (gs.map (·.1)).Nodup) (ne : n0 ≠ n1) : NetOk ⟨gs, (base8 n0 n1).roads⟩ := by
  have s0 : seesOf gs n0 ≠ none := by obtain ⟨c, hc⟩ := h.1; exact sees_mem hc
  have s1 : seesOf gs n1 ≠ none := by obtain ⟨c, hc⟩ := h.2; exact sees_mem hc
  have two : ∀ r ∈ (base8 n0 n1).roads, r = ⟨n0, n1, 3, 4, true⟩ ∨ r = ⟨n1, n0, 5, 6, true⟩ := fun r hr => by
    simpa only [base8, List.mem_cons, List.not_mem_nil, or_false] using hr
  refine ⟨nd, fun r hr => ?_, fun r hr => ?_, fun r hr => ?_, fun r hr => ?_⟩
  · rcases two r hr with rfl | rfl
    · show (1 : Int) ≤ 3; decide
    · show (1 : Int) ≤ 5; decide
  · rcases two r hr with rfl | rfl
    · show (0 : Int) ≤ 4; decide
    · show (0 : Int) ≤ 6; decide
  · rcases two r hr with rfl | rfl
    · exact s0
    · exact s1
  · rcases two r hr with rfl | rfl
    · exact s1
    · exact s0
end
theorem bad_dash {nm : Str} (h : NameOk nm) : Bad (nm ++ "-") := by
  have e1 : ("-" : Str).length = 1 := by decide +kernel
  refine ⟨Fine.app (n := 8) (m := 1) h.2.1 h.1 (by decide +kernel) (by omega) (by decide), isName_bad (c := 45) ?_ (by decide)⟩
  rw [str_tl]
  exact List.mem_append_right _ (by decide +kernel)
theorem abs_small {t : Int} (h0 : -2000000000 ≤ t) (h1 : t ≤ 2000000000) : t.natAbs < 2 ^ 1900 := Nat.lt_of_le_of_lt (show t.natAbs ≤ 2000000000 by omega) (by decide +kernel)
section
variable {n0 n1 n2 : Str}
theorem gss_of {ss : List (Int × Str)} (ne : ss ≠ []) (len : ss.length ≤ 20) (h : ∀ (i : Nat) q, ss[i]? = some q → (q.2 = n0 ∨ q.2 = n1 ∨ q.2 = n2) ∧ q.1 ≤ 10 * (i : Int) ∧ (i + 1 < ss.length → 10 * (i : Int) - 54 ≤ q.1)) : Gss n0 n1 n2 ss := by
  refine ⟨ne, len, fun q hq => ?_, fun i a b ha hb => ?_⟩
  · obtain ⟨i, hi⟩ := List.getElem?_of_mem hq
    exact (h i q hi).1
  · have hlt := (List.getElem?_eq_some_iff.mp hb).1
    have h1 := (h i a ha).2.2 hlt
    have h2 := (h (i + 1) b hb).2.1
    push_cast at h2
    omega
theorem rowS_at {k i : Nat} {q : Int × Str} (h : (rowS n0 n1 k)[i]? = some q) : i < k ∧ q.1 = 10 * (i : Int) ∧ (q.2 = n0 ∨ q.2 = n1) := by
  have hlt := (List.getElem?_eq_some_iff.mp h).1
  rw [rowS_len] at hlt
  rw [rowS_get n0 n1 hlt] at h
  obtain rfl := Option.some.inj h
  refine ⟨hlt, rfl, ?_⟩
  show (if i % 2 = 0 then n0 else n1) = n0 ∨ (if i % 2 = 0 then n0 else n1) = n1
  split
  · exact .inl rfl
  · exact .inr rfl
theorem rowSet_at {k at' i : Nat} {x q : Int × Str} (h : ((rowS n0 n1 k).set at' x)[i]? = some q) : i < k ∧ ((i = at' ∧ q = x) ∨ (q.1 = 10 * (i : Int) ∧ (q.2 = n0 ∨ q.2 = n1))) := by
  have hlt := (List.getElem?_eq_some_iff.mp h).1
  rw [List.length_set, rowS_len] at hlt
  refine ⟨hlt, ?_⟩
  rw [List.getElem?_set] at h
  split at h
  · rename_i e
    rw [if_pos (by rw [rowS_len]; omega)] at h
    exact .inl ⟨e.symm, (Option.some.inj h).symm⟩
  · exact .inr (rowS_at h).2
theorem app_at {l : List (Int × Str)} {y q : Int × Str} {i : Nat} (h : (l ++ [y])[i]? = some q) : (i < l.length ∧ l[i]? = some q) ∨ (i = l.length ∧ q = y) := by
  by_cases hi : i < l.length
  · rw [List.getElem?_append_left hi] at h
    exact .inl ⟨hi, h⟩
  · rw [List.getElem?_append_right (by omega)] at h
    by_cases e : i - l.length = 0
    · rw [e] at h
      exact .inr ⟨by omega, (Option.some.inj h).symm⟩
    · rw [List.getElem?_eq_none (by simp; omega)] at h
      cases h
theorem rowSet_ne {k at' : Nat} (hk : 0 < k) (x : Int × Str) : (rowS n0 n1 k).set at' x ≠ [] := fun z => by
  have := congrArg List.length z
  rw [List.length_set, rowS_len] at this
  simp at this
  omega
theorem set_gss {k at' : Nat} {x : Int × Str} (hk : 0 < k) (h6 : k ≤ 6) (hx : (x.2 = n0 ∨ x.2 = n1 ∨ x.2 = n2) ∧ x.1 ≤ 10 * (at' : Int) ∧ 10 * (at' : Int) - 54 ≤ x.1) : Gss n0 n1 n2 ((rowS n0 n1 k).set at' x) := by
  refine gss_of (rowSet_ne hk x) (by rw [List.length_set, rowS_len]; omega) fun i q h => ?_
  obtain ⟨_, ⟨rfl, rfl⟩ | ⟨e1, e2⟩⟩ := rowSet_at h
  · exact ⟨hx.1, hx.2.1, fun _ => hx.2.2⟩
  · refine ⟨?_, by omega, fun _ => by omega⟩
    rcases e2 with e | e
    · exact .inl e
    · exact .inr (.inl e)
theorem app_gss {k : Nat} {x y : Int × Str} (hk : 0 < k) (h6 : k ≤ 6) (hx : (x.2 = n0 ∨ x.2 = n1 ∨ x.2 = n2) ∧ x.1 ≤ 0 ∧ -54 ≤ x.1) (hy : (y.2 = n0 ∨ y.2 = n1 ∨ y.2 = n2) ∧ y.1 ≤ 10 * (k : Int)) : Gss n0 n1 n2 ((rowS n0 n1 k).set 0 x ++ [y]) := by
  refine gss_of (by simp) (by rw [List.length_append, List.length_set, rowS_len]; simp; omega) fun i q h => ?_
  rw [List.length_append, List.length_set, rowS_len]
  rcases app_at h with ⟨_, h⟩ | ⟨e, rfl⟩
  · obtain ⟨_, ⟨rfl, rfl⟩ | ⟨e1, e2⟩⟩ := rowSet_at h
    · exact ⟨hx.1, hx.2.1, fun _ => by have := hx.2.2; omega⟩
    · refine ⟨?_, by omega, fun _ => by omega⟩
      rcases e2 with e | e
      · exact .inl e
      · exact .inr (.inl e)
  · rw [List.length_set, rowS_len] at e
    refine ⟨hy.1, by rw [e]; exact hy.2, fun z => ?_⟩
    simp at z
    omega
section
variable {N : NetD} (L : Like8 n0 n1 n2 N)
include L
theorem ref_gate {k at' : Nat} (h : at' < k) (x : Int) : seenRef N 0 ((rowS n0 n1 k).set at' (x, n2)) = some true := by
  rw [rowS_set n0 n1 h, seenRef_row (by rw [L.s0]; simp) (by rw [L.s1]; simp), seenRef_head, if_pos L.s2]
theorem ref_gate0 {k : Nat} (h : 0 < k) (y : Int × Str) : seenRef N 0 ((rowS n0 n1 k).set 0 (0, n2) ++ [y]) = some true := by
  rw [rowS_set n0 n1 h]
  show seenRef N 0 ((0, n2) :: _) = _
  rw [seenRef_head, if_pos L.s2]
theorem ref_time {k at' : Nat} (h : at' < k) {x : Int} (nm : Str) (hn : nm = n0 ∨ nm = n1) (hx : x < ahS at') : seenRef N 0 ((rowS n0 n1 k).set at' (x, nm)) = some false := by
  rw [rowS_set n0 n1 h, seenRef_row (by rw [L.s0]; simp) (by rw [L.s1]; simp), seenRef_head, if_neg, if_pos hx]
  show ¬ seesOf N.gates nm = none
  rcases hn with rfl | rfl
  · rw [L.s0]; simp
  · rw [L.s1]; simp
theorem ref_time0 {k : Nat} (h : 0 < k) {x : Int} (hx : x < 0) (y : Int × Str) : seenRef N 0 ((rowS n0 n1 k).set 0 (x, n0) ++ [y]) = some false := by
  rw [rowS_set n0 n1 h]
  show seenRef N 0 ((x, n0) :: _) = _
  rw [seenRef_head, if_neg (by show ¬ seesOf N.gates n0 = none; rw [L.s0]; simp), if_pos hx]
end
end
theorem seen_upd {H : Hp} {D : Addr} {xs : List V} {o : HO} (hD : H D = some (.lst xs)) {us : List V} {ss : List (Int × Str)} (h : Paired (SeenV H) us ss) : Paired (SeenV (upd H D o)) us ss := L2.Paired.mapP h fun _ _ ⟨t, e, ht⟩ => ⟨t, e, by
  have : t ≠ D := fun z => by rw [z, hD] at ht; cases ht
  rw [upd_ne this]
  exact ht⟩
end Toll

set_option Elab.async false
set_option maxRecDepth 100000
set_option maxHeartbeats 4000000
namespace Toll
open PySem L2 PyProof.Rows PySem.Spec
theorem hu65_of {k : Nat} {A : Around} (r : Room k A) : A.units + 65 < cLine := by
  have := r.un
  omega
/-! ### sorted texts -/
theorem rising_pw : ∀ (l : List Str) (p : Str), risingS p l = true → (p :: l).Pairwise (fun a b => a.cps.toList ≤ b.cps.toList)
  | [], p, _ => by simp
  | x :: r, p, h => by
    have h : (!ltCps x.cps.toList p.cps.toList && risingS x r) = true := h
    rw [Bool.and_eq_true] at h
    have ih := rising_pw r x h.2
    have e : p.cps.toList ≤ x.cps.toList := by
      have h1 := h.1
      rw [ltCps_eq] at h1
      have h2 : ¬ x.cps.toList < p.cps.toList := by simpa using h1
      exact List.not_lt.mp h2
    refine List.pairwise_cons.mpr ⟨fun y hy => ?_, ih⟩
    rcases List.mem_cons.mp hy with rfl | hy
    · exact e
    · exact List.le_trans e ((List.pairwise_cons.mp ih).1 y hy)
theorem sorted_pw : ∀ (l : List Str), sortedS l = true → l.Pairwise (fun a b => a.cps.toList ≤ b.cps.toList)
  | [], _ => List.Pairwise.nil
  | x :: r, h => rising_pw r x h
theorem str_cps {a b : Str} (h : a.cps.toList = b.cps.toList) : a = b := by
  cases a
  cases b
  congr 1
  exact Array.toList_inj.mp h
theorem sorted_one {ys zs : List Str} (a : sortedS ys = true) (b : sortedS zs = true) (p : ys.Perm zs) : ys = zs :=
  List.Perm.eq_of_pairwise (fun _ _ _ _ h h' => str_cps (List.le_antisymm h h')) (sorted_pw ys a) (sorted_pw zs b) p
/-! ### the law's own account of a watch -/
def OwnE (H : Hp) (kv : Key × V) (e : CarE) : Prop := kv.1 = Sum.inr e.car ∧ ∃ a us, kv.2 = .ref a ∧ H a = some (.lst us) ∧ Paired (SeenV H) us e.ss
theorem OwnE.same {H H' : Hp} {kv : Key × V} {e : CarE} (s : Same H H') (h : OwnE H kv e) : OwnE H' kv e := by
  obtain ⟨h1, a, us, h2, h3, h4⟩ := h
  exact ⟨h1, a, us, h2, s _ _ h3, seen_same s h4⟩
theorem OwnE.keep {S : List Addr} {H H' : Hp} {kv : Key × V} {e : CarE} (k : Keep S H H') (hS : ∀ x ∈ S, ∀ xs, H x ≠ some (.lst xs) ∧ H x ≠ some (.tup xs)) (h : OwnE H kv e) : OwnE H' kv e := by
  obtain ⟨h1, a, us, h2, h3, h4⟩ := h
  exact ⟨h1, a, us, h2, k _ _ h3 (fun m => (hS _ m _).1 h3), L2.Paired.mapP h4 fun _ _ ⟨t, e, ht⟩ => ⟨t, e, k _ _ ht fun m => (hS _ m _).2 ht⟩⟩
theorem own_keys {H : Hp} {kvs : List (Key × V)} {W : List CarE} (h : Paired (OwnE H) kvs W) : kvs.map (·.1) = (W.map (·.car)).map Sum.inr := by
  induction h with
  | nil => rfl
  | cons a _ ih => rw [List.map_cons, List.map_cons, List.map_cons, ih, a.1]
theorem own_none {H : Hp} {kvs : List (Key × V)} {W : List CarE} (h : Paired (OwnE H) kvs W) {c : Str} (hc : carOf W c = none) : valV kvs (Sum.inr c : Key) = none := by
  induction h with
  | nil => rfl
  | @cons kv e kvs W a _ ih =>
    have n := carOf_none hc
    rw [valV_neg (fun z => n e (by simp) (key_inr.mp (a.1.symm.trans z)))]
    refine ih ?_
    unfold carOf at hc ⊢
    rw [List.find?_cons_of_neg (by simpa using n e (by simp))] at hc
    exact hc
theorem own_some {H : Hp} {kvs : List (Key × V)} {W : List CarE} (h : Paired (OwnE H) kvs W) {c : Str} {e : CarE} (hc : carOf W c = some e) : ∃ a us, valV kvs (Sum.inr c : Key) = some (.ref a) ∧ H a = some (.lst us) ∧ Paired (SeenV H) us e.ss := by
  induction h with
  | nil => cases hc
  | @cons kv e0 kvs W a _ ih =>
    by_cases z : e0.car = c
    · unfold carOf at hc
      rw [List.find?_cons_of_pos (by simpa using z)] at hc
      obtain rfl := Option.some.inj hc
      obtain ⟨h1, b, us, h2, h3, h4⟩ := a
      refine ⟨b, us, ?_, h3, h4⟩
      rw [valV_pos (h1.trans (key_inr.mpr z)), h2]
    · rw [valV_neg (fun y => z (key_inr.mp (a.1.symm.trans y)))]
      refine ih ?_
      unfold carOf at hc ⊢
      rw [List.find?_cons_of_neg (by simpa using z)] at hc
      exact hc
theorem own_drop {H : Hp} {kvs : List (Key × V)} {W : List CarE} (h : Paired (OwnE H) kvs W) (c : Str) : Paired (OwnE H) (dropK kvs (Sum.inr c : Key)) (W.filter fun e => decide (e.car ≠ c)) := by
  induction h with
  | nil => exact .nil
  | @cons kv e kvs W a _ ih =>
    unfold dropK at ih ⊢
    by_cases z : e.car = c
    · rw [List.filter_cons_of_neg (by rw [a.1]; simpa [key_inr] using z), List.filter_cons_of_neg (by simpa using z)]
      exact ih
    · rw [List.filter_cons_of_pos (by rw [a.1]; simpa [key_inr] using z), List.filter_cons_of_pos (by simpa using z)]
      exact .cons a ih
theorem paired_snoc {α β : Type} {F : α → β → Prop} {x : α} {y : β} (r : F x y) : ∀ {l : List α} {m : List β}, Paired F l m → Paired F (l ++ [x]) (m ++ [y])
  | _, _, .nil => .cons r .nil
  | _, _, .cons a b => .cons a (paired_snoc r b)
theorem own_add {H : Hp} {kvs : List (Key × V)} {W : List CarE} (h : Paired (OwnE H) kvs W) {c : Str} (hc : carOf W c = none) {a d : Addr} {us : List V} {ss : List (Int × Str)} (ha : H a = some (.lst us)) (hp : Paired (SeenV H) us ss) :
    Paired (OwnE H) (putK kvs (Sum.inr c : Key) (.ref a)) (W ++ [⟨c, d, ss⟩]) := by
  rw [putK_new _ (own_none h hc)]
  exact paired_snoc ⟨rfl, a, us, rfl, ha, hp⟩ h
theorem own_set {H : Hp} {kvs : List (Key × V)} {W : List CarE} (h : Paired (OwnE H) kvs W) {c : Str} {e0 : CarE} (hc : carOf W c = some e0) {a : Addr} {us : List V} {ss : List (Int × Str)} (ha : H a = some (.lst us)) (hp : Paired (SeenV H) us ss) :
    Paired (OwnE H) (putK kvs (Sum.inr c : Key) (.ref a)) (setSs W c ss) := by
  obtain ⟨b, vs, hb, _⟩ := own_some h hc
  unfold putK
  rw [if_pos (by rw [valV_any, hb]; rfl)]
  unfold setSs
  clear hb hc
  induction h with
  | nil => exact .nil
  | @cons kv e kvs W r _ ih =>
    rw [List.map_cons, List.map_cons]
    refine .cons ?_ ih
    by_cases z : e.car = c
    · rw [if_pos z, if_pos (r.1.trans (key_inr.mpr z))]
      exact ⟨r.1, a, us, rfl, ha, hp⟩
    · rw [if_neg z, if_neg (fun y => z (key_inr.mp (r.1.symm.trans y)))]
      exact r

def OwnW (H : Hp) (o K : Addr) (W : List CarE) : Prop := ∃ kvs, H o = some (.dK kvs) ∧ Paired (OwnE H) kvs W ∧ ∀ kv ∈ kvs, kv.2 ≠ .ref K
structure Acc (C : Addr) (H : Hp) (p n sd o K : Addr) (W : List CarE) : Prop where
  wt : WatchAt C H p n sd W
  ow : OwnW H o K W
  ss : ∀ e ∈ W, ∀ q ∈ e.ss, NameOk q.2
  ap : sd ≠ o
def afoot (sd o : Addr) (W : List CarE) : List Addr := sd :: o :: W.map (·.d)
def Bnd (W : List CarE) (m : Nat) : Prop := W.length ≤ m ∧ ∀ e ∈ W, e.ss.length ≤ m
/-- a dict stands there -/
def IsDic (H : Hp) (x : Addr) : Prop := (∃ kvs, H x = some (.dK kvs)) ∨ ∃ kvs, H x = some (.dT kvs)
theorem Acc.dics {C : Addr} {H : Hp} {p n sd o K : Addr} {W : List CarE} (a : Acc C H p n sd o K W) : ∀ x ∈ afoot sd o W, IsDic H x := fun x hx => by
  unfold afoot at hx
  rcases List.mem_cons.mp hx with rfl | hx
  · exact .inl ⟨_, a.wt.sd⟩
  rcases List.mem_cons.mp hx with rfl | hx
  · obtain ⟨kvs, h, _⟩ := a.ow
    exact .inl ⟨_, h⟩
  · obtain ⟨e, he, rfl⟩ := List.mem_map.mp hx
    obtain ⟨kvs, h, _⟩ := a.wt.ds e he
    exact .inr ⟨_, h⟩
theorem IsDic.noL {H : Hp} {x : Addr} (h : IsDic H x) (xs : List V) : H x ≠ some (.lst xs) := fun z => by
  rcases h with ⟨_, h⟩ | ⟨_, h⟩ <;> rw [h] at z <;> cases z
theorem IsDic.noT {H : Hp} {x : Addr} (h : IsDic H x) (xs : List V) : H x ≠ some (.tup xs) := fun z => by
  rcases h with ⟨_, h⟩ | ⟨_, h⟩ <;> rw [h] at z <;> cases z
theorem IsDic.noI {H : Hp} {x : Addr} (h : IsDic H x) {c d : Addr} {f : List (Str × V)} : H x ≠ some (.ins c d f) := fun z => by
  rcases h with ⟨_, h⟩ | ⟨_, h⟩ <;> rw [h] at z <;> cases z
theorem IsDic.there {H : Hp} {x : Addr} (h : IsDic H x) : H x ≠ none := fun z => by
  rcases h with ⟨_, h⟩ | ⟨_, h⟩ <;> rw [h] at z <;> cases z
theorem ownE_keep {S : List Addr} {H H' : Hp} {K : Addr} {kvs : List (Key × V)} {W : List CarE} (k : Keep S H H') (hS : ∀ x ∈ S, x = K ∧ (∃ xs, H K = some (.lst xs)) ∨ IsDic H x) (h : Paired (OwnE H) kvs W) (hK : ∀ kv ∈ kvs, kv.2 ≠ .ref K) : Paired (OwnE H') kvs W := by
  induction h with
  | nil => exact .nil
  | cons r _ ih =>
    refine .cons ?_ (ih fun kv hkv => hK kv (List.mem_cons_of_mem _ hkv))
    obtain ⟨h1, a, us, h2, h3, h4⟩ := r
    refine ⟨h1, a, us, h2, k _ _ h3 fun m => ?_, L2.Paired.mapP h4 fun _ _ ⟨t, e, ht⟩ => ⟨t, e, k _ _ ht fun m => ?_⟩⟩
    · rcases hS _ m with ⟨rfl, _⟩ | z
      · exact hK _ (List.mem_cons_self ..) h2
      · exact z.noL _ h3
    · rcases hS _ m with ⟨rfl, _, z⟩ | z
      · rw [ht] at z
        cases z
      · exact z.noT _ ht
/-- what others do leaves an account as it is -/
theorem Acc.keep {C : Addr} {H H' : Hp} {p n sd o K : Addr} {W : List CarE} (a : Acc C H p n sd o K W) {S : List Addr} (k : Keep S H H') (hd : ∀ x ∈ S, x ∉ afoot sd o W) (hS : ∀ x ∈ S, x = K ∧ (∃ xs, H K = some (.lst xs)) ∨ IsDic H x) : Acc C H' p n sd o K W := by
  obtain ⟨kvs, ho, hp, hk⟩ := a.ow
  obtain ⟨dx, hob⟩ := a.wt.ob
  refine ⟨a.wt.keep k (fun m => ?_) (fun x hx m => hd x m ?_), ⟨kvs, k _ _ ho (fun m => hd _ m (by simp [afoot])), ownE_keep k hS hp hk, hk⟩, a.ss, a.ap⟩
  · rcases hS _ m with ⟨rfl, _, z⟩ | z
    · rw [hob] at z
      cases z
    · exact z.noI hob
  · unfold wfoot at hx
    unfold afoot
    rcases List.mem_cons.mp hx with z | z
    · simp [z]
    · exact List.mem_cons_of_mem _ (List.mem_cons_of_mem _ z)
theorem Acc.same {C : Addr} {H H' : Hp} {p n sd o K : Addr} {W : List CarE} (a : Acc C H p n sd o K W) (s : Same H H') : Acc C H' p n sd o K W := a.keep (S := []) (Keep.of_same s) (by simp) (by simp)
/-! ### lists told, and their copies -/
def Told (H : Hp) (vs : List V) : Prop := (∃ ss : List (Int × Str), Paired (SeenV H) vs ss ∧ ∀ q ∈ ss, NameOk q.2) ∨ ∃ ys : List Str, vs = ys.map V.str ∧ ∀ y ∈ ys, PyData.strOk y = true
def KeptP (H : Hp) (K : Addr) (v : V) : Prop := ∃ (q a b : Addr) (vs : List V), v = .ref q ∧ H q = some (.lst [.ref a, .ref b]) ∧ H a = some (.lst vs) ∧ H b = some (.lst vs) ∧ Told H vs ∧ q ≠ K ∧ a ≠ K ∧ b ≠ K
theorem KeptP.keep {S : List Addr} {H H' : Hp} {K : Addr} {v : V} (h : KeptP H K v) (k : Keep S H H') (hS : ∀ x ∈ S, x = K ∧ (∃ xs, H K = some (.lst xs)) ∨ IsDic H x) : KeptP H' K v := by
  obtain ⟨q, a, b, vs, e, h1, h2, h3, t, n1, n2, n3⟩ := h
  have nl : ∀ x xs, H x = some (.lst xs) → x ≠ K → x ∉ S := fun x xs hx n m => by
    rcases hS _ m with ⟨z, _⟩ | z
    · exact n z
    · exact z.noL _ hx
  refine ⟨q, a, b, vs, e, k _ _ h1 (nl _ _ h1 n1), k _ _ h2 (nl _ _ h2 n2), k _ _ h3 (nl _ _ h3 n3), ?_, n1, n2, n3⟩
  rcases t with ⟨ss, p, ok⟩ | z
  · refine .inl ⟨ss, L2.Paired.mapP p fun _ _ ⟨t, e, ht⟩ => ⟨t, e, k _ _ ht fun m => ?_⟩, ok⟩
    rcases hS _ m with ⟨rfl, _, z⟩ | z
    · rw [ht] at z
      cases z
    · exact z.noT _ ht
  · exact .inr z
theorem seenD_eqv (a b : Int × Str) : PyData.eqv (seenD1 a) (seenD1 b) = decide (a = b) := by
  obtain ⟨i, x⟩ := a
  obtain ⟨j, y⟩ := b
  rw [Bool.eq_iff_iff, decide_eq_true_iff]
  simp [seenD1, PyData.eqv, PyData.eqvAll]
theorem seen_any (ss : List (Int × Str)) (q : Int × Str) : ((ss.map seenD1).any fun z => PyData.eqv z (seenD1 q)) = decide (q ∈ ss) := by
  rw [Bool.eq_iff_iff, decide_eq_true_iff, List.any_eq_true]
  constructor
  · rintro ⟨z, hz, h⟩
    obtain ⟨a, ha, rfl⟩ := List.mem_map.mp hz
    rw [seenD_eqv, decide_eq_true_iff] at h
    exact h ▸ ha
  · intro h
    exact ⟨_, List.mem_map.mpr ⟨q, h, rfl⟩, by rw [seenD_eqv]; exact decide_eq_true rfl⟩
theorem Acc.wt_o {C : Addr} {H : Hp} {p n sd o K : Addr} {W : List CarE} (a : Acc C H p n sd o K W) {X : HO} : WatchAt C (upd H o X) p n sd W := by
  obtain ⟨kvs, ho, _⟩ := a.ow
  obtain ⟨dx, hob⟩ := a.wt.ob
  refine a.wt.keep keep1 (fun m => ?_) (fun x hx m => ?_)
  · rw [List.mem_singleton] at m
    subst m
    rw [hob] at ho
    cases ho
  · rw [List.mem_singleton] at m
    subst m
    unfold wfoot at hx
    rcases List.mem_cons.mp hx with z | z
    · exact a.ap z.symm
    · obtain ⟨e, he, rfl⟩ := List.mem_map.mp z
      obtain ⟨kvs2, h2, _⟩ := a.wt.ds e he
      rw [ho] at h2
      cases h2
theorem Acc.made {C : Addr} {H H2 : Hp} {p n sd o K : Addr} {W W' : List CarE} (a : Acc C H p n sd o K W) {S : List Addr} (wt : WatchAt C H2 p n sd W') (k : Keep S H H2) (hS : ∀ x ∈ S, IsDic H x) {kvs : List (Key × V)} (ho : H2 o = some (.dK kvs)) (hp : Paired (OwnE H) kvs W') (hk : ∀ kv ∈ kvs, kv.2 ≠ .ref K)
    (hs : ∀ e ∈ W', ∀ q ∈ e.ss, NameOk q.2) : Acc C H2 p n sd o K W' :=
  ⟨wt, ⟨kvs, ho, ownE_keep k (fun x hx => .inr (hS x hx)) hp hk, hk⟩, hs, a.ap⟩
theorem putK_vals {kvs : List (Key × V)} {k : Key} {v : V} {K : Addr} (h : ∀ kv ∈ kvs, kv.2 ≠ .ref K) (hv : v ≠ .ref K) : ∀ kv ∈ putK kvs k v, kv.2 ≠ .ref K := by
  unfold putK
  split
  · intro kv hkv
    obtain ⟨x, hx, rfl⟩ := List.mem_map.mp hkv
    split
    · exact hv
    · exact h x hx
  · intro kv hkv
    rcases List.mem_append.mp hkv with z | z
    · exact h _ z
    · rw [List.mem_singleton] at z
      subst z
      exact hv
theorem seenOk {q : Int × Str} (h : NameOk q.2) : okD 1 (seenD1 q) := by
  refine okD_tup fun e he => ?_
  simp only [List.mem_cons, List.not_mem_nil, or_false] at he
  rcases he with rfl | rfl
  · exact okD_int _
  · exact okD_str h.2.1
theorem WatchAt.other {C : Addr} {H : Hp} {p n sd o : Addr} {W : List CarE} (w : WatchAt C H p n sd W) {kvs : List (Key × V)} (ho : H o = some (.dK kvs)) (ap : sd ≠ o) {X : HO} : WatchAt C (upd H o X) p n sd W := by
  obtain ⟨dx, hob⟩ := w.ob
  refine w.keep keep1 (fun m => ?_) (fun x hx m => ?_)
  · rw [List.mem_singleton] at m
    subst m
    rw [hob] at ho
    cases ho
  · rw [List.mem_singleton] at m
    subst m
    unfold wfoot at hx
    rcases List.mem_cons.mp hx with z | z
    · exact ap z.symm
    · obtain ⟨e, he, rfl⟩ := List.mem_map.mp z
      obtain ⟨kvs2, h2, _⟩ := w.ds e he
      rw [ho] at h2
      cases h2
theorem map_str_at {xs : List Str} {i : Nat} {v : V} (h : (xs.map V.str)[i]? = some v) : ∃ z, xs[i]? = some z ∧ v = .str z := by
  rw [List.getElem?_map] at h
  cases e : xs[i]? with
  | none => rw [e] at h; cases h
  | some z =>
    rw [e] at h
    exact ⟨z, rfl, (Option.some.inj h).symm⟩
theorem dpAll_strs {K : PySem.W.Frag} {H : Hp} : ∀ (ys : List Str), DpAll K H (ys.map V.str) (ys.map PyData.str)
  | [] => .nil
  | y :: ys => .cons (.str y) (dpAll_strs ys)
theorem strs_ok {ys : List Str} (h : ∀ y ∈ ys, PyData.strOk y = true) : okD 1 (.list (ys.map PyData.str)) := okD_list fun d hd => by
  obtain ⟨y, hy, rfl⟩ := List.mem_map.mp hd
  exact okD_str (h y hy)
theorem upd_old {H : Hp} {x y : Addr} {o u : HO} (h : x ≠ y) (e : H x = some u) : (upd H y o) x = some u := by
  rw [upd_ne h]
  exact e
theorem small1000' {n : Nat} (h : n < 1000) : n < sizeLine := Nat.lt_of_lt_of_le h (by decide)
theorem NetAt.dict {C : Addr} {H : Hp} {p g r Se : Addr} {N : NetD} (hN : NetAt C H p g r N) {kvs : List (Key × V)} (h : H Se = some (.dK kvs)) (gSe : g ≠ Se) {X : HO} : NetAt C (upd H Se X) p g r N := by
  obtain ⟨dq, hob⟩ := hN.ob
  obtain ⟨us, hr, _⟩ := hN.rt
  have a1 := ne_of hob h (by intro z; cases z)
  have a2 := ne_of hr h (by intro z; cases z)
  refine hN.keep keep1 (by simpa using a1) (by simpa using gSe) (by simpa using a2) fun a ha xs z => ?_
  rw [List.mem_singleton] at ha
  rw [ha, h] at z
  cases z
end Toll

set_option Elab.async false
set_option maxRecDepth 100000
set_option maxHeartbeats 4000000
namespace Toll
open PySem L2
local macro_rules | `(tactic| walk_at "go1") => `(tactic| first
  | refine ⟨_, rfl, ?_⟩
  | refine ⟨rfl, ?_⟩
  | refine ⟨_, _, rfl, rfl, ?_⟩
  | refine ⟨_, _, rfl, ?_⟩
  | (with_reducible refine' ⟨log_small ?k1 ?k2, ?_⟩; (case k1 => omega); (case k2 => omega))
  | (refine' ⟨?k1, ?_⟩; (case k1 => ((with_reducible show (_ : Int) < _); omega)))
  | (refine' ⟨⟨?k1, ?k2⟩, ?_⟩; (case k1 => omega); (case k2 => omega))
  | (refine' ⟨⟨?k1, ?k2, ?k3, ?k4⟩, ?_⟩; (case k1 => omega); (case k2 => omega); (case k3 => omega); (case k4 => omega))
  | (refine' ⟨.inl ⟨?k1, ?k2⟩, ?_⟩; (case k1 => omega); (case k2 => omega))
  | (refine' ⟨.inr ⟨?k1, ?k2⟩, ?_⟩; (case k1 => omega); (case k2 => omega))
  | (refine' ⟨Evl.sz_of ?k1, ?_⟩; (case k1 => omega))
  | (refine' ⟨?k1, ?_⟩; (case k1 => ((with_reducible show (_ : Int) ≤ _); omega)))
  | refine ⟨⟨_, rfl⟩, ?_⟩
  | refine .inl ⟨_, rfl, ?_⟩ | refine .inr ⟨_, rfl, ?_⟩
  | refine iteT ?_ | refine iteF ?_)
local macro_rules | `(tactic| walk_at "go") => `(tactic| repeat (walk_at "go1"))
local macro_rules | `(tactic| walk_at "ans") => `(tactic| (intro Q' q'; walk_at "go"; (try rw [dec_int]); (try rw [dec_str]); exact q'))
local macro_rules | `(tactic| walk_at "hp") => `(tactic| first | assumption | exact upd_same | (refine' up_same ?e ?h; (case e => assumption); (case h => walk_at "hp")) | (refine' upd_at ?n ?h; (case n => walk_at "ne"); (case h => walk_at "hp")))
local macro_rules | `(tactic| walk_at "ne") => `(tactic| first | assumption | (apply Ne.symm; assumption))
local macro_rules | `(tactic| walk_at "at") => `(tactic| first | exact atI_nat (j := 0) rfl | exact atI_nat (j := 1) rfl | exact atI_nat (j := 2) rfl | exact atI_nat (j := 3) rfl | exact atI_nat (j := 4) rfl)
local macro_rules | `(tactic| walk_at "step1") => `(tactic| first
  | walk_at "go1"
  | (apply ixL_step; (case h => walk_at "hp"); (case a => walk_at "at"))
  | (apply ixT_step; (case h => walk_at "hp"); (case a => walk_at "at"))
  | (apply lenL_step; (case h => walk_at "hp")))
local macro_rules | `(tactic| walk_at "step") => `(tactic| repeat (walk_at "step1"))
def top (i : Nat) : Stmt := PySem.Challenge.pw_tollguess_k08_askings_refused.main.body.getD i (.Pass ⟨0, 0, 0, 0⟩)
def k_SMALL_SIGNS : Str := "abcdefghijklmnopqrstuvwxyz"
def k_NAME_SIGNS : Str := "abcdefghijklmnopqrstuvwxyz0123456789"
abbrev s_wall : Stmt := top 1
abbrev n_wall : List Str := ["k"]
theorem sc_wall : FnScope n_wall ["k"] (defScope s_wall) := ⟨rfl, rfl, rfl, by decide +kernel, rfl, by decide +kernel, by decide +kernel⟩
abbrev s_reached : Stmt := top 16
abbrev n_reached : List Str := ["net", "gate", "limit"]
theorem sc_reached : FnScope n_reached ["net", "gate", "limit"] (defScope s_reached) := ⟨rfl, rfl, rfl, by decide +kernel, rfl, by decide +kernel, by decide +kernel⟩
abbrev s_rows_until : Stmt := top 17
abbrev n_rows_until : List Str := ["net", "gate", "limit", "goal", "gates", "ways", "rows", "fewest", "queue", "toll", "minutes", "turn", "road", "back", "name", "sees"]
theorem sc_rows_until : FnScope n_rows_until ["net", "gate", "limit", "goal"] (defScope s_rows_until) := ⟨rfl, rfl, rfl, by decide +kernel, rfl, by decide +kernel, by decide +kernel⟩
abbrev s_least : Stmt := top 18
abbrev n_least : List Str := ["rows", "name", "best", "place"]
theorem sc_least : FnScope n_least ["rows", "name"] (defScope s_least) := ⟨rfl, rfl, rfl, by decide +kernel, rfl, by decide +kernel, by decide +kernel⟩
abbrev s_roads_to : Stmt := top 19
abbrev n_roads_to : List Str := ["rows", "place", "roads", "name", "minutes", "toll", "road", "back"]
theorem sc_roads_to : FnScope n_roads_to ["rows", "place"] (defScope s_roads_to) := ⟨rfl, rfl, rfl, by decide +kernel, rfl, by decide +kernel, by decide +kernel⟩
abbrev s_ways_by_gate : Stmt := top 20
abbrev n_ways_by_gate : List Str := ["net", "turns", "ways", "turn", "name", "sees", "road", "one", "other", "minutes", "toll", "is_open"]
theorem sc_ways_by_gate : FnScope n_ways_by_gate ["net"] (defScope s_ways_by_gate) := ⟨rfl, rfl, rfl, by decide +kernel, rfl, by decide +kernel, by decide +kernel⟩
abbrev s_go_on : Stmt := top 21
abbrev n_go_on : List Str := ["queue", "rows", "ways", "limit", "back", "name", "minutes", "toll", "last", "ahead", "road", "turn", "more_minutes", "more_toll"]
theorem sc_go_on : FnScope n_go_on ["queue", "rows", "ways", "limit"] (defScope s_go_on) := ⟨rfl, rfl, rfl, by decide +kernel, rfl, by decide +kernel, by decide +kernel⟩
abbrev s_leg : Stmt := top 23
abbrev n_leg : List Str := ["net", "one", "other", "limit", "rows", "place", "name", "minutes", "toll", "road", "back"]
theorem sc_leg : FnScope n_leg ["net", "one", "other", "limit"] (defScope s_leg) := ⟨rfl, rfl, rfl, by decide +kernel, rfl, by decide +kernel, by decide +kernel⟩
abbrev s_guess : Stmt := top 25
abbrev n_guess : List Str := ["net", "seen", "time", "gate", "toll", "roads", "passed", "place", "later", "other", "found", "cost", "minutes", "numbers"]
theorem sc_guess : FnScope n_guess ["net", "seen"] (defScope s_guess) := ⟨rfl, rfl, rfl, by decide +kernel, rfl, by decide +kernel, by decide +kernel⟩
abbrev s_need_sightings : Stmt := top 26
abbrev n_need_sightings : List Str := ["net", "seen", "ahead", "time", "gate"]
theorem sc_need_sightings : FnScope n_need_sightings ["net", "seen"] (defScope s_need_sightings) := ⟨rfl, rfl, rfl, by decide +kernel, rfl, by decide +kernel, by decide +kernel⟩
abbrev s_passed_between : Stmt := top 27
abbrev n_passed_between : List Str := ["net", "numbers", "time", "rows", "passed", "number", "one", "other", "minutes", "toll", "is_open"]
theorem sc_passed_between : FnScope n_passed_between ["net", "numbers", "time"] (defScope s_passed_between) := ⟨rfl, rfl, rfl, by decide +kernel, rfl, by decide +kernel, by decide +kernel⟩
abbrev s_is_name : Stmt := top 36
abbrev n_is_name : List Str := ["text", "sign"]
theorem sc_is_name : FnScope n_is_name ["text"] (defScope s_is_name) := ⟨rfl, rfl, rfl, by decide +kernel, rfl, by decide +kernel, by decide +kernel⟩
abbrev s_N_init : Stmt := inClass (top 37) 0
abbrev n_N_init : List Str := ["self"]
theorem sc_N_init : FnScope n_N_init ["self"] (defScope s_N_init) := ⟨rfl, rfl, rfl, by decide +kernel, rfl, by decide +kernel, by decide +kernel⟩
abbrev s_N_gate : Stmt := inClass (top 37) 1
abbrev n_N_gate : List Str := ["self", "name", "sees"]
theorem sc_N_gate : FnScope n_N_gate ["self", "name", "sees"] (defScope s_N_gate) := ⟨rfl, rfl, rfl, by decide +kernel, rfl, by decide +kernel, by decide +kernel⟩
abbrev s_N_road : Stmt := inClass (top 37) 2
abbrev n_N_road : List Str := ["self", "one", "other", "minutes", "toll"]
theorem sc_N_road : FnScope n_N_road ["self", "one", "other", "minutes", "toll"] (defScope s_N_road) := ⟨rfl, rfl, rfl, by decide +kernel, rfl, by decide +kernel, by decide +kernel⟩
abbrev s_N_blind : Stmt := inClass (top 37) 3
abbrev n_N_blind : List Str := ["self", "name"]
theorem sc_N_blind : FnScope n_N_blind ["self", "name"] (defScope s_N_blind) := ⟨rfl, rfl, rfl, by decide +kernel, rfl, by decide +kernel, by decide +kernel⟩
abbrev s_N_mend : Stmt := inClass (top 37) 4
abbrev n_N_mend : List Str := ["self", "name"]
theorem sc_N_mend : FnScope n_N_mend ["self", "name"] (defScope s_N_mend) := ⟨rfl, rfl, rfl, by decide +kernel, rfl, by decide +kernel, by decide +kernel⟩
abbrev s_N_close : Stmt := inClass (top 37) 5
abbrev n_N_close : List Str := ["self", "number"]
theorem sc_N_close : FnScope n_N_close ["self", "number"] (defScope s_N_close) := ⟨rfl, rfl, rfl, by decide +kernel, rfl, by decide +kernel, by decide +kernel⟩
abbrev s_N_reopen : Stmt := inClass (top 37) 6
abbrev n_N_reopen : List Str := ["self", "number"]
theorem sc_N_reopen : FnScope n_N_reopen ["self", "number"] (defScope s_N_reopen) := ⟨rfl, rfl, rfl, by decide +kernel, rfl, by decide +kernel, by decide +kernel⟩
abbrev s_N_gates : Stmt := inClass (top 37) 7
abbrev n_N_gates : List Str := ["self"]
theorem sc_N_gates : FnScope n_N_gates ["self"] (defScope s_N_gates) := ⟨rfl, rfl, rfl, by decide +kernel, rfl, by decide +kernel, by decide +kernel⟩
abbrev s_N_roads : Stmt := inClass (top 37) 8
abbrev n_N_roads : List Str := ["self"]
theorem sc_N_roads : FnScope n_N_roads ["self"] (defScope s_N_roads) := ⟨rfl, rfl, rfl, by decide +kernel, rfl, by decide +kernel, by decide +kernel⟩
abbrev s_N_leaving : Stmt := inClass (top 37) 9
abbrev n_N_leaving : List Str := ["self", "name"]
theorem sc_N_leaving : FnScope n_N_leaving ["self", "name"] (defScope s_N_leaving) := ⟨rfl, rfl, rfl, by decide +kernel, rfl, by decide +kernel, by decide +kernel⟩
abbrev s_N_need_gate : Stmt := inClass (top 37) 10
abbrev n_N_need_gate : List Str := ["self", "name"]
theorem sc_N_need_gate : FnScope n_N_need_gate ["self", "name"] (defScope s_N_need_gate) := ⟨rfl, rfl, rfl, by decide +kernel, rfl, by decide +kernel, by decide +kernel⟩
abbrev s_N__turn_gate : Stmt := inClass (top 37) 11
abbrev n_N__turn_gate : List Str := ["self", "name", "sees"]
theorem sc_N__turn_gate : FnScope n_N__turn_gate ["self", "name", "sees"] (defScope s_N__turn_gate) := ⟨rfl, rfl, rfl, by decide +kernel, rfl, by decide +kernel, by decide +kernel⟩
abbrev s_N__turn_road : Stmt := inClass (top 37) 12
abbrev n_N__turn_road : List Str := ["self", "number", "is_open", "one", "other", "minutes", "toll", "was_open"]
theorem sc_N__turn_road : FnScope n_N__turn_road ["self", "number", "is_open"] (defScope s_N__turn_road) := ⟨rfl, rfl, rfl, by decide +kernel, rfl, by decide +kernel, by decide +kernel⟩
abbrev s_W_init : Stmt := inClass (top 40) 0
abbrev n_W_init : List Str := ["self", "net"]
theorem sc_W_init : FnScope n_W_init ["self", "net"] (defScope s_W_init) := ⟨rfl, rfl, rfl, by decide +kernel, rfl, by decide +kernel, by decide +kernel⟩
abbrev s_W_saw : Stmt := inClass (top 40) 1
abbrev n_W_saw : List Str := ["self", "car", "gate", "time", "sees", "kept"]
theorem sc_W_saw : FnScope n_W_saw ["self", "car", "gate", "time"] (defScope s_W_saw) := ⟨rfl, rfl, rfl, by decide +kernel, rfl, by decide +kernel, by decide +kernel⟩
abbrev s_W_seen : Stmt := inClass (top 40) 2
abbrev n_W_seen : List Str := ["self", "car"]
theorem sc_W_seen : FnScope n_W_seen ["self", "car"] (defScope s_W_seen) := ⟨rfl, rfl, rfl, by decide +kernel, rfl, by decide +kernel, by decide +kernel⟩
abbrev s_W_cars : Stmt := inClass (top 40) 3
abbrev n_W_cars : List Str := ["self"]
theorem sc_W_cars : FnScope n_W_cars ["self"] (defScope s_W_cars) := ⟨rfl, rfl, rfl, by decide +kernel, rfl, by decide +kernel, by decide +kernel⟩
abbrev s_W_forget : Stmt := inClass (top 40) 4
abbrev n_W_forget : List Str := ["self", "car"]
theorem sc_W_forget : FnScope n_W_forget ["self", "car"] (defScope s_W_forget) := ⟨rfl, rfl, rfl, by decide +kernel, rfl, by decide +kernel, by decide +kernel⟩
abbrev s_W__need_car : Stmt := inClass (top 40) 5
abbrev n_W__need_car : List Str := ["self", "car"]
theorem sc_W__need_car : FnScope n_W__need_car ["self", "car"] (defScope s_W__need_car) := ⟨rfl, rfl, rfl, by decide +kernel, rfl, by decide +kernel, by decide +kernel⟩
abbrev s_l_cell_at : Stmt := top 42
abbrev n_l_cell_at : List Str := ["_law_script", "_law_k"]
theorem sc_l_cell_at : FnScope n_l_cell_at ["_law_script", "_law_k"] (defScope s_l_cell_at) := ⟨rfl, rfl, rfl, by decide +kernel, rfl, by decide +kernel, by decide +kernel⟩
abbrev s_l_mixed : Stmt := top 43
abbrev n_l_mixed : List Str := ["_law_script", "_law_k", "_law_cell", "_law_more"]
theorem sc_l_mixed : FnScope n_l_mixed ["_law_script", "_law_k"] (defScope s_l_mixed) := ⟨rfl, rfl, rfl, by decide +kernel, rfl, by decide +kernel, by decide +kernel⟩
abbrev s_l_name : Stmt := top 44
abbrev n_l_name : List Str := ["_law_base", "_law_turn", "_law_some", "_law_signs", "_law_size", "_law_at", "_law_k"]
theorem sc_l_name : FnScope n_l_name ["_law_base", "_law_turn"] (defScope s_l_name) := ⟨rfl, rfl, rfl, by decide +kernel, rfl, by decide +kernel, by decide +kernel⟩
abbrev s_l_of_one_class : Stmt := top 45
abbrev n_l_of_one_class : List Str := ["_law_e", "_law_found"]
theorem sc_l_of_one_class : FnScope n_l_of_one_class ["_law_e"] (defScope s_l_of_one_class) := ⟨rfl, rfl, rfl, by decide +kernel, rfl, by decide +kernel, by decide +kernel⟩
abbrev s_l_asked : Stmt := top 46
abbrev n_l_asked : List Str := ["_law_net", "_law_watch", "_law_asking"]
theorem sc_l_asked : FnScope n_l_asked ["_law_net", "_law_watch", "_law_asking"] (defScope s_l_asked) := ⟨rfl, rfl, rfl, by decide +kernel, rfl, by decide +kernel, by decide +kernel⟩
abbrev s_l_refused : Stmt := top 47
abbrev n_l_refused : List Str := ["_law_net", "_law_watch", "_law_asking", "_law_due", "_law_e", "_law_wanted"]
theorem sc_l_refused : FnScope n_l_refused ["_law_net", "_law_watch", "_law_asking", "_law_due"] (defScope s_l_refused) := ⟨rfl, rfl, rfl, by decide +kernel, rfl, by decide +kernel, by decide +kernel⟩
abbrev s_l_bad_sight : Stmt := top 48
abbrev n_l_bad_sight : List Str := ["_law_number", "_law_names", "_law_time", "_law_good"]
theorem sc_l_bad_sight : FnScope n_l_bad_sight ["_law_number", "_law_names"] (defScope s_l_bad_sight) := ⟨rfl, rfl, rfl, by decide +kernel, rfl, by decide +kernel, by decide +kernel⟩
abbrev s_l_bad_seen : Stmt := top 49
abbrev n_l_bad_seen : List Str := ["_law_number", "_law_names", "_law_size", "_law_seen", "_law_at", "_law_k"]
theorem sc_l_bad_seen : FnScope n_l_bad_seen ["_law_number", "_law_names"] (defScope s_l_bad_seen) := ⟨rfl, rfl, rfl, by decide +kernel, rfl, by decide +kernel, by decide +kernel⟩
abbrev s_l_bad_asking : Stmt := top 50
abbrev n_l_bad_asking : List Str := ["_law_number", "_law_names", "_law_limit", "_law_ends"]
theorem sc_l_bad_asking : FnScope n_l_bad_asking ["_law_number", "_law_names"] (defScope s_l_bad_asking) := ⟨rfl, rfl, rfl, by decide +kernel, rfl, by decide +kernel, by decide +kernel⟩
abbrev s_l_made_good : Stmt := top 51
abbrev n_l_made_good : List Str := ["_law_net", "_law_watch", "_law_asking", "_law_due", "_law_names", "_law_e"]
theorem sc_l_made_good : FnScope n_l_made_good ["_law_net", "_law_watch", "_law_asking", "_law_due", "_law_names"] (defScope s_l_made_good) := ⟨rfl, rfl, rfl, by decide +kernel, rfl, by decide +kernel, by decide +kernel⟩
abbrev s_law : Stmt := top 52
abbrev n_law : List Str := ["_law_script", "_law_base", "_law_names", "_law_group", "_law_net", "_law_watch", "_law_row", "_law_handed", "_law_turn"]
theorem sc_law : FnScope n_law ["_law_script"] (defScope s_law) := ⟨rfl, rfl, rfl, by decide +kernel, rfl, by decide +kernel, by decide +kernel⟩
structure Ads where
  wall : Addr
  reached : Addr
  rows_until : Addr
  least : Addr
  roads_to : Addr
  ways_by_gate : Addr
  go_on : Addr
  leg : Addr
  guess : Addr
  need_sightings : Addr
  passed_between : Addr
  is_name : Addr
  N_init : Addr
  N_gate : Addr
  N_road : Addr
  N_blind : Addr
  N_mend : Addr
  N_close : Addr
  N_reopen : Addr
  N_gates : Addr
  N_roads : Addr
  N_leaving : Addr
  N_need_gate : Addr
  N__turn_gate : Addr
  N__turn_road : Addr
  W_init : Addr
  W_saw : Addr
  W_seen : Addr
  W_cars : Addr
  W_forget : Addr
  W__need_car : Addr
  l_mixed : Addr
  l_name : Addr
  l_of_one_class : Addr
  l_asked : Addr
  l_refused : Addr
  l_bad_sight : Addr
  l_bad_seen : Addr
  l_bad_asking : Addr
  l_made_good : Addr
  law : Addr
  C_Net : Addr
  C_Watch : Addr
  C_TollError : Addr
  C_NoName : Addr
  C_SameGate : Addr
  C_FullNet : Addr
  C_NoGate : Addr
  C_NoNumber : Addr
  C_NoRoad : Addr
  C_Already : Addr
  C_NoTime : Addr
  C_Blind : Addr
  C_NoCar : Addr
  C_NoSight : Addr
  tSMALL_SIGNS : Tok
  tMOST_SIGNS : Tok
  tNAME_SIGNS : Tok
  tMOST_GATES : Tok
  tMOST_ROADS : Tok
  tMOST_MINUTES : Tok
  tMOST_TOLL : Tok
  tLAST_TIME : Tok
structure Txt (K : PySem.W.Frag) (mg : Str → Option Value) (A : Ads) : Prop where
  m_wall : mg "_wall" = some (.ref A.wall)
  F_wall : ∃ fd, Fun K "_wall" "_wall" s_wall A.wall fd
  m_reached : mg "reached" = some (.ref A.reached)
  F_reached : ∃ fd, Fun K "reached" "reached" s_reached A.reached fd
  m_rows_until : mg "rows_until" = some (.ref A.rows_until)
  F_rows_until : ∃ fd, Fun K "rows_until" "rows_until" s_rows_until A.rows_until fd
  m_least : mg "least" = some (.ref A.least)
  F_least : ∃ fd, Fun K "least" "least" s_least A.least fd
  m_roads_to : mg "roads_to" = some (.ref A.roads_to)
  F_roads_to : ∃ fd, Fun K "roads_to" "roads_to" s_roads_to A.roads_to fd
  m_ways_by_gate : mg "_ways_by_gate" = some (.ref A.ways_by_gate)
  F_ways_by_gate : ∃ fd, Fun K "_ways_by_gate" "_ways_by_gate" s_ways_by_gate A.ways_by_gate fd
  m_go_on : mg "_go_on" = some (.ref A.go_on)
  F_go_on : ∃ fd, Fun K "_go_on" "_go_on" s_go_on A.go_on fd
  m_leg : mg "leg" = some (.ref A.leg)
  F_leg : ∃ fd, Fun K "leg" "leg" s_leg A.leg fd
  m_guess : mg "guess" = some (.ref A.guess)
  F_guess : ∃ fd, Fun K "guess" "guess" s_guess A.guess fd
  m_need_sightings : mg "_need_sightings" = some (.ref A.need_sightings)
  F_need_sightings : ∃ fd, Fun K "_need_sightings" "_need_sightings" s_need_sightings A.need_sightings fd
  m_passed_between : mg "_passed_between" = some (.ref A.passed_between)
  F_passed_between : ∃ fd, Fun K "_passed_between" "_passed_between" s_passed_between A.passed_between fd
  m_is_name : mg "is_name" = some (.ref A.is_name)
  F_is_name : ∃ fd, Fun K "is_name" "is_name" s_is_name A.is_name fd
  M_N_init : Meth K A.C_Net "__init__" A.N_init
  F_N_init : ∃ fd, Fun K "__init__" "Net.__init__" s_N_init A.N_init fd
  M_N_gate : Meth K A.C_Net "gate" A.N_gate
  F_N_gate : ∃ fd, Fun K "gate" "Net.gate" s_N_gate A.N_gate fd
  M_N_road : Meth K A.C_Net "road" A.N_road
  F_N_road : ∃ fd, Fun K "road" "Net.road" s_N_road A.N_road fd
  M_N_blind : Meth K A.C_Net "blind" A.N_blind
  F_N_blind : ∃ fd, Fun K "blind" "Net.blind" s_N_blind A.N_blind fd
  M_N_mend : Meth K A.C_Net "mend" A.N_mend
  F_N_mend : ∃ fd, Fun K "mend" "Net.mend" s_N_mend A.N_mend fd
  M_N_close : Meth K A.C_Net "close" A.N_close
  F_N_close : ∃ fd, Fun K "close" "Net.close" s_N_close A.N_close fd
  M_N_reopen : Meth K A.C_Net "reopen" A.N_reopen
  F_N_reopen : ∃ fd, Fun K "reopen" "Net.reopen" s_N_reopen A.N_reopen fd
  M_N_gates : Meth K A.C_Net "gates" A.N_gates
  F_N_gates : ∃ fd, Fun K "gates" "Net.gates" s_N_gates A.N_gates fd
  M_N_roads : Meth K A.C_Net "roads" A.N_roads
  F_N_roads : ∃ fd, Fun K "roads" "Net.roads" s_N_roads A.N_roads fd
  M_N_leaving : Meth K A.C_Net "leaving" A.N_leaving
  F_N_leaving : ∃ fd, Fun K "leaving" "Net.leaving" s_N_leaving A.N_leaving fd
  M_N_need_gate : Meth K A.C_Net "need_gate" A.N_need_gate
  F_N_need_gate : ∃ fd, Fun K "need_gate" "Net.need_gate" s_N_need_gate A.N_need_gate fd
  M_N__turn_gate : Meth K A.C_Net "_turn_gate" A.N__turn_gate
  F_N__turn_gate : ∃ fd, Fun K "_turn_gate" "Net._turn_gate" s_N__turn_gate A.N__turn_gate fd
  M_N__turn_road : Meth K A.C_Net "_turn_road" A.N__turn_road
  F_N__turn_road : ∃ fd, Fun K "_turn_road" "Net._turn_road" s_N__turn_road A.N__turn_road fd
  M_W_init : Meth K A.C_Watch "__init__" A.W_init
  F_W_init : ∃ fd, Fun K "__init__" "Watch.__init__" s_W_init A.W_init fd
  M_W_saw : Meth K A.C_Watch "saw" A.W_saw
  F_W_saw : ∃ fd, Fun K "saw" "Watch.saw" s_W_saw A.W_saw fd
  M_W_seen : Meth K A.C_Watch "seen" A.W_seen
  F_W_seen : ∃ fd, Fun K "seen" "Watch.seen" s_W_seen A.W_seen fd
  M_W_cars : Meth K A.C_Watch "cars" A.W_cars
  F_W_cars : ∃ fd, Fun K "cars" "Watch.cars" s_W_cars A.W_cars fd
  M_W_forget : Meth K A.C_Watch "forget" A.W_forget
  F_W_forget : ∃ fd, Fun K "forget" "Watch.forget" s_W_forget A.W_forget fd
  M_W__need_car : Meth K A.C_Watch "_need_car" A.W__need_car
  F_W__need_car : ∃ fd, Fun K "_need_car" "Watch._need_car" s_W__need_car A.W__need_car fd
  m_l_mixed : mg "_law_mixed" = some (.ref A.l_mixed)
  F_l_mixed : ∃ fd, Fun K "_law_mixed" "_law_mixed" s_l_mixed A.l_mixed fd
  m_l_name : mg "_law_name" = some (.ref A.l_name)
  F_l_name : ∃ fd, Fun K "_law_name" "_law_name" s_l_name A.l_name fd
  m_l_of_one_class : mg "_law_of_one_class" = some (.ref A.l_of_one_class)
  F_l_of_one_class : ∃ fd, Fun K "_law_of_one_class" "_law_of_one_class" s_l_of_one_class A.l_of_one_class fd
  m_l_asked : mg "_law_asked" = some (.ref A.l_asked)
  F_l_asked : ∃ fd, Fun K "_law_asked" "_law_asked" s_l_asked A.l_asked fd
  m_l_refused : mg "_law_refused" = some (.ref A.l_refused)
  F_l_refused : ∃ fd, Fun K "_law_refused" "_law_refused" s_l_refused A.l_refused fd
  m_l_bad_sight : mg "_law_bad_sight" = some (.ref A.l_bad_sight)
  F_l_bad_sight : ∃ fd, Fun K "_law_bad_sight" "_law_bad_sight" s_l_bad_sight A.l_bad_sight fd
  m_l_bad_seen : mg "_law_bad_seen" = some (.ref A.l_bad_seen)
  F_l_bad_seen : ∃ fd, Fun K "_law_bad_seen" "_law_bad_seen" s_l_bad_seen A.l_bad_seen fd
  m_l_bad_asking : mg "_law_bad_asking" = some (.ref A.l_bad_asking)
  F_l_bad_asking : ∃ fd, Fun K "_law_bad_asking" "_law_bad_asking" s_l_bad_asking A.l_bad_asking fd
  m_l_made_good : mg "_law_made_good" = some (.ref A.l_made_good)
  F_l_made_good : ∃ fd, Fun K "_law_made_good" "_law_made_good" s_l_made_good A.l_made_good fd
  m_law : mg "law" = some (.ref A.law)
  F_law : ∃ fd, Fun K "law" "law" s_law A.law fd
  g_Net : mg "Net" = some (.ref A.C_Net)
  c_Net : Cls K A.C_Net
  M_Net : Mk K A.C_Net A.N_init
  na_Net__gates : NoAttr K A.C_Net "_gates"
  na_Net__roads : NoAttr K A.C_Net "_roads"
  g_Watch : mg "Watch" = some (.ref A.C_Watch)
  c_Watch : Cls K A.C_Watch
  M_Watch : Mk K A.C_Watch A.W_init
  na_Watch__sightings : NoAttr K A.C_Watch "_sightings"
  na_Watch_net : NoAttr K A.C_Watch "net"
  e_TollError : ErrC K mg "TollError" A.C_TollError
  e_NoName : ErrC K mg "NoName" A.C_NoName
  e_SameGate : ErrC K mg "SameGate" A.C_SameGate
  e_FullNet : ErrC K mg "FullNet" A.C_FullNet
  e_NoGate : ErrC K mg "NoGate" A.C_NoGate
  e_NoNumber : ErrC K mg "NoNumber" A.C_NoNumber
  e_NoRoad : ErrC K mg "NoRoad" A.C_NoRoad
  e_Already : ErrC K mg "Already" A.C_Already
  e_NoTime : ErrC K mg "NoTime" A.C_NoTime
  e_Blind : ErrC K mg "Blind" A.C_Blind
  e_NoCar : ErrC K mg "NoCar" A.C_NoCar
  e_NoSight : ErrC K mg "NoSight" A.C_NoSight
  i_TollError : ExcC K A.C_TollError
  s_TollError : PySem.W.subIn K (.ref A.C_TollError) (.type "ValueError") = some true
  i_NoName : ExcC K A.C_NoName
  s_NoName : PySem.W.subIn K (.ref A.C_NoName) (.type "ValueError") = some true
  i_SameGate : ExcC K A.C_SameGate
  s_SameGate : PySem.W.subIn K (.ref A.C_SameGate) (.type "ValueError") = some true
  i_FullNet : ExcC K A.C_FullNet
  s_FullNet : PySem.W.subIn K (.ref A.C_FullNet) (.type "ValueError") = some true
  i_NoGate : ExcC K A.C_NoGate
  s_NoGate : PySem.W.subIn K (.ref A.C_NoGate) (.type "ValueError") = some true
  i_NoNumber : ExcC K A.C_NoNumber
  s_NoNumber : PySem.W.subIn K (.ref A.C_NoNumber) (.type "ValueError") = some true
  i_NoRoad : ExcC K A.C_NoRoad
  s_NoRoad : PySem.W.subIn K (.ref A.C_NoRoad) (.type "ValueError") = some true
  i_Already : ExcC K A.C_Already
  s_Already : PySem.W.subIn K (.ref A.C_Already) (.type "ValueError") = some true
  i_NoTime : ExcC K A.C_NoTime
  s_NoTime : PySem.W.subIn K (.ref A.C_NoTime) (.type "ValueError") = some true
  i_Blind : ExcC K A.C_Blind
  s_Blind : PySem.W.subIn K (.ref A.C_Blind) (.type "ValueError") = some true
  i_NoCar : ExcC K A.C_NoCar
  s_NoCar : PySem.W.subIn K (.ref A.C_NoCar) (.type "ValueError") = some true
  i_NoSight : ExcC K A.C_NoSight
  s_NoSight : PySem.W.subIn K (.ref A.C_NoSight) (.type "ValueError") = some true
  v_TollError_TollError : PySem.W.subIn K (.ref A.C_TollError) (.ref A.C_TollError) = some true
  v_TollError_NoName : PySem.W.subIn K (.ref A.C_TollError) (.ref A.C_NoName) = some false
  v_TollError_SameGate : PySem.W.subIn K (.ref A.C_TollError) (.ref A.C_SameGate) = some false
  v_TollError_FullNet : PySem.W.subIn K (.ref A.C_TollError) (.ref A.C_FullNet) = some false
  v_TollError_NoGate : PySem.W.subIn K (.ref A.C_TollError) (.ref A.C_NoGate) = some false
  v_TollError_NoNumber : PySem.W.subIn K (.ref A.C_TollError) (.ref A.C_NoNumber) = some false
  v_TollError_NoRoad : PySem.W.subIn K (.ref A.C_TollError) (.ref A.C_NoRoad) = some false
  v_TollError_Already : PySem.W.subIn K (.ref A.C_TollError) (.ref A.C_Already) = some false
  v_TollError_NoTime : PySem.W.subIn K (.ref A.C_TollError) (.ref A.C_NoTime) = some false
  v_TollError_Blind : PySem.W.subIn K (.ref A.C_TollError) (.ref A.C_Blind) = some false
  v_TollError_NoCar : PySem.W.subIn K (.ref A.C_TollError) (.ref A.C_NoCar) = some false
  v_TollError_NoSight : PySem.W.subIn K (.ref A.C_TollError) (.ref A.C_NoSight) = some false
  v_NoName_TollError : PySem.W.subIn K (.ref A.C_NoName) (.ref A.C_TollError) = some true
  v_NoName_NoName : PySem.W.subIn K (.ref A.C_NoName) (.ref A.C_NoName) = some true
  v_NoName_SameGate : PySem.W.subIn K (.ref A.C_NoName) (.ref A.C_SameGate) = some false
  v_NoName_FullNet : PySem.W.subIn K (.ref A.C_NoName) (.ref A.C_FullNet) = some false
  v_NoName_NoGate : PySem.W.subIn K (.ref A.C_NoName) (.ref A.C_NoGate) = some false
  v_NoName_NoNumber : PySem.W.subIn K (.ref A.C_NoName) (.ref A.C_NoNumber) = some false
  v_NoName_NoRoad : PySem.W.subIn K (.ref A.C_NoName) (.ref A.C_NoRoad) = some false
  v_NoName_Already : PySem.W.subIn K (.ref A.C_NoName) (.ref A.C_Already) = some false
  v_NoName_NoTime : PySem.W.subIn K (.ref A.C_NoName) (.ref A.C_NoTime) = some false
  v_NoName_Blind : PySem.W.subIn K (.ref A.C_NoName) (.ref A.C_Blind) = some false
  v_NoName_NoCar : PySem.W.subIn K (.ref A.C_NoName) (.ref A.C_NoCar) = some false
  v_NoName_NoSight : PySem.W.subIn K (.ref A.C_NoName) (.ref A.C_NoSight) = some false
  v_SameGate_TollError : PySem.W.subIn K (.ref A.C_SameGate) (.ref A.C_TollError) = some true
  v_SameGate_NoName : PySem.W.subIn K (.ref A.C_SameGate) (.ref A.C_NoName) = some false
  v_SameGate_SameGate : PySem.W.subIn K (.ref A.C_SameGate) (.ref A.C_SameGate) = some true
  v_SameGate_FullNet : PySem.W.subIn K (.ref A.C_SameGate) (.ref A.C_FullNet) = some false
  v_SameGate_NoGate : PySem.W.subIn K (.ref A.C_SameGate) (.ref A.C_NoGate) = some false
  v_SameGate_NoNumber : PySem.W.subIn K (.ref A.C_SameGate) (.ref A.C_NoNumber) = some false
  v_SameGate_NoRoad : PySem.W.subIn K (.ref A.C_SameGate) (.ref A.C_NoRoad) = some false
  v_SameGate_Already : PySem.W.subIn K (.ref A.C_SameGate) (.ref A.C_Already) = some false
  v_SameGate_NoTime : PySem.W.subIn K (.ref A.C_SameGate) (.ref A.C_NoTime) = some false
  v_SameGate_Blind : PySem.W.subIn K (.ref A.C_SameGate) (.ref A.C_Blind) = some false
  v_SameGate_NoCar : PySem.W.subIn K (.ref A.C_SameGate) (.ref A.C_NoCar) = some false
  v_SameGate_NoSight : PySem.W.subIn K (.ref A.C_SameGate) (.ref A.C_NoSight) = some false
  v_FullNet_TollError : PySem.W.subIn K (.ref A.C_FullNet) (.ref A.C_TollError) = some true
  v_FullNet_NoName : PySem.W.subIn K (.ref A.C_FullNet) (.ref A.C_NoName) = some false
  v_FullNet_SameGate : PySem.W.subIn K (.ref A.C_FullNet) (.ref A.C_SameGate) = some false
  v_FullNet_FullNet : PySem.W.subIn K (.ref A.C_FullNet) (.ref A.C_FullNet) = some true
  v_FullNet_NoGate : PySem.W.subIn K (.ref A.C_FullNet) (.ref A.C_NoGate) = some false
  v_FullNet_NoNumber : PySem.W.subIn K (.ref A.C_FullNet) (.ref A.C_NoNumber) = some false
  v_FullNet_NoRoad : PySem.W.subIn K (.ref A.C_FullNet) (.ref A.C_NoRoad) = some false
  v_FullNet_Already : PySem.W.subIn K (.ref A.C_FullNet) (.ref A.C_Already) = some false
  v_FullNet_NoTime : PySem.W.subIn K (.ref A.C_FullNet) (.ref A.C_NoTime) = some false
  v_FullNet_Blind : PySem.W.subIn K (.ref A.C_FullNet) (.ref A.C_Blind) = some false
  v_FullNet_NoCar : PySem.W.subIn K (.ref A.C_FullNet) (.ref A.C_NoCar) = some false
  v_FullNet_NoSight : PySem.W.subIn K (.ref A.C_FullNet) (.ref A.C_NoSight) = some false
  v_NoGate_TollError : PySem.W.subIn K (.ref A.C_NoGate) (.ref A.C_TollError) = some true
  v_NoGate_NoName : PySem.W.subIn K (.ref A.C_NoGate) (.ref A.C_NoName) = some false
  v_NoGate_SameGate : PySem.W.subIn K (.ref A.C_NoGate) (.ref A.C_SameGate) = some false
  v_NoGate_FullNet : PySem.W.subIn K (.ref A.C_NoGate) (.ref A.C_FullNet) = some false
  v_NoGate_NoGate : PySem.W.subIn K (.ref A.C_NoGate) (.ref A.C_NoGate) = some true
  v_NoGate_NoNumber : PySem.W.subIn K (.ref A.C_NoGate) (.ref A.C_NoNumber) = some false
  v_NoGate_NoRoad : PySem.W.subIn K (.ref A.C_NoGate) (.ref A.C_NoRoad) = some false
  v_NoGate_Already : PySem.W.subIn K (.ref A.C_NoGate) (.ref A.C_Already) = some false
  v_NoGate_NoTime : PySem.W.subIn K (.ref A.C_NoGate) (.ref A.C_NoTime) = some false
  v_NoGate_Blind : PySem.W.subIn K (.ref A.C_NoGate) (.ref A.C_Blind) = some false
  v_NoGate_NoCar : PySem.W.subIn K (.ref A.C_NoGate) (.ref A.C_NoCar) = some false
  v_NoGate_NoSight : PySem.W.subIn K (.ref A.C_NoGate) (.ref A.C_NoSight) = some false
  v_NoNumber_TollError : PySem.W.subIn K (.ref A.C_NoNumber) (.ref A.C_TollError) = some true
  v_NoNumber_NoName : PySem.W.subIn K (.ref A.C_NoNumber) (.ref A.C_NoName) = some false
  v_NoNumber_SameGate : PySem.W.subIn K (.ref A.C_NoNumber) (.ref A.C_SameGate) = some false
  v_NoNumber_FullNet : PySem.W.subIn K (.ref A.C_NoNumber) (.ref A.C_FullNet) = some false
  v_NoNumber_NoGate : PySem.W.subIn K (.ref A.C_NoNumber) (.ref A.C_NoGate) = some false
  v_NoNumber_NoNumber : PySem.W.subIn K (.ref A.C_NoNumber) (.ref A.C_NoNumber) = some true
  v_NoNumber_NoRoad : PySem.W.subIn K (.ref A.C_NoNumber) (.ref A.C_NoRoad) = some false
  v_NoNumber_Already : PySem.W.subIn K (.ref A.C_NoNumber) (.ref A.C_Already) = some false
  v_NoNumber_NoTime : PySem.W.subIn K (.ref A.C_NoNumber) (.ref A.C_NoTime) = some false
  v_NoNumber_Blind : PySem.W.subIn K (.ref A.C_NoNumber) (.ref A.C_Blind) = some false
  v_NoNumber_NoCar : PySem.W.subIn K (.ref A.C_NoNumber) (.ref A.C_NoCar) = some false
  v_NoNumber_NoSight : PySem.W.subIn K (.ref A.C_NoNumber) (.ref A.C_NoSight) = some false
  v_NoRoad_TollError : PySem.W.subIn K (.ref A.C_NoRoad) (.ref A.C_TollError) = some true
  v_NoRoad_NoName : PySem.W.subIn K (.ref A.C_NoRoad) (.ref A.C_NoName) = some false
  v_NoRoad_SameGate : PySem.W.subIn K (.ref A.C_NoRoad) (.ref A.C_SameGate) = some false
  v_NoRoad_FullNet : PySem.W.subIn K (.ref A.C_NoRoad) (.ref A.C_FullNet) = some false
  v_NoRoad_NoGate : PySem.W.subIn K (.ref A.C_NoRoad) (.ref A.C_NoGate) = some false
  v_NoRoad_NoNumber : PySem.W.subIn K (.ref A.C_NoRoad) (.ref A.C_NoNumber) = some false
  v_NoRoad_NoRoad : PySem.W.subIn K (.ref A.C_NoRoad) (.ref A.C_NoRoad) = some true
  v_NoRoad_Already : PySem.W.subIn K (.ref A.C_NoRoad) (.ref A.C_Already) = some false
  v_NoRoad_NoTime : PySem.W.subIn K (.ref A.C_NoRoad) (.ref A.C_NoTime) = some false
  v_NoRoad_Blind : PySem.W.subIn K (.ref A.C_NoRoad) (.ref A.C_Blind) = some false
  v_NoRoad_NoCar : PySem.W.subIn K (.ref A.C_NoRoad) (.ref A.C_NoCar) = some false
  v_NoRoad_NoSight : PySem.W.subIn K (.ref A.C_NoRoad) (.ref A.C_NoSight) = some false
  v_Already_TollError : PySem.W.subIn K (.ref A.C_Already) (.ref A.C_TollError) = some true
  v_Already_NoName : PySem.W.subIn K (.ref A.C_Already) (.ref A.C_NoName) = some false
  v_Already_SameGate : PySem.W.subIn K (.ref A.C_Already) (.ref A.C_SameGate) = some false
  v_Already_FullNet : PySem.W.subIn K (.ref A.C_Already) (.ref A.C_FullNet) = some false
  v_Already_NoGate : PySem.W.subIn K (.ref A.C_Already) (.ref A.C_NoGate) = some false
  v_Already_NoNumber : PySem.W.subIn K (.ref A.C_Already) (.ref A.C_NoNumber) = some false
  v_Already_NoRoad : PySem.W.subIn K (.ref A.C_Already) (.ref A.C_NoRoad) = some false
  v_Already_Already : PySem.W.subIn K (.ref A.C_Already) (.ref A.C_Already) = some true
  v_Already_NoTime : PySem.W.subIn K (.ref A.C_Already) (.ref A.C_NoTime) = some false
  v_Already_Blind : PySem.W.subIn K (.ref A.C_Already) (.ref A.C_Blind) = some false
  v_Already_NoCar : PySem.W.subIn K (.ref A.C_Already) (.ref A.C_NoCar) = some false
  v_Already_NoSight : PySem.W.subIn K (.ref A.C_Already) (.ref A.C_NoSight) = some false
  v_NoTime_TollError : PySem.W.subIn K (.ref A.C_NoTime) (.ref A.C_TollError) = some true
  v_NoTime_NoName : PySem.W.subIn K (.ref A.C_NoTime) (.ref A.C_NoName) = some false
  v_NoTime_SameGate : PySem.W.subIn K (.ref A.C_NoTime) (.ref A.C_SameGate) = some false
  v_NoTime_FullNet : PySem.W.subIn K (.ref A.C_NoTime) (.ref A.C_FullNet) = some false
  v_NoTime_NoGate : PySem.W.subIn K (.ref A.C_NoTime) (.ref A.C_NoGate) = some false
  v_NoTime_NoNumber : PySem.W.subIn K (.ref A.C_NoTime) (.ref A.C_NoNumber) = some false
  v_NoTime_NoRoad : PySem.W.subIn K (.ref A.C_NoTime) (.ref A.C_NoRoad) = some false
  v_NoTime_Already : PySem.W.subIn K (.ref A.C_NoTime) (.ref A.C_Already) = some false
  v_NoTime_NoTime : PySem.W.subIn K (.ref A.C_NoTime) (.ref A.C_NoTime) = some true
  v_NoTime_Blind : PySem.W.subIn K (.ref A.C_NoTime) (.ref A.C_Blind) = some false
  v_NoTime_NoCar : PySem.W.subIn K (.ref A.C_NoTime) (.ref A.C_NoCar) = some false
  v_NoTime_NoSight : PySem.W.subIn K (.ref A.C_NoTime) (.ref A.C_NoSight) = some false
  v_Blind_TollError : PySem.W.subIn K (.ref A.C_Blind) (.ref A.C_TollError) = some true
  v_Blind_NoName : PySem.W.subIn K (.ref A.C_Blind) (.ref A.C_NoName) = some false
  v_Blind_SameGate : PySem.W.subIn K (.ref A.C_Blind) (.ref A.C_SameGate) = some false
  v_Blind_FullNet : PySem.W.subIn K (.ref A.C_Blind) (.ref A.C_FullNet) = some false
  v_Blind_NoGate : PySem.W.subIn K (.ref A.C_Blind) (.ref A.C_NoGate) = some false
  v_Blind_NoNumber : PySem.W.subIn K (.ref A.C_Blind) (.ref A.C_NoNumber) = some false
  v_Blind_NoRoad : PySem.W.subIn K (.ref A.C_Blind) (.ref A.C_NoRoad) = some false
  v_Blind_Already : PySem.W.subIn K (.ref A.C_Blind) (.ref A.C_Already) = some false
  v_Blind_NoTime : PySem.W.subIn K (.ref A.C_Blind) (.ref A.C_NoTime) = some false
  v_Blind_Blind : PySem.W.subIn K (.ref A.C_Blind) (.ref A.C_Blind) = some true
  v_Blind_NoCar : PySem.W.subIn K (.ref A.C_Blind) (.ref A.C_NoCar) = some false
  v_Blind_NoSight : PySem.W.subIn K (.ref A.C_Blind) (.ref A.C_NoSight) = some false
  v_NoCar_TollError : PySem.W.subIn K (.ref A.C_NoCar) (.ref A.C_TollError) = some true
  v_NoCar_NoName : PySem.W.subIn K (.ref A.C_NoCar) (.ref A.C_NoName) = some false
  v_NoCar_SameGate : PySem.W.subIn K (.ref A.C_NoCar) (.ref A.C_SameGate) = some false
  v_NoCar_FullNet : PySem.W.subIn K (.ref A.C_NoCar) (.ref A.C_FullNet) = some false
  v_NoCar_NoGate : PySem.W.subIn K (.ref A.C_NoCar) (.ref A.C_NoGate) = some false
  v_NoCar_NoNumber : PySem.W.subIn K (.ref A.C_NoCar) (.ref A.C_NoNumber) = some false
  v_NoCar_NoRoad : PySem.W.subIn K (.ref A.C_NoCar) (.ref A.C_NoRoad) = some false
  v_NoCar_Already : PySem.W.subIn K (.ref A.C_NoCar) (.ref A.C_Already) = some false
  v_NoCar_NoTime : PySem.W.subIn K (.ref A.C_NoCar) (.ref A.C_NoTime) = some false
  v_NoCar_Blind : PySem.W.subIn K (.ref A.C_NoCar) (.ref A.C_Blind) = some false
  v_NoCar_NoCar : PySem.W.subIn K (.ref A.C_NoCar) (.ref A.C_NoCar) = some true
  v_NoCar_NoSight : PySem.W.subIn K (.ref A.C_NoCar) (.ref A.C_NoSight) = some false
  v_NoSight_TollError : PySem.W.subIn K (.ref A.C_NoSight) (.ref A.C_TollError) = some true
  v_NoSight_NoName : PySem.W.subIn K (.ref A.C_NoSight) (.ref A.C_NoName) = some false
  v_NoSight_SameGate : PySem.W.subIn K (.ref A.C_NoSight) (.ref A.C_SameGate) = some false
  v_NoSight_FullNet : PySem.W.subIn K (.ref A.C_NoSight) (.ref A.C_FullNet) = some false
  v_NoSight_NoGate : PySem.W.subIn K (.ref A.C_NoSight) (.ref A.C_NoGate) = some false
  v_NoSight_NoNumber : PySem.W.subIn K (.ref A.C_NoSight) (.ref A.C_NoNumber) = some false
  v_NoSight_NoRoad : PySem.W.subIn K (.ref A.C_NoSight) (.ref A.C_NoRoad) = some false
  v_NoSight_Already : PySem.W.subIn K (.ref A.C_NoSight) (.ref A.C_Already) = some false
  v_NoSight_NoTime : PySem.W.subIn K (.ref A.C_NoSight) (.ref A.C_NoTime) = some false
  v_NoSight_Blind : PySem.W.subIn K (.ref A.C_NoSight) (.ref A.C_Blind) = some false
  v_NoSight_NoCar : PySem.W.subIn K (.ref A.C_NoSight) (.ref A.C_NoCar) = some false
  v_NoSight_NoSight : PySem.W.subIn K (.ref A.C_NoSight) (.ref A.C_NoSight) = some true
  m_SMALL_SIGNS : mg "SMALL_SIGNS" = some (.str k_SMALL_SIGNS A.tSMALL_SIGNS)
  m_MOST_SIGNS : mg "MOST_SIGNS" = some (.int 8 A.tMOST_SIGNS)
  m_NAME_SIGNS : mg "NAME_SIGNS" = some (.str k_NAME_SIGNS A.tNAME_SIGNS)
  m_MOST_GATES : mg "MOST_GATES" = some (.int 60 A.tMOST_GATES)
  m_MOST_ROADS : mg "MOST_ROADS" = some (.int 200 A.tMOST_ROADS)
  m_MOST_MINUTES : mg "MOST_MINUTES" = some (.int 1000000 A.tMOST_MINUTES)
  m_MOST_TOLL : mg "MOST_TOLL" = some (.int 1000000 A.tMOST_TOLL)
  m_LAST_TIME : mg "LAST_TIME" = some (.int 1000000000 A.tLAST_TIME)
  b_range : mg "range" = none
  b_len : mg "len" = none
  b_enumerate : mg "enumerate" = none
  b_all : mg "all" = none
  b_list : mg "list" = none
  b_dict : mg "dict" = none
  b_sorted : mg "sorted" = none
  b_str : mg "str" = none
  b_int : mg "int" = none
  b_isinstance : mg "isinstance" = none
  b_ValueError : mg "ValueError" = none
  q_heappop : mg "heappop" = some (.builtin "_heapq.heappop")
  q_heappush : mg "heappush" = some (.builtin "_heapq.heappush")
section
variable {P : Program} {w : World} {K : PySem.W.Frag} {mg : Str → Option Value} {base : Heap} {A : Ads}
def spCell (K : PySem.W.Frag) : Sp := fun vs H Q _ => ∃ (a : Addr) (ns : List Int) (k : Int), vs = [.ref a, .int k] ∧ SqL K H a (ns.map V.int) ∧ 0 ≤ k ∧ Q (.int (cellAt ns k)) H
def spMixed (K : PySem.W.Frag) : Sp := fun vs H Q _ => ∃ (a : Addr) (ns : List Int) (k : Int), vs = [.ref a, .int k] ∧ SqL K H a (ns.map V.int) ∧ 0 ≤ k ∧ k ≤ 1000000 ∧ Q (.int (mixed ns k)) H
theorem ok_l_mixed (T : Txt K mg A) : DefOk P w K mg base CX0 1 A.l_mixed ["_law_script", "_law_k"] (spMixed K) := by
  obtain ⟨fd, F⟩ := T.F_l_mixed
  refine ⟨fd, ?_, F.binds (ps := ["_law_script", "_law_k"]) fun _ _ _ _ _ _ us hl => match us, hl with | [_, _], _ => rfl, F.kp⟩
  refine F.ok sc_l_mixed (fun vs H Q E h => ?_) (fun cdv A outer s H vs Q E hr h => ?_)
  · obtain ⟨a, ns, k, rfl, _⟩ := h
    rfl
  · obtain ⟨a, ns, k, rfl, hS, hk, hk2, q⟩ := h
    refine ⟨_, (pss_cons (ps_set (i := 2) sc_l_mixed.nd rfl (by first | exact Or.inl rfl | exact Or.inr rfl) pe_int)
      (C8.pss_cut (ps_if (pt_cmpR op_gt (pe_callB call_len_seq (by rfl) T.b_len PySem.boot_len (pa_cons (pv 0) pa_nil)) pe_int (nomark _)) (pss_one (ps_set (i := 2) sc_l_mixed.nd rfl (by first | exact Or.inl rfl | exact Or.inr rfl) (pe_ix (r := rIxL K) ix_list (pv 0) (pe_op op_mod (pv 1) (pe_callB call_len_seq (by rfl) T.b_len PySem.boot_len (pa_cons (pv 0) pa_nil))) (fun _ _ => rfl)))) pss_nil)
      (pss_cons (ps_set (i := 3) sc_l_mixed.nd rfl (by first | exact Or.inl rfl | exact Or.inr rfl) (pe_op op_mod (pe_op op_mul (pe_op op_add (pv 2) (pe_op op_mul pe_int (pv 1))) pe_int) pe_int))
      (pss_one (ps_ret (pe_op op_mod (pe_op op_add (pe_op op_mul (pv 3) (pv 3)) (pe_op op_mul pe_int (pv 3))) pe_int)))))), ?_⟩
    walk_at "go"
    refine ⟨fun σ' H' => σ' = [some (.ref a), some (.int k), some (.int (mixCell ns k)), none] ∧ H = H', ?_, ?_⟩
    · walk_at "go"
      refine ⟨_, _, rfl, .inl hS, ?_⟩
      walk_at "go"
      rw [List.length_map]
      refine ite2 (fun h => ?_) (fun h => ?_)
      · have h1 : (0 : Int) < (ns.length : Int) := of_decide_eq_true h
        walk_at "go"
        refine ⟨_, _, rfl, .inl hS, ?_⟩
        rw [List.length_map]
        walk_at "go"
        have h2 := Int.emod_nonneg k (b := (ns.length : Int)) (by omega)
        have h3 := Int.emod_lt_of_pos k (b := (ns.length : Int)) (by omega)
        refine ⟨_, _, _, _, rfl, rfl, hS, atI_of (j := (k % (ns.length : Int)).toNat) (by omega) (map_int_get (by omega)), ?_⟩
        refine ⟨?_, rfl⟩
        unfold mixCell
        rw [if_pos (by omega)]
        rfl
      · have h1 : ¬ (0 : Int) < (ns.length : Int) := fun z => h (decide_eq_true z)
        refine ⟨?_, rfl⟩
        unfold mixCell
        rw [if_neg (by omega)]
        rfl
    rintro σ' H' ⟨rfl, rfl⟩
    have m0 := Int.emod_nonneg ((mixCell ns k + 7919 * k) * 48271) (b := 2147483647) (by decide)
    have m1 := Int.emod_lt_of_pos ((mixCell ns k + 7919 * k) * 48271) (b := 2147483647) (by decide)
    walk_at "go"
    rw [mixed_def] at q
    exact q
end
end Toll

set_option Elab.async false
set_option maxRecDepth 100000
set_option maxHeartbeats 4000000
namespace Toll
open PySem L2
local macro_rules | `(tactic| walk_at "go1") => `(tactic| first
  | refine ⟨_, rfl, ?_⟩
  | refine ⟨rfl, ?_⟩
  | refine ⟨_, _, rfl, rfl, ?_⟩
  | refine ⟨_, _, rfl, ?_⟩
  | (with_reducible refine' ⟨log_small ?k1 ?k2, ?_⟩; (case k1 => omega); (case k2 => omega))
  | (refine' ⟨?k1, ?_⟩; (case k1 => ((with_reducible show (_ : Int) < _); omega)))
  | (refine' ⟨⟨?k1, ?k2⟩, ?_⟩; (case k1 => omega); (case k2 => omega))
  | (refine' ⟨⟨?k1, ?k2, ?k3, ?k4⟩, ?_⟩; (case k1 => omega); (case k2 => omega); (case k3 => omega); (case k4 => omega))
  | (refine' ⟨.inl ⟨?k1, ?k2⟩, ?_⟩; (case k1 => omega); (case k2 => omega))
  | (refine' ⟨.inr ⟨?k1, ?k2⟩, ?_⟩; (case k1 => omega); (case k2 => omega))
  | (refine' ⟨Evl.sz_of ?k1, ?_⟩; (case k1 => omega))
  | (refine' ⟨?k1, ?_⟩; (case k1 => ((with_reducible show (_ : Int) ≤ _); omega)))
  | refine ⟨⟨_, rfl⟩, ?_⟩
  | refine .inl ⟨_, rfl, ?_⟩ | refine .inr ⟨_, rfl, ?_⟩
  | refine iteT ?_ | refine iteF ?_)
local macro_rules | `(tactic| walk_at "go") => `(tactic| repeat (walk_at "go1"))
local macro_rules | `(tactic| walk_at "ans") => `(tactic| (intro Q' q'; walk_at "go"; (try rw [dec_int]); (try rw [dec_str]); exact q'))
local macro_rules | `(tactic| walk_at "hp") => `(tactic| first | assumption | exact upd_same | (refine' up_same ?e ?h; (case e => assumption); (case h => walk_at "hp")) | (refine' upd_at ?n ?h; (case n => walk_at "ne"); (case h => walk_at "hp")))
local macro_rules | `(tactic| walk_at "ne") => `(tactic| first | assumption | (apply Ne.symm; assumption))
local macro_rules | `(tactic| walk_at "at") => `(tactic| first | exact atI_nat (j := 0) rfl | exact atI_nat (j := 1) rfl | exact atI_nat (j := 2) rfl | exact atI_nat (j := 3) rfl | exact atI_nat (j := 4) rfl)
local macro_rules | `(tactic| walk_at "step1") => `(tactic| first
  | walk_at "go1"
  | (apply ixL_step; (case h => walk_at "hp"); (case a => walk_at "at"))
  | (apply ixT_step; (case h => walk_at "hp"); (case a => walk_at "at"))
  | (apply lenL_step; (case h => walk_at "hp")))
local macro_rules | `(tactic| walk_at "step") => `(tactic| repeat (walk_at "step1"))
section
variable {P : Program} {w : World} {K : PySem.W.Frag} {mg : Str → Option Value} {base : Heap} {A : Ads}
def spName : Sp := fun vs H Q _ => ∃ (b t : Int), vs = [.int b, .int t] ∧ 0 ≤ b ∧ 0 ≤ t ∧ t ≤ 1000 ∧ ∀ H', Same H H' → Q (.str (nameOf b t)) H'
theorem ok_l_name (T : Txt K mg A) : DefOk P w K mg base CX0 1 A.l_name ["_law_base", "_law_turn"] spName := by
  obtain ⟨fd, F⟩ := T.F_l_name
  refine ⟨fd, ?_, F.binds (ps := ["_law_base", "_law_turn"]) fun _ _ _ _ _ _ us hl => match us, hl with | [_, _], _ => rfl, F.kp⟩
  refine F.ok sc_l_name (fun vs H Q E h => ?_) (fun cdv A outer s H vs Q E hr h => ?_)
  · obtain ⟨b, t, rfl, _⟩ := h
    rfl
  · obtain ⟨b, t, rfl, hb, ht, ht2, q⟩ := h
    refine ⟨_, (pss_cons (ps_set (i := 2) sc_l_name.nd rfl (by first | exact Or.inl rfl | exact Or.inr rfl) pe_str)
      (pss_cons (ps_setLc (i := 3) (own := [("_law_k", 6)]) rfl sc_l_name.nd rfl rfl (sw_true rfl rfl rfl (by decide +kernel)) (pi_range1 (by rfl) T.b_range (pa_cons pe_int pa_nil)) (blkOk_by (own := [("_law_k", 6)]) (N := n_l_name) (sc := defScope s_l_name) (by decide +kernel)) (fun _ _ _ _ _ => (pg_name (i := 6) sc_l_name.nd rfl (by first | exact Or.inl rfl | exact Or.inr rfl))) (fun _ _ _ _ _ => pts_nil) (fun _ _ _ _ _ => (pe_ix ix_str (pv 2) (pe_op op_mod (pe_op op_add (pe_op op_add (pe_op op_fdiv (pv 0) pe_int) (pe_op op_mul pe_int (pv 6))) (pe_op op_mul (pe_op op_fdiv (pv 0) pe_int) (pv 6))) pe_int) (fun _ _ => rfl))))
      (pss_cons (ps_asg (pe_ix ix_str (pv 2) (pe_op op_mod (pe_op op_fdiv (pv 0) pe_int) pe_int) (fun _ _ => rfl)) (pg_sub (pv 3) pe_int set_list))
      (pss_cons (ps_if (PW.pt (pw_and (pt_cmpR op_eq (pe_op op_mod (pv 0) pe_int) pe_int (nomark _)) (pw_and1 (pt_cmpR op_lt (pv 1) pe_int (nomark _))))) (pss_one (ps_ret (pe_join pe_str (pe_slice sl_list (pv 3) po_none (po_some (pe_op op_add pe_int (pv 1))))))) pss_nil)
      (pss_cons (ps_if (PW.pt (pw_or (pt_cmpR op_lt (pe_op op_mod (pv 0) pe_int) pe_int (nomark _)) (pw_or1 (pt_cmpR op_gt (pv 1) pe_int (nomark _))))) (pss_one (ps_ret (pe_op op_add_str (pe_join pe_str (pe_slice sl_list (pv 3) po_none (po_some (pe_op op_add pe_int (pe_op op_mod (pe_op op_fdiv (pv 0) pe_int) pe_int))))) (pe_callTy call_str_int (by rfl) T.b_str (by decide +kernel) (pa_cons (pv 1) pa_nil))))) pss_nil)
      (pss_cons (ps_set (i := 4) sc_l_name.nd rfl (by first | exact Or.inl rfl | exact Or.inr rfl) (pe_op op_add pe_int (pe_op op_mod (pe_op op_fdiv (pv 0) pe_int) pe_int)))
      (pss_cons (ps_set (i := 5) sc_l_name.nd rfl (by first | exact Or.inl rfl | exact Or.inr rfl) (pe_op op_mod (pe_op op_fdiv (pv 0) pe_int) (pv 4)))
      (pss_cons (ps_asg (pe_ix ix_str (pv 2) (pe_op op_mod (pe_op op_add (pe_op op_fdiv (pv 0) pe_int) (pv 1)) (pe_ix (r := rIxL K) ix_list (pe_lst (pa_cons pe_int (pa_cons pe_int pa_nil))) (pe_callTy call_int1 (by rfl) T.b_int (by decide +kernel) (pa_cons (pe_cmpR op_eq (pv 5) pe_int (nomark _)) pa_nil)) (fun _ _ => rfl))) (fun _ _ => rfl)) (pg_sub (pv 3) (pv 5) set_list))
      (pss_one (ps_ret (pe_join pe_str (pe_slice sl_list (pv 3) po_none (po_some (pv 4)))))))))))))), ?_⟩
    walk_at "go"
    intro D hD
    rw [← someS_def]
    refine lc_range (lo := 0) (n := 8) (fun i H' => Same H H' ∧ H' D = some (.lst (onesV ((List.range i).map fun (k : Nat) => sgn ((b / 64 + 7 * (k : Int) + b / 99991 * (k : Int)) % 36)))))
      ⟨same_up hD, upd_same⟩ ?_ ?_
    · rintro i H1 hi ⟨s1, hL⟩
      walk_at "go"
      refine ⟨someS, _, _, rfl, rfl, (by have := someS_len; exact Evl.sz_of (by show someS.cps.toList.length ≤ _; omega)), ix36 _, ?_⟩
      walk_at "go"
      refine ⟨_, hL, by rw [onesV_len]; simp; exact Evl.sz_lt (by omega), same_new s1 hD, ?_⟩
      rw [upd_same, List.range_succ, List.map_append, Int.zero_add]
      unfold onesV
      rw [List.map_append, List.map_append]
      rfl
    rintro H1 ⟨s1, hL⟩
    rw [← sg0_def] at hL
    walk_at "go"
    refine ⟨someS, _, _, rfl, rfl, (by have := someS_len; exact Evl.sz_of (by show someS.cps.toList.length ≤ _; omega)), ix26 _, ?_⟩
    walk_at "go"
    refine ⟨D, _, 0, 0, rfl, rfl, hL, ixN_of rfl (by rw [onesV_len, sg0_len]; decide), ?_⟩
    rw [onesV_set, ← sg_def]
    have s2 : Same H (upd H1 D (HO.lst (onesV (sg b)))) := same_new s1 hD
    have hL2 : (upd H1 D (HO.lst (onesV (sg b)))) D = some (.lst (onesV (sg b))) := upd_same
    generalize upd H1 D (HO.lst (onesV (sg b))) = H2 at s2 hL2
    have sl := sg_len b
    dsimp only
    refine seq_if1 (decide (b % 3 = 0) && decide (t < 8)) (an_and (by walk_at "ans") (fun _ => by walk_at "ans")) (fun h => ?_) (fun h => ?_)
    · simp only [Bool.and_eq_true, decide_eq_true_eq] at h
      have e : nameOf b t = sx ((sg b).take (1 + t).toNat) := by
        rw [nameOf_def, nameL, if_pos h]
      walk_at "go"
      refine ⟨D, _, rfl, SqL.of hL2, fun p hp => ?_⟩
      walk_at "go"
      rw [cut_to _ (by omega), onesV_take]
      refine ⟨_, p, ((sg b).take (1 + t).toNat).map one, rfl, rfl, .inl (SqL.of upd_same), ?_, ?_⟩
      · rw [sum_ones]
        show _ + _ * 0 ≤ _
        rw [List.length_take]
        omega
      rw [join_ones, ← e]
      exact q _ (same_new s2 (s2.free hp))
    have h3 : ¬ (b % 3 = 0 ∧ t < 8) := fun z => by simp [z.1, z.2] at h
    refine seq_if1 (decide (b % 3 < 2) || decide (25 < t)) (an_or (by walk_at "ans") (fun _ => by walk_at "ans")) (fun h => ?_) (fun h => ?_)
    · simp only [Bool.or_eq_true, decide_eq_true_eq] at h
      have e : nameOf b t = sx ((sg b).take (1 + b / 3 % 5).toNat) ++ sx (digs t) := by
        rw [nameOf_def, nameL, if_neg h3, if_pos h, sx_app]
      walk_at "go"
      refine ⟨D, _, rfl, SqL.of hL2, fun p hp => ?_⟩
      walk_at "go"
      rw [cut_to _ (by omega), onesV_take]
      refine ⟨_, p, ((sg b).take (1 + b / 3 % 5).toNat).map one, rfl, rfl, .inl (SqL.of upd_same), ?_, ?_⟩
      · rw [sum_ones]
        show _ + _ * 0 ≤ _
        rw [List.length_take]
        omega
      rw [join_ones]
      walk_at "go"
      rw [digs_sx ht]
      refine ⟨Evl.sz_of (by rw [sx_len, sx_len, List.length_take]; have := digs_len ht2; omega), ?_⟩
      rw [← e]
      exact q _ (same_new s2 (s2.free hp))
    · have h4 : ¬ (b % 3 < 2 ∨ 25 < t) := fun z => by rcases z with z | z <;> simp [z] at h
      have d0 := Int.emod_nonneg (b / 24) (b := 1 + b / 3 % 8) (by omega)
      have d1 := Int.emod_lt_of_pos (b / 24) (b := 1 + b / 3 % 8) (by omega)
      walk_at "go"
      refine ⟨by decide, fun p hp => ?_⟩
      walk_at "go"
      have e : nameOf b t = sx (((sg b).set (b / 24 % (1 + b / 3 % 8)).toNat (sgn ((b / 2311 + t) % (if b / 24 % (1 + b / 3 % 8) = 0 then 26 else 36)))).take (1 + b / 3 % 8).toNat) := by
        rw [nameOf_def, nameL, if_neg h3, if_neg h4]
      have hm : ∃ m : Int, (m = 26 ∨ m = 36) ∧ (if b / 24 % (1 + b / 3 % 8) = 0 then 26 else 36) = m ∧ atI [V.int 36, V.int 26] (if decide (V.int (b / 24 % (1 + b / 3 % 8)) = V.int 0) = true then 1 else 0) = some (V.int m) := by
        rw [dec_int]
        by_cases z : b / 24 % (1 + b / 3 % 8) = 0
        · rw [if_pos z, if_pos (decide_eq_true z)]
          exact ⟨26, .inl rfl, rfl, rfl⟩
        · rw [if_neg z, if_neg (by simpa using z)]
          exact ⟨36, .inr rfl, rfl, rfl⟩
      obtain ⟨m, hm1, hm2, hm3⟩ := hm
      rw [hm2] at e
      have c26 := someS_len
      have hx : atI someS.cps.toList ((b / 2311 + t) % m) = some (sgn ((b / 2311 + t) % m)) := by
        rcases hm1 with rfl | rfl
        · exact ix26 _
        · exact ix36 _
      refine ⟨p, _, _, _, rfl, rfl, SqL.of upd_same, hm3, ?_⟩
      walk_at "go"
      refine ⟨someS, _, _, rfl, rfl, Evl.sz_of (by show someS.cps.toList.length ≤ _; omega), hx, ?_⟩
      walk_at "go"
      have hpD : D ≠ p := ne_of_none hL2 hp
      refine ⟨D, _, _, (b / 24 % (1 + b / 3 % 8)).toNat, rfl, rfl, (by rw [upd_ne hpD]; exact hL2), ixN_of (by omega) (by rw [onesV_len, sl]; omega), ?_⟩
      rw [onesV_set]
      walk_at "go"
      refine ⟨D, _, rfl, SqL.of upd_same, fun r hr2 => ?_⟩
      walk_at "go"
      rw [cut_to _ (by omega), onesV_take]
      refine ⟨_, r, (((sg b).set (b / 24 % (1 + b / 3 % 8)).toNat (sgn ((b / 2311 + t) % m))).take (1 + b / 3 % 8).toNat).map one, rfl, rfl, .inl (SqL.of upd_same), ?_, ?_⟩
      · rw [sum_ones]
        show _ + _ * 0 ≤ _
        rw [List.length_take, List.length_set]
        omega
      rw [join_ones, ← e]
      have s3 : Same H (upd (upd H2 p (HO.lst [V.int 36, V.int 26])) D (HO.lst (onesV ((sg b).set (b / 24 % (1 + b / 3 % 8)).toNat (sgn ((b / 2311 + t) % m)))))) := same_new (same_new s2 (s2.free hp)) hD
      exact q _ (same_new s3 (s3.free hr2))
end
end Toll

set_option Elab.async false
set_option maxRecDepth 100000
set_option maxHeartbeats 4000000
namespace Toll
open PySem L2
local macro_rules | `(tactic| walk_at "go1") => `(tactic| first
  | refine ⟨_, rfl, ?_⟩
  | refine ⟨rfl, ?_⟩
  | refine ⟨_, _, rfl, rfl, ?_⟩
  | refine ⟨_, _, rfl, ?_⟩
  | (with_reducible refine' ⟨log_small ?k1 ?k2, ?_⟩; (case k1 => omega); (case k2 => omega))
  | (refine' ⟨?k1, ?_⟩; (case k1 => ((with_reducible show (_ : Int) < _); omega)))
  | (refine' ⟨⟨?k1, ?k2⟩, ?_⟩; (case k1 => omega); (case k2 => omega))
  | (refine' ⟨⟨?k1, ?k2, ?k3, ?k4⟩, ?_⟩; (case k1 => omega); (case k2 => omega); (case k3 => omega); (case k4 => omega))
  | (refine' ⟨.inl ⟨?k1, ?k2⟩, ?_⟩; (case k1 => omega); (case k2 => omega))
  | (refine' ⟨.inr ⟨?k1, ?k2⟩, ?_⟩; (case k1 => omega); (case k2 => omega))
  | (refine' ⟨Evl.sz_of ?k1, ?_⟩; (case k1 => omega))
  | (refine' ⟨?k1, ?_⟩; (case k1 => ((with_reducible show (_ : Int) ≤ _); omega)))
  | refine ⟨⟨_, rfl⟩, ?_⟩
  | refine .inl ⟨_, rfl, ?_⟩ | refine .inr ⟨_, rfl, ?_⟩
  | refine iteT ?_ | refine iteF ?_)
local macro_rules | `(tactic| walk_at "go") => `(tactic| repeat (walk_at "go1"))
local macro_rules | `(tactic| walk_at "ans") => `(tactic| (intro Q' q'; walk_at "go"; (try rw [dec_int]); (try rw [dec_str]); exact q'))
local macro_rules | `(tactic| walk_at "hp") => `(tactic| first | assumption | exact upd_same | (refine' up_same ?e ?h; (case e => assumption); (case h => walk_at "hp")) | (refine' upd_at ?n ?h; (case n => walk_at "ne"); (case h => walk_at "hp")))
local macro_rules | `(tactic| walk_at "ne") => `(tactic| first | assumption | (apply Ne.symm; assumption))
local macro_rules | `(tactic| walk_at "at") => `(tactic| first | exact atI_nat (j := 0) rfl | exact atI_nat (j := 1) rfl | exact atI_nat (j := 2) rfl | exact atI_nat (j := 3) rfl | exact atI_nat (j := 4) rfl)
local macro_rules | `(tactic| walk_at "step1") => `(tactic| first
  | walk_at "go1"
  | (apply ixL_step; (case h => walk_at "hp"); (case a => walk_at "at"))
  | (apply ixT_step; (case h => walk_at "hp"); (case a => walk_at "at"))
  | (apply lenL_step; (case h => walk_at "hp")))
local macro_rules | `(tactic| walk_at "step") => `(tactic| repeat (walk_at "step1"))
section
variable {P : Program} {w : World} {K : PySem.W.Frag} {mg : Str → Option Value} {base : Heap} {A : Ads}
theorem k_small : k_SMALL_SIGNS.cps.toList = List.range' 97 26 := by decide +kernel
theorem k_sign : k_NAME_SIGNS.cps.toList = List.range' 97 26 ++ List.range' 48 10 := by decide +kernel
def spNeed (A : Ads) : Sp := fun vs H Q E => ∃ (p g r : Addr) (N : NetD) (nm : Str), vs = [.ref p, .str nm] ∧ NetAt A.C_Net H p g r N ∧ nm.length ≤ 1000 ∧ PyData.strOk nm = true ∧
  (seesOf N.gates nm = none → E (.ref A.C_NoGate) none H) ∧ (∀ b, seesOf N.gates nm = some b → Q .non H)
theorem ok_N_need_gate (T : Txt K mg A) : DefOk P w K mg base (L2.CX P w) 1 A.N_need_gate ["self", "name"] (spNeed A) := by
  obtain ⟨fd, F⟩ := T.F_N_need_gate
  refine ⟨fd, ?_, F.binds (ps := ["self", "name"]) fun _ _ _ _ _ _ us hl => match us, hl with | [_, _], _ => rfl, F.kp⟩
  refine F.okX sc_N_need_gate (fun vs H Q E h => ?_) (fun cdv A' outer s H vs Q E hr h => ?_)
  · obtain ⟨p, g, r, N, nm, rfl, _⟩ := h
    rfl
  · obtain ⟨p, g, r, N, nm, rfl, hN, hl, ho, kE, kQ⟩ := h
    have hu := hu_of hr
    obtain ⟨⟨dx, hob⟩, hgt, _, _, _, _⟩ := id hN
    refine ⟨_, (pss_one (ps_if (pt_cmp (pc_dnotin hu (pv 1) (pe_fld (pv 0) rfl))) (pss_one (ps_raise rfl (takes_of rfl rfl rfl rfl) (SkE.pmk_own1 PySem.F.excBase_ValueError T.e_NoGate.x T.e_NoGate.g T.e_NoGate.k (raises_own T.e_NoGate.b T.e_NoGate.t) rfl (pe_joined (.cons pe_str (.cons (pe_fmtR (pv 1)) .nil)))))) pss_nil)), ?_⟩
    walk_at "go"
    refine ⟨p, _, dx, _, _, rfl, hob, T.c_Net, T.na_Net__gates, netF_gates _ _, g, _, rfl, DGet.k (k := Sum.inr nm) hgt, _, rfl, ?_⟩
    rw [valV_gates]
    cases e : seesOf N.gates nm with
    | some b =>
      refine iteF ?_
      exact kQ b e
    | none =>
      refine iteT ?_
      walk_at "go"
      refine ⟨by decide +kernel, ?_⟩
      walk_at "go"
      refine ⟨repr_ok hl ho, ?_⟩
      walk_at "go"
      refine ⟨cat_sz (by decide +kernel) (by have := repr_sz hl ho; omega), ?_⟩
      exact kE e
def spTurnGate (A : Ads) : Sp := fun vs H Q E => ∃ (p g r : Addr) (N : NetD) (nm : Str) (b : Bool), vs = [.ref p, .str nm, .bl b] ∧ NetAt A.C_Net H p g r N ∧ nm.length ≤ 1000 ∧ PyData.strOk nm = true ∧
  (seesOf N.gates nm = none → E (.ref A.C_NoGate) none H) ∧ (seesOf N.gates nm = some b → E (.ref A.C_Already) none H) ∧
  (seesOf N.gates nm = some (!b) → ∀ H', NetAt A.C_Net H' p g r { N with gates := setSees N.gates nm b } → Keep [g] H H' → Q .non H')
theorem ok_N__turn_gate (T : Txt K mg A) : DefOk P w K mg base (L2.CX P w) 2 A.N__turn_gate ["self", "name", "sees"] (spTurnGate A) := by
  obtain ⟨_, G_N_need_gate, B_N_need_gate, K_N_need_gate⟩ := ok_N_need_gate (P := P) (w := w) (base := base) T
  obtain ⟨fd, F⟩ := T.F_N__turn_gate
  refine ⟨fd, ?_, F.binds (ps := ["self", "name", "sees"]) fun _ _ _ _ _ _ us hl => match us, hl with | [_, _, _], _ => rfl, F.kp⟩
  refine F.okX sc_N__turn_gate (fun vs H Q E h => ?_) (fun cdv A' outer s H vs Q E hr h => ?_)
  · obtain ⟨p, g, r, N, nm, b, rfl, _⟩ := h
    rfl
  · obtain ⟨p, g, r, N, nm, b, rfl, hN, hl, ho, kE, kA, kQ⟩ := h
    have hu := hu_of hr
    obtain ⟨⟨dx, hob⟩, hgt, hrt, hnd, l1, l2⟩ := id hN
    refine ⟨_, (pss_cons (ps_expr (pe_meth (pv 0) T.c_Net T.M_N_need_gate G_N_need_gate (hr.mono (by decide)) B_N_need_gate .nil (passes_call (takes_of rfl rfl rfl rfl) fun _ _ _ _ h => h) (pa_cons (pv 1) pa_nil)))
      (pss_cons (ps_if (pt_cmpR op_eq (pe_dget hu (pe_fld (pv 0) rfl) (pv 1) (fun _ _ => rfl)) (pv 2) (nomark _)) (pss_one (ps_raise rfl (takes_of rfl rfl rfl rfl) (SkE.pmk_own1 PySem.F.excBase_ValueError T.e_Already.x T.e_Already.g T.e_Already.k (raises_own T.e_Already.b T.e_Already.t) rfl (pe_joined (.cons pe_str (.cons (pe_fmt (pv 1)) (.cons pe_str .nil))))))) pss_nil)
      (pss_one (ps_dput hu (pe_fld (pv 0) rfl) (pv 1) (pv 2) rfl)))), ?_⟩
    walk_at "go"
    refine ⟨p, dx, _, rfl, hob, netF_no _ _ (by decide +kernel) (by decide +kernel), ?_⟩
    walk_at "go"
    refine ⟨p, g, r, N, nm, rfl, hN, hl, ho, kE, fun c hc => ?_⟩
    walk_at "go"
    refine ⟨p, _, dx, _, _, rfl, hob, T.c_Net, T.na_Net__gates, netF_gates _ _, ?_⟩
    walk_at "go"
    refine ⟨g, .bl c, rfl, (by have := DGet.k (k := Sum.inr nm) hgt; rw [valV_gates, hc] at this; exact this), ?_⟩
    walk_at "go"
    rw [dec_bl]
    refine ite2 (fun h => ?_) (fun h => ?_)
    · have h : c = b := of_decide_eq_true h
      subst h
      walk_at "go"
      refine ⟨by decide +kernel, ?_⟩
      walk_at "go"
      refine ⟨cat_sz (by decide +kernel) (by omega), ?_⟩
      walk_at "go"
      refine ⟨sz3 (by decide +kernel) (by omega) (by decide +kernel), ?_⟩
      exact kA hc
    · have h : seesOf N.gates nm = some (!b) := by
        have h1 : ¬ c = b := fun z => h (decide_eq_true z)
        rw [hc]
        cases c <;> cases b <;> simp_all
      walk_at "go"
      refine ⟨p, _, dx, _, _, rfl, hob, T.c_Net, T.na_Net__gates, netF_gates _ _, ?_⟩
      walk_at "go"
      refine ⟨g, _, rfl, DPut.k (k := Sum.inr nm) hgt (small1000 (by simp [gatesK]; omega)), ?_⟩
      rw [putK_old_gates hc]
      exact kQ h _ (hN.setGates (by rw [setSees_names]; exact hnd) (by rw [setSees_len]; exact l1)) keep1
def spBlind (A : Ads) (b : Bool) : Sp := fun vs H Q E => ∃ (p g r : Addr) (N : NetD) (nm : Str), vs = [.ref p, .str nm] ∧ NetAt A.C_Net H p g r N ∧ nm.length ≤ 1000 ∧ PyData.strOk nm = true ∧
  (seesOf N.gates nm = none → E (.ref A.C_NoGate) none H) ∧ (seesOf N.gates nm = some b → E (.ref A.C_Already) none H) ∧
  (seesOf N.gates nm = some (!b) → ∀ H', NetAt A.C_Net H' p g r { N with gates := setSees N.gates nm b } → Keep [g] H H' → Q .non H')
theorem ok_N_blind (T : Txt K mg A) : DefOk P w K mg base (L2.CX P w) 3 A.N_blind ["self", "name"] (spBlind A false) := by
  obtain ⟨_, G_N__turn_gate, B_N__turn_gate, K_N__turn_gate⟩ := ok_N__turn_gate (P := P) (w := w) (base := base) T
  obtain ⟨fd, F⟩ := T.F_N_blind
  refine ⟨fd, ?_, F.binds (ps := ["self", "name"]) fun _ _ _ _ _ _ us hl => match us, hl with | [_, _], _ => rfl, F.kp⟩
  refine F.okX sc_N_blind (fun vs H Q E h => ?_) (fun cdv A' outer s H vs Q E hr h => ?_)
  · obtain ⟨p, g, r, N, nm, rfl, _⟩ := h
    rfl
  · obtain ⟨p, g, r, N, nm, rfl, hN, hl, ho, kE, kA, kQ⟩ := h
    obtain ⟨⟨dx, hob⟩, _⟩ := id hN
    refine ⟨_, (pss_one (ps_expr (pe_meth (pv 0) T.c_Net T.M_N__turn_gate G_N__turn_gate (hr.mono (by decide)) B_N__turn_gate .nil (passes_call (takes_of rfl rfl rfl rfl) fun _ _ _ _ h => h) (pa_cons (pv 1) (pa_cons pe_bl pa_nil))))), ?_⟩
    walk_at "go"
    refine ⟨p, dx, _, rfl, hob, netF_no _ _ (by decide +kernel) (by decide +kernel), ?_⟩
    walk_at "go"
    exact ⟨p, g, r, N, nm, false, rfl, hN, hl, ho, kE, kA, kQ⟩
theorem ok_N_mend (T : Txt K mg A) : DefOk P w K mg base (L2.CX P w) 3 A.N_mend ["self", "name"] (spBlind A true) := by
  obtain ⟨_, G_N__turn_gate, B_N__turn_gate, K_N__turn_gate⟩ := ok_N__turn_gate (P := P) (w := w) (base := base) T
  obtain ⟨fd, F⟩ := T.F_N_mend
  refine ⟨fd, ?_, F.binds (ps := ["self", "name"]) fun _ _ _ _ _ _ us hl => match us, hl with | [_, _], _ => rfl, F.kp⟩
  refine F.okX sc_N_mend (fun vs H Q E h => ?_) (fun cdv A' outer s H vs Q E hr h => ?_)
  · obtain ⟨p, g, r, N, nm, rfl, _⟩ := h
    rfl
  · obtain ⟨p, g, r, N, nm, rfl, hN, hl, ho, kE, kA, kQ⟩ := h
    obtain ⟨⟨dx, hob⟩, _⟩ := id hN
    refine ⟨_, (pss_one (ps_expr (pe_meth (pv 0) T.c_Net T.M_N__turn_gate G_N__turn_gate (hr.mono (by decide)) B_N__turn_gate .nil (passes_call (takes_of rfl rfl rfl rfl) fun _ _ _ _ h => h) (pa_cons (pv 1) (pa_cons pe_bl pa_nil))))), ?_⟩
    walk_at "go"
    refine ⟨p, dx, _, rfl, hob, netF_no _ _ (by decide +kernel) (by decide +kernel), ?_⟩
    walk_at "go"
    exact ⟨p, g, r, N, nm, true, rfl, hN, hl, ho, kE, kA, kQ⟩
end
end Toll

set_option Elab.async false
set_option maxRecDepth 100000
set_option maxHeartbeats 4000000
namespace Toll
open PySem L2
local macro_rules | `(tactic| walk_at "go1") => `(tactic| first
  | refine ⟨_, rfl, ?_⟩
  | refine ⟨rfl, ?_⟩
  | refine ⟨_, _, rfl, rfl, ?_⟩
  | refine ⟨_, _, rfl, ?_⟩
  | (with_reducible refine' ⟨log_small ?k1 ?k2, ?_⟩; (case k1 => omega); (case k2 => omega))
  | (refine' ⟨?k1, ?_⟩; (case k1 => ((with_reducible show (_ : Int) < _); omega)))
  | (refine' ⟨⟨?k1, ?k2⟩, ?_⟩; (case k1 => omega); (case k2 => omega))
  | (refine' ⟨⟨?k1, ?k2, ?k3, ?k4⟩, ?_⟩; (case k1 => omega); (case k2 => omega); (case k3 => omega); (case k4 => omega))
  | (refine' ⟨.inl ⟨?k1, ?k2⟩, ?_⟩; (case k1 => omega); (case k2 => omega))
  | (refine' ⟨.inr ⟨?k1, ?k2⟩, ?_⟩; (case k1 => omega); (case k2 => omega))
  | (refine' ⟨Evl.sz_of ?k1, ?_⟩; (case k1 => omega))
  | (refine' ⟨?k1, ?_⟩; (case k1 => ((with_reducible show (_ : Int) ≤ _); omega)))
  | refine ⟨⟨_, rfl⟩, ?_⟩
  | refine .inl ⟨_, rfl, ?_⟩ | refine .inr ⟨_, rfl, ?_⟩
  | refine iteT ?_ | refine iteF ?_)
local macro_rules | `(tactic| walk_at "go") => `(tactic| repeat (walk_at "go1"))
local macro_rules | `(tactic| walk_at "ans") => `(tactic| (intro Q' q'; walk_at "go"; (try rw [dec_int]); (try rw [dec_str]); exact q'))
local macro_rules | `(tactic| walk_at "hp") => `(tactic| first | assumption | exact upd_same | (refine' up_same ?e ?h; (case e => assumption); (case h => walk_at "hp")) | (refine' upd_at ?n ?h; (case n => walk_at "ne"); (case h => walk_at "hp")))
local macro_rules | `(tactic| walk_at "ne") => `(tactic| first | assumption | (apply Ne.symm; assumption))
local macro_rules | `(tactic| walk_at "at") => `(tactic| first | exact atI_nat (j := 0) rfl | exact atI_nat (j := 1) rfl | exact atI_nat (j := 2) rfl | exact atI_nat (j := 3) rfl | exact atI_nat (j := 4) rfl)
local macro_rules | `(tactic| walk_at "step1") => `(tactic| first
  | walk_at "go1"
  | (apply ixL_step; (case h => walk_at "hp"); (case a => walk_at "at"))
  | (apply ixT_step; (case h => walk_at "hp"); (case a => walk_at "at"))
  | (apply lenL_step; (case h => walk_at "hp")))
local macro_rules | `(tactic| walk_at "step") => `(tactic| repeat (walk_at "step1"))
section
variable {P : Program} {w : World} {K : PySem.W.Frag} {mg : Str → Option Value} {base : Heap} {A : Ads}
def spNetInit (A : Ads) : Sp := fun vs H Q _ => ∃ (p dx : Addr), vs = [.ref p] ∧ H p = some (.ins A.C_Net dx []) ∧ ∀ (g r : Addr) (H' : Hp), H g = none → H r = none → NetAt A.C_Net H' p g r ⟨[], []⟩ → Keep [p] H H' → Q .non H'
theorem ok_N_init (T : Txt K mg A) : DefOk P w K mg base CX0 1 A.N_init ["self"] (spNetInit A) := by
  obtain ⟨fd, F⟩ := T.F_N_init
  refine ⟨fd, ?_, F.binds (ps := ["self"]) fun _ _ _ _ _ _ us hl => match us, hl with | [_], _ => rfl, F.kp⟩
  refine F.ok sc_N_init (fun vs H Q E h => ?_) (fun cdv A' outer s H vs Q E hr h => ?_)
  · obtain ⟨p, dx, rfl, _⟩ := h
    rfl
  · obtain ⟨p, dx, rfl, hp, q⟩ := h
    refine ⟨_, (pss_cons (ps_fld (pv 0) pe_dnewK rfl)
      (pss_one (ps_fld (pv 0) (pe_lst pa_nil) rfl))), ?_⟩
    intro g hg
    have hpg : p ≠ g := ne_of_none hp hg
    walk_at "go"
    refine ⟨p, _, dx, [], rfl, (by rw [upd_ne hpg]; exact hp), T.c_Net, T.na_Net__gates, (by show 0 < 1000; decide), ?_⟩
    walk_at "go"
    refine ⟨Nat.zero_le _, fun r hr2 => ?_⟩
    have hpr : p ≠ r := ne_of_none upd_same hr2
    have hrg : r ≠ g := fun z => by
      subst z
      rw [upd_ne hpg.symm, upd_same] at hr2
      cases hr2
    walk_at "go"
    refine ⟨p, _, dx, _, rfl, (by rw [upd_ne hpr]; exact upd_same), T.c_Net, T.na_Net__roads, (by show 1 < 1000; decide), ?_⟩
    have hr0 : H r = none := by
      rw [upd_ne hpr.symm, upd_ne hrg] at hr2
      exact hr2
    refine q g r _ hg hr0 ⟨⟨dx, upd_same⟩, ?_, ⟨[], ?_, .nil⟩, List.nodup_nil, by simp, by simp⟩ ?_
    · rw [upd_ne hpg.symm, upd_ne hrg.symm, upd_ne hpg.symm, upd_same]
      rfl
    · rw [upd_ne hpr.symm, upd_same]
    · exact ((((Keep.of_same (Same.refl H)).upd (.inr hg)).upd (.inl (by simp))).upd (.inr hr0)).upd (.inl (by simp))
def spIsName : Sp := fun vs H Q _ => ∃ z : Str, vs = [.str z] ∧ z.length ≤ 1000 ∧ ∀ H', Same H H' → Q (.bl (isName z.cps.toList)) H'
theorem ok_is_name (T : Txt K mg A) : DefOk P w K mg base CX0 1 A.is_name ["text"] spIsName := by
  obtain ⟨fd, F⟩ := T.F_is_name
  refine ⟨fd, ?_, F.binds (ps := ["text"]) fun _ _ _ _ _ _ us hl => match us, hl with | [_], _ => rfl, F.kp⟩
  refine F.ok sc_is_name (fun vs H Q E h => ?_) (fun cdv A outer s H vs Q E hr h => ?_)
  · obtain ⟨z, rfl, _⟩ := h
    rfl
  · obtain ⟨z, rfl, hz, k⟩ := h
    refine ⟨_, (pss_cons (ps_if (PW.pt (pw_or (pt_cmpR op_eq (pv 0) pe_str (nomark _)) (pw_or1 (pt_cmpR op_gt (pe_callB call_len_str (by rfl) T.b_len PySem.boot_len (pa_cons (pv 0) pa_nil)) (pe_glob (v := .int 8) rfl T.m_MOST_SIGNS ⟨_, rfl⟩) (nomark _))))) (pss_one (ps_ret pe_bl)) pss_nil)
      (pss_cons (ps_if (pt_cmpR op_notIn_sign (pe_ix ix_str (pv 0) pe_int (fun _ _ => rfl)) (pe_glob (v := .str k_SMALL_SIGNS) rfl T.m_SMALL_SIGNS ⟨_, rfl⟩) rfl) (pss_one (ps_ret pe_bl)) pss_nil)
      (pss_one (ps_ret (pe_callB (cr_all rfl) (by rfl) T.b_all (by decide +kernel) (pa_cons (pe_lc (own := [("sign", 1)]) rfl sc_is_name.nd (pi_str (pv 0)) (blkOk_by (own := [("sign", 1)]) (N := n_is_name) (sc := defScope s_is_name) (by decide +kernel)) (fun _ _ _ _ _ => (pg_name (i := 1) sc_is_name.nd rfl (by first | exact Or.inl rfl | exact Or.inr rfl))) (fun _ _ _ _ _ => pts_nil) (fun _ _ _ _ _ => (pe_cmpR op_in_sign (pv 1) (pe_glob (v := .str k_NAME_SIGNS) rfl T.m_NAME_SIGNS ⟨_, rfl⟩) rfl))) pa_nil)))))), ?_⟩
    walk_at "go"
    refine ite2 (fun h => ?_) (fun h => ?_)
    · have e : isName z.cps.toList = false := by
        have h1 := of_decide_eq_true h
        cases h1
        rfl
      rw [← e]
      exact k _ (Same.refl H)
    · have hl : z.length = z.cps.toList.length := rfl
      have hp : 0 < z.cps.toList.length := by
        cases q : z.cps.toList with
        | nil => exact absurd (decide_eq_true (by rw [show z = (Str.ofString "") from (congrArg Str.mk (Array.toList_inj.mp q))])) h
        | cons _ _ => simp
      walk_at "go"
      refine ite2 (fun h2 => ?_) (fun h2 => ?_)
      · have h3 : (8 : Int) < z.length := of_decide_eq_true h2
        have e : isName z.cps.toList = false := by
          unfold isName
          rw [decide_eq_false (show ¬ z.cps.toList.length ≤ 8 by omega)]
          simp
        rw [← e]
        exact k _ (Same.refl H)
      · have h3 : ¬ (8 : Int) < z.length := fun q => h2 (decide_eq_true q)
        obtain ⟨c, cs, hc⟩ : ∃ c cs, z.cps.toList = c :: cs := by
          cases q : z.cps.toList with
          | nil => rw [q] at hp; cases hp
          | cons c cs => exact ⟨c, cs, rfl⟩
        walk_at "go"
        refine ⟨z, 0, c, rfl, rfl, Evl.sz_of (by omega), atI_nat (j := 0) (by rw [hc]; rfl), c, _, rfl, rfl, _, rfl, ?_⟩
        rw [mem_small k_small]
        refine ite2 (fun h4 => ?_) (fun h4 => ?_)
        · have e : isName z.cps.toList = false := by
            unfold isName
            have h5 : smallC c = false := by simpa using h4
            rw [hc, show (c :: cs).getD 0 0 = c from rfl, h5]
            simp
          rw [← e]
          exact k _ (Same.refl H)
        · have h5 : smallC c = true := by simpa using h4
          have e : isName z.cps.toList = ((z.cps.toList.map signC).all id) := by
            unfold isName
            rw [decide_eq_true hp, decide_eq_true (show z.cps.toList.length ≤ 8 by omega), hc, show (c :: cs).getD 0 0 = c from rfl, h5]
            simp
          refine ⟨_, rfl, _, rfl, fun D hD => ?_⟩
          refine lc_it (walk_str (z := z)) (fun i H' => Same H H' ∧ H' D = some (.lst (((z.cps.toList.take i).map signC).map V.bl)))
            ⟨same_up hD, upd_same⟩ (fun _ _ _ _ => trivial) ?_ ?_
          · rintro i x H1 H2 hi ⟨s1, hL⟩ ⟨rfl, c', hc', rfl⟩
            have hc2 : z.cps.toList[i]? = some c' := by rw [← hc']; simp
            refine ⟨rfl, ?_⟩
            walk_at "go"
            rw [mem_sign k_sign]
            refine ⟨_, hL, ?_, same_new s1 hD, ?_⟩
            · have : i < z.cps.size := hi
              simp
              refine Evl.sz_lt (Nat.lt_of_le_of_lt (Nat.min_le_left _ _) ?_)
              have : z.length = z.cps.size := rfl
              omega
            · rw [upd_same, List.take_add_one, hc2]
              simp
          · rintro H1 ⟨s1, hL⟩
            rw [show z.cps.size = z.cps.toList.length from rfl, List.take_length] at hL
            refine ⟨D, _, rfl, SqL.of hL, ?_⟩
            rw [← e]
            exact k _ s1
def spGate (A : Ads) : Sp := fun vs H Q E => ∃ (p g r : Addr) (N : NetD) (nm : Str) (b : Bool), vs = [.ref p, .str nm, .bl b] ∧ NetAt A.C_Net H p g r N ∧ nm.length ≤ 1000 ∧ PyData.strOk nm = true ∧
  (isName nm.cps.toList = false → ∀ H', Same H H' → E (.ref A.C_NoName) none H') ∧
  (isName nm.cps.toList = true → seesOf N.gates nm ≠ none → ∀ H', Same H H' → E (.ref A.C_SameGate) none H') ∧
  (isName nm.cps.toList = true → seesOf N.gates nm = none → 60 ≤ N.gates.length → ∀ H', Same H H' → E (.ref A.C_FullNet) none H') ∧
  (isName nm.cps.toList = true → seesOf N.gates nm = none → N.gates.length < 60 → ∀ H', NetAt A.C_Net H' p g r { N with gates := N.gates ++ [(nm, b)] } → Keep [g] H H' → Q .non H')
theorem ok_N_gate (T : Txt K mg A) : DefOk P w K mg base (L2.CX P w) 2 A.N_gate ["self", "name", "sees"] (spGate A) := by
  obtain ⟨_, G_is_name, B_is_name, K_is_name⟩ := ok_is_name (P := P) (w := w) (base := base) T
  obtain ⟨fd, F⟩ := T.F_N_gate
  refine ⟨fd, ?_, F.binds (ps := ["self", "name", "sees"]) fun _ _ _ _ _ _ us hl => match us, hl with | [_, _, _], _ => rfl, F.kp⟩
  refine F.okX sc_N_gate (fun vs H Q E h => ?_) (fun cdv A' outer s H vs Q E hr h => ?_)
  · obtain ⟨p, g, r, N, nm, b, rfl, _⟩ := h
    rfl
  · obtain ⟨p, g, r, N, nm, b, rfl, hN, hl, ho, kN, kS, kF, kQ⟩ := h
    have hu := hu_of hr
    refine ⟨_, (pss_cons (ps_if (pt_not (pt_val (pe_call G_is_name (hr.mono (by decide)) rfl T.m_is_name K_is_name B_is_name .nil pass0 (pa_cons (pv 1) pa_nil)))) (pss_one (ps_raise rfl (takes_of rfl rfl rfl rfl) (SkE.pmk_own1 PySem.F.excBase_ValueError T.e_NoName.x T.e_NoName.g T.e_NoName.k (raises_own T.e_NoName.b T.e_NoName.t) rfl (pe_joined (.cons (pe_fmtR (pv 1)) (.cons pe_str .nil)))))) pss_nil)
      (pss_cons (ps_if (pt_cmp (pc_din hu (pv 1) (pe_fld (pv 0) rfl))) (pss_one (ps_raise rfl (takes_of rfl rfl rfl rfl) (SkE.pmk_own1 PySem.F.excBase_ValueError T.e_SameGate.x T.e_SameGate.g T.e_SameGate.k (raises_own T.e_SameGate.b T.e_SameGate.t) rfl (pe_joined (.cons pe_str (.cons (pe_fmt (pv 1)) .nil)))))) pss_nil)
      (pss_cons (ps_if (pt_cmpR op_ge (pe_callB call_lenD (by rfl) T.b_len PySem.boot_len (pa_cons (pe_fld (pv 0) rfl) pa_nil)) (pe_glob (v := .int 60) rfl T.m_MOST_GATES ⟨_, rfl⟩) (nomark _)) (pss_one (ps_raise rfl (takes_of rfl rfl rfl rfl) (SkE.pmk_own1 PySem.F.excBase_ValueError T.e_FullNet.x T.e_FullNet.g T.e_FullNet.k (raises_own T.e_FullNet.b T.e_FullNet.t) rfl (pe_joined (.cons pe_str (.cons (pe_fmt (pe_glob (v := .int 60) rfl T.m_MOST_GATES ⟨_, rfl⟩)) (.cons pe_str .nil))))))) pss_nil)
      (pss_one (ps_dput hu (pe_fld (pv 0) rfl) (pv 1) (pv 2) rfl))))), ?_⟩
    walk_at "go"
    refine ⟨hl, fun H1 s1 => ?_⟩
    have hN1 := hN.same s1
    obtain ⟨⟨dx, hob⟩, hgt, ⟨us, hrt, hP⟩, hnd, l1, l2⟩ := id hN1
    cases e : isName nm.cps.toList with
    | false =>
      walk_at "go"
      refine ⟨repr_ok hl ho, ?_⟩
      walk_at "go"
      refine ⟨cat_sz2 (n := 0) (m := 20000) (by decide +kernel) (repr_sz hl ho) (by decide), ?_⟩
      walk_at "go"
      refine ⟨sz3 (by decide +kernel) (by have := repr_sz hl ho; omega) (by decide +kernel), ?_⟩
      exact kN e H1 s1
    | true =>
      walk_at "go"
      refine ⟨p, _, dx, _, _, rfl, hob, T.c_Net, T.na_Net__gates, netF_gates _ _, g, _, rfl, DGet.k (k := Sum.inr nm) hgt, _, rfl, ?_⟩
      rw [valV_gates]
      cases e2 : seesOf N.gates nm with
      | some c =>
        refine iteT ?_
        walk_at "go"
        refine ⟨by decide +kernel, ?_⟩
        walk_at "go"
        refine ⟨cat_sz (by decide +kernel) (by omega), ?_⟩
        exact kS e (by rw [e2]; simp) H1 s1
      | none =>
        refine iteF ?_
        walk_at "go"
        refine ⟨p, _, dx, _, _, rfl, hob, T.c_Net, T.na_Net__gates, netF_gates _ _, ?_⟩
        walk_at "go"
        refine ⟨g, _, rfl, hgt, ?_⟩
        walk_at "go"
        rw [show (gatesK N.gates).length = N.gates.length by simp [gatesK]]
        refine ite2 (fun h => ?_) (fun h => ?_)
        · have h : (60 : Int) ≤ N.gates.length := of_decide_eq_true h
          walk_at "go"
          refine ⟨by decide +kernel, ?_⟩
          walk_at "go"
          refine ⟨by decide +kernel, ?_⟩
          walk_at "go"
          refine ⟨by decide +kernel, ?_⟩
          exact kF e e2 (by omega) H1 s1
        · have h : ¬ (60 : Int) ≤ N.gates.length := fun z => h (decide_eq_true z)
          walk_at "go"
          refine ⟨p, _, dx, _, _, rfl, hob, T.c_Net, T.na_Net__gates, netF_gates _ _, ?_⟩
          walk_at "go"
          refine ⟨g, _, rfl, DPut.k (k := Sum.inr nm) hgt (small1000 (by simp [gatesK]; omega)), ?_⟩
          rw [putK_new_gates e2]
          refine kQ e e2 (by omega) _ (hN1.setGates (gs := N.gates ++ [(nm, b)]) ?_ (by rw [List.length_append]; simp; omega)) ((Keep.of_same s1).upd (.inl (by simp)))
          rw [List.map_append, List.nodup_append]
          refine ⟨hnd, by simp, fun x hx y hy => ?_⟩
          simp at hy
          subst hy
          intro z
          subst z
          exact (seesOf_none.mp e2) hx
end
end Toll

set_option Elab.async false
set_option maxRecDepth 100000
set_option maxHeartbeats 4000000
namespace Toll
open PySem L2
local macro_rules | `(tactic| walk_at "go1") => `(tactic| first
  | refine ⟨_, rfl, ?_⟩
  | refine ⟨rfl, ?_⟩
  | refine ⟨_, _, rfl, rfl, ?_⟩
  | refine ⟨_, _, rfl, ?_⟩
  | (with_reducible refine' ⟨log_small ?k1 ?k2, ?_⟩; (case k1 => omega); (case k2 => omega))
  | (refine' ⟨?k1, ?_⟩; (case k1 => ((with_reducible show (_ : Int) < _); omega)))
  | (refine' ⟨⟨?k1, ?k2⟩, ?_⟩; (case k1 => omega); (case k2 => omega))
  | (refine' ⟨⟨?k1, ?k2, ?k3, ?k4⟩, ?_⟩; (case k1 => omega); (case k2 => omega); (case k3 => omega); (case k4 => omega))
  | (refine' ⟨.inl ⟨?k1, ?k2⟩, ?_⟩; (case k1 => omega); (case k2 => omega))
  | (refine' ⟨.inr ⟨?k1, ?k2⟩, ?_⟩; (case k1 => omega); (case k2 => omega))
  | (refine' ⟨Evl.sz_of ?k1, ?_⟩; (case k1 => omega))
  | (refine' ⟨?k1, ?_⟩; (case k1 => ((with_reducible show (_ : Int) ≤ _); omega)))
  | refine ⟨⟨_, rfl⟩, ?_⟩
  | refine .inl ⟨_, rfl, ?_⟩ | refine .inr ⟨_, rfl, ?_⟩
  | refine iteT ?_ | refine iteF ?_)
local macro_rules | `(tactic| walk_at "go") => `(tactic| repeat (walk_at "go1"))
local macro_rules | `(tactic| walk_at "ans") => `(tactic| (intro Q' q'; walk_at "go"; (try rw [dec_int]); (try rw [dec_str]); exact q'))
local macro_rules | `(tactic| walk_at "hp") => `(tactic| first | assumption | exact upd_same | (refine' up_same ?e ?h; (case e => assumption); (case h => walk_at "hp")) | (refine' upd_at ?n ?h; (case n => walk_at "ne"); (case h => walk_at "hp")))
local macro_rules | `(tactic| walk_at "ne") => `(tactic| first | assumption | (apply Ne.symm; assumption))
local macro_rules | `(tactic| walk_at "at") => `(tactic| first | exact atI_nat (j := 0) rfl | exact atI_nat (j := 1) rfl | exact atI_nat (j := 2) rfl | exact atI_nat (j := 3) rfl | exact atI_nat (j := 4) rfl)
local macro_rules | `(tactic| walk_at "step1") => `(tactic| first
  | walk_at "go1"
  | (apply ixL_step; (case h => walk_at "hp"); (case a => walk_at "at"))
  | (apply ixT_step; (case h => walk_at "hp"); (case a => walk_at "at"))
  | (apply lenL_step; (case h => walk_at "hp")))
local macro_rules | `(tactic| walk_at "step") => `(tactic| repeat (walk_at "step1"))
section
variable {P : Program} {w : World} {K : PySem.W.Frag} {mg : Str → Option Value} {base : Heap} {A : Ads}
def spRoad (A : Ads) : Sp := fun vs H Q E => ∃ (p g r : Addr) (N : NetD) (one other : Str) (mi tl : Int), vs = [.ref p, .str one, .str other, .int mi, .int tl] ∧ NetAt A.C_Net H p g r N ∧ one.length ≤ 1000 ∧ PyData.strOk one = true ∧ other.length ≤ 1000 ∧ PyData.strOk other = true ∧
  (seesOf N.gates one = none ∨ seesOf N.gates other = none → E (.ref A.C_NoGate) none H) ∧
  (seesOf N.gates one ≠ none → seesOf N.gates other ≠ none → one = other → E (.ref A.C_SameGate) none H) ∧
  (seesOf N.gates one ≠ none → seesOf N.gates other ≠ none → one ≠ other → ¬ ((1 ≤ mi ∧ mi ≤ 1000000) ∧ (0 ≤ tl ∧ tl ≤ 1000000)) → E (.ref A.C_NoNumber) none H) ∧
  (seesOf N.gates one ≠ none → seesOf N.gates other ≠ none → one ≠ other → (1 ≤ mi ∧ mi ≤ 1000000) ∧ (0 ≤ tl ∧ tl ≤ 1000000) → 200 ≤ N.roads.length → E (.ref A.C_FullNet) none H) ∧
  (seesOf N.gates one ≠ none → seesOf N.gates other ≠ none → one ≠ other → (1 ≤ mi ∧ mi ≤ 1000000) ∧ (0 ≤ tl ∧ tl ≤ 1000000) → N.roads.length < 200 →
    ∀ H', NetAt A.C_Net H' p g r { N with roads := N.roads ++ [⟨one, other, mi, tl, true⟩] } → Keep [r] H H' → Q (.int (N.roads.length : Int)) H')
theorem ok_N_road (T : Txt K mg A) : DefOk P w K mg base (L2.CX P w) 2 A.N_road ["self", "one", "other", "minutes", "toll"] (spRoad A) := by
  obtain ⟨_, G_N_need_gate, B_N_need_gate, K_N_need_gate⟩ := ok_N_need_gate (P := P) (w := w) (base := base) T
  obtain ⟨fd, F⟩ := T.F_N_road
  refine ⟨fd, ?_, F.binds (ps := ["self", "one", "other", "minutes", "toll"]) fun _ _ _ _ _ _ us hl => match us, hl with | [_, _, _, _, _], _ => rfl, F.kp⟩
  refine F.okX sc_N_road (fun vs H Q E h => ?_) (fun cdv A' outer s H vs Q E hr h => ?_)
  · obtain ⟨p, g, r, N, one, other, mi, tl, rfl, _⟩ := h
    rfl
  · obtain ⟨p, g, r, N, one, other, mi, tl, rfl, hN, h1, o1, h2, o2, kG, kS, kN, kF, kQ⟩ := h
    obtain ⟨⟨dx, hob⟩, hgt, ⟨us, hrt, hP⟩, hnd, l1, l2⟩ := id hN
    have hus := paired_len hP
    refine ⟨_, (pss_cons (ps_expr (pe_meth (pv 0) T.c_Net T.M_N_need_gate G_N_need_gate (hr.mono (by decide)) B_N_need_gate .nil (passes_call (takes_of rfl rfl rfl rfl) fun _ _ _ _ h => h) (pa_cons (pv 1) pa_nil)))
      (pss_cons (ps_expr (pe_meth (pv 0) T.c_Net T.M_N_need_gate G_N_need_gate (hr.mono (by decide)) B_N_need_gate .nil (passes_call (takes_of rfl rfl rfl rfl) fun _ _ _ _ h => h) (pa_cons (pv 2) pa_nil)))
      (pss_cons (ps_if (pt_cmpR op_eq (pv 1) (pv 2) (nomark _)) (pss_one (ps_raise rfl (takes_of rfl rfl rfl rfl) (SkE.pmk_own1 PySem.F.excBase_ValueError T.e_SameGate.x T.e_SameGate.g T.e_SameGate.k (raises_own T.e_SameGate.b T.e_SameGate.t) rfl pe_str))) pss_nil)
      (pss_cons (ps_if (pt_not (pt_chain op_le op_le pe_int (pv 3) (pe_glob (v := .int 1000000) rfl T.m_MOST_MINUTES ⟨_, rfl⟩))) (pss_one (ps_raise rfl (takes_of rfl rfl rfl rfl) (SkE.pmk_own1 PySem.F.excBase_ValueError T.e_NoNumber.x T.e_NoNumber.g T.e_NoNumber.k (raises_own T.e_NoNumber.b T.e_NoNumber.t) rfl (pe_joined (.cons pe_str (.cons (pe_fmt (pe_glob (v := .int 1000000) rfl T.m_MOST_MINUTES ⟨_, rfl⟩)) .nil)))))) pss_nil)
      (pss_cons (ps_if (pt_not (pt_chain op_le op_le pe_int (pv 4) (pe_glob (v := .int 1000000) rfl T.m_MOST_TOLL ⟨_, rfl⟩))) (pss_one (ps_raise rfl (takes_of rfl rfl rfl rfl) (SkE.pmk_own1 PySem.F.excBase_ValueError T.e_NoNumber.x T.e_NoNumber.g T.e_NoNumber.k (raises_own T.e_NoNumber.b T.e_NoNumber.t) rfl (pe_joined (.cons pe_str (.cons (pe_fmt (pe_glob (v := .int 1000000) rfl T.m_MOST_TOLL ⟨_, rfl⟩)) .nil)))))) pss_nil)
      (pss_cons (ps_if (pt_cmpR op_ge (pe_callB call_len_seq (by rfl) T.b_len PySem.boot_len (pa_cons (pe_fld (pv 0) rfl) pa_nil)) (pe_glob (v := .int 200) rfl T.m_MOST_ROADS ⟨_, rfl⟩) (nomark _)) (pss_one (ps_raise rfl (takes_of rfl rfl rfl rfl) (SkE.pmk_own1 PySem.F.excBase_ValueError T.e_FullNet.x T.e_FullNet.g T.e_FullNet.k (raises_own T.e_FullNet.b T.e_FullNet.t) rfl (pe_joined (.cons pe_str (.cons (pe_fmt (pe_glob (v := .int 200) rfl T.m_MOST_ROADS ⟨_, rfl⟩)) (.cons pe_str .nil))))))) pss_nil)
      (pss_cons (ps_expr (pe_bm PySem.F.plainAttrs_list PySem.F.slot_list_append PySem.F.type_list_append mt_append (pe_fld (pv 0) rfl) (pa_cons (pe_tup (pa_cons (pv 1) (pa_cons (pv 2) (pa_cons (pv 3) (pa_cons (pv 4) (pa_cons pe_bl pa_nil)))))) pa_nil)))
      (pss_one (ps_ret (pe_op op_sub (pe_callB call_len_seq (by rfl) T.b_len PySem.boot_len (pa_cons (pe_fld (pv 0) rfl) pa_nil)) pe_int)))))))))), ?_⟩
    walk_at "go"
    refine ⟨p, dx, _, rfl, hob, netF_no _ _ (by decide +kernel) (by decide +kernel), ?_⟩
    walk_at "go"
    refine ⟨p, g, r, N, one, rfl, hN, h1, o1, fun e => kG (.inl e), fun b1 e1 => ?_⟩
    have e1 : seesOf N.gates one ≠ none := by rw [e1]; simp
    walk_at "go"
    refine ⟨p, dx, _, rfl, hob, netF_no _ _ (by decide +kernel) (by decide +kernel), ?_⟩
    walk_at "go"
    refine ⟨p, g, r, N, other, rfl, hN, h2, o2, fun e => kG (.inr e), fun b2 e2 => ?_⟩
    have e2 : seesOf N.gates other ≠ none := by rw [e2]; simp
    walk_at "go"
    rw [dec_str]
    refine ite2 (fun h => ?_) (fun h => ?_)
    · exact kS e1 e2 (of_decide_eq_true h)
    have e3 : one ≠ other := fun z => h (decide_eq_true z)
    walk_at "go"
    refine ite2 (fun m1 => ?_) (fun m1 => ?_)
    rotate_left
    · have m1 : ¬ 1 ≤ mi := fun z => m1 (decide_eq_true z)
      walk_at "go"
      refine ⟨by decide +kernel, ?_⟩
      walk_at "go"
      refine ⟨by decide +kernel, ?_⟩
      exact kN e1 e2 e3 (by omega)
    have m1 : 1 ≤ mi := of_decide_eq_true m1
    walk_at "go"
    refine ite2 (fun m2 => ?_) (fun m2 => ?_)
    · have m2 : ¬ mi ≤ 1000000 := by simpa using m2
      walk_at "go"
      refine ⟨by decide +kernel, ?_⟩
      walk_at "go"
      refine ⟨by decide +kernel, ?_⟩
      exact kN e1 e2 e3 (by omega)
    have m2 : mi ≤ 1000000 := by simpa using m2
    walk_at "go"
    refine ite2 (fun t1 => ?_) (fun t1 => ?_)
    rotate_left
    · have t1 : ¬ 0 ≤ tl := fun z => t1 (decide_eq_true z)
      walk_at "go"
      refine ⟨by decide +kernel, ?_⟩
      walk_at "go"
      refine ⟨by decide +kernel, ?_⟩
      exact kN e1 e2 e3 (by omega)
    have t1 : 0 ≤ tl := of_decide_eq_true t1
    walk_at "go"
    refine ite2 (fun t2 => ?_) (fun t2 => ?_)
    · have t2 : ¬ tl ≤ 1000000 := by simpa using t2
      walk_at "go"
      refine ⟨by decide +kernel, ?_⟩
      walk_at "go"
      refine ⟨by decide +kernel, ?_⟩
      exact kN e1 e2 e3 (by omega)
    have t2 : tl ≤ 1000000 := by simpa using t2
    walk_at "go"
    refine ⟨p, _, dx, _, _, rfl, hob, T.c_Net, T.na_Net__roads, netF_roads _ _, ?_⟩
    walk_at "go"
    refine ⟨r, us, rfl, .inl (SqL.of hrt), ?_⟩
    walk_at "go"
    refine ite2 (fun h => ?_) (fun h => ?_)
    · have h : (200 : Int) ≤ us.length := of_decide_eq_true h
      walk_at "go"
      refine ⟨by decide +kernel, ?_⟩
      walk_at "go"
      refine ⟨by decide +kernel, ?_⟩
      walk_at "go"
      refine ⟨by decide +kernel, ?_⟩
      exact kF e1 e2 e3 ⟨⟨m1, m2⟩, t1, t2⟩ (by omega)
    · have h : ¬ (200 : Int) ≤ us.length := fun z => h (decide_eq_true z)
      walk_at "go"
      refine ⟨p, _, dx, _, _, rfl, hob, T.c_Net, T.na_Net__roads, netF_roads _ _, ?_⟩
      refine ⟨.inl ⟨rfl, _, SqL.of hrt⟩, ?_⟩
      walk_at "go"
      refine ⟨(by show 5 ≤ sizeLine; decide), fun q hq => ?_⟩
      have hqp : p ≠ q := ne_of_none hob hq
      have hqr : r ≠ q := ne_of_none hrt hq
      walk_at "go"
      refine ⟨r, us, _, rfl, rfl, (by rw [upd_ne hqr]; exact hrt), Evl.sz_lt (by omega), ?_⟩
      walk_at "go"
      have hN2 : NetAt A.C_Net (upd H q (.tup [.str one, .str other, .int mi, .int tl, .bl true])) p g r N := hN.same (same_up hq)
      have hP2 := roads_same (same_up (o := .tup [.str one, .str other, .int mi, .int tl, .bl true]) hq) hP
      have hN3 := hN2.setRoads (us := us ++ [.ref q]) (rs := N.roads ++ [⟨one, other, mi, tl, true⟩]) (Paired.snoc hP2 ⟨q, rfl, upd_same⟩) (by rw [List.length_append]; simp; omega)
      obtain ⟨dx3, hob3⟩ := hN3.ob
      refine ⟨p, _, dx3, _, _, rfl, hob3, T.c_Net, T.na_Net__roads, netF_roads _ _, ?_⟩
      walk_at "go"
      refine ⟨r, _, rfl, .inl (SqL.of upd_same), ?_⟩
      walk_at "go"
      have e : (((us ++ [V.ref q]).length : Nat) : Int) - 1 = (N.roads.length : Int) := by
        rw [List.length_append, hus]
        simp
      show Q (V.int ((((us ++ [V.ref q]).length : Nat) : Int) - 1)) _
      rw [e]
      exact kQ e1 e2 e3 ⟨⟨m1, m2⟩, t1, t2⟩ (by omega) _ hN3 ((Keep.of_same (same_up hq)).upd (.inl (by simp)))
def spGates (A : Ads) : Sp := fun vs H Q _ => ∃ (p g r : Addr) (N : NetD), vs = [.ref p] ∧ NetAt A.C_Net H p g r N ∧ ∀ (H' : Hp) (L : Addr) (us : List V), Same H H' → H L = none → H' L = some (.lst us) → Paired (GateV H') us N.gates → Q (.ref L) H'
theorem ok_N_gates (T : Txt K mg A) : DefOk P w K mg base CX0 1 A.N_gates ["self"] (spGates A) := by
  obtain ⟨fd, F⟩ := T.F_N_gates
  refine ⟨fd, ?_, F.binds (ps := ["self"]) fun _ _ _ _ _ _ us hl => match us, hl with | [_], _ => rfl, F.kp⟩
  refine F.ok sc_N_gates (fun vs H Q E h => ?_) (fun cdv A' outer s H vs Q E hr h => ?_)
  · obtain ⟨p, g, r, N, rfl, _⟩ := h
    rfl
  · obtain ⟨p, g, r, N, rfl, hN, q⟩ := h
    obtain ⟨⟨dx, hob⟩, hgt, ⟨us, hrt, hP⟩, hnd, l1, l2⟩ := id hN
    refine ⟨_, (pss_one (ps_ret (LiI.pe_listItems rfl (pe_fld (pv 0) rfl) (by rfl) T.b_list (by decide +kernel)))), ?_⟩
    walk_at "go"
    refine ⟨p, _, dx, _, _, rfl, hob, T.c_Net, T.na_Net__gates, netF_gates _ _, ?_⟩
    walk_at "go"
    refine ⟨g, _, rfl, hgt, fun H' L ts s hL _ _ hLs hp => ?_⟩
    exact q H' L _ s hL hLs (gates_paired hp)
def spNetRoads (A : Ads) : Sp := fun vs H Q _ => ∃ (p g r : Addr) (N : NetD), vs = [.ref p] ∧ NetAt A.C_Net H p g r N ∧ ∀ (H' : Hp) (L : Addr) (us : List V), Same H H' → H L = none → H' L = some (.lst us) → Paired (RoadV H') us N.roads → Q (.ref L) H'
theorem ok_N_roads (T : Txt K mg A) : DefOk P w K mg base CX0 1 A.N_roads ["self"] (spNetRoads A) := by
  obtain ⟨fd, F⟩ := T.F_N_roads
  refine ⟨fd, ?_, F.binds (ps := ["self"]) fun _ _ _ _ _ _ us hl => match us, hl with | [_], _ => rfl, F.kp⟩
  refine F.ok sc_N_roads (fun vs H Q E h => ?_) (fun cdv A' outer s H vs Q E hr h => ?_)
  · obtain ⟨p, g, r, N, rfl, _⟩ := h
    rfl
  · obtain ⟨p, g, r, N, rfl, hN, q⟩ := h
    obtain ⟨⟨dx, hob⟩, hgt, ⟨us, hrt, hP⟩, hnd, l1, l2⟩ := id hN
    refine ⟨_, (pss_one (ps_ret (pe_callTy call_list_of (by rfl) T.b_list (by decide +kernel) (pa_cons (pe_fld (pv 0) rfl) pa_nil)))), ?_⟩
    walk_at "go"
    refine ⟨p, _, dx, _, _, rfl, hob, T.c_Net, T.na_Net__roads, netF_roads _ _, ?_⟩
    walk_at "go"
    refine ⟨r, us, rfl, .inl (SqL.of hrt), fun L hL => ?_⟩
    exact q _ L us (same_up hL) hL upd_same (roads_same (same_up hL) hP)
end
end Toll

set_option Elab.async false
set_option maxRecDepth 100000
set_option maxHeartbeats 4000000
set_option linter.all false
namespace Toll
open PySem L2
local macro_rules | `(tactic| walk_at "go1") => `(tactic| first
  | refine ⟨_, rfl, ?_⟩
  | refine ⟨rfl, ?_⟩
  | refine ⟨_, _, rfl, rfl, ?_⟩
  | refine ⟨_, _, rfl, ?_⟩
  | (with_reducible refine' ⟨log_small ?k1 ?k2, ?_⟩; (case k1 => omega); (case k2 => omega))
  | (refine' ⟨?k1, ?_⟩; (case k1 => ((with_reducible show (_ : Int) < _); omega)))
  | (refine' ⟨⟨?k1, ?k2⟩, ?_⟩; (case k1 => omega); (case k2 => omega))
  | (refine' ⟨⟨?k1, ?k2, ?k3, ?k4⟩, ?_⟩; (case k1 => omega); (case k2 => omega); (case k3 => omega); (case k4 => omega))
  | (refine' ⟨.inl ⟨?k1, ?k2⟩, ?_⟩; (case k1 => omega); (case k2 => omega))
  | (refine' ⟨.inr ⟨?k1, ?k2⟩, ?_⟩; (case k1 => omega); (case k2 => omega))
  | (refine' ⟨Evl.sz_of ?k1, ?_⟩; (case k1 => omega))
  | (refine' ⟨?k1, ?_⟩; (case k1 => ((with_reducible show (_ : Int) ≤ _); omega)))
  | refine ⟨⟨_, rfl⟩, ?_⟩
  | refine .inl ⟨_, rfl, ?_⟩ | refine .inr ⟨_, rfl, ?_⟩
  | refine iteT ?_ | refine iteF ?_)
local macro_rules | `(tactic| walk_at "go") => `(tactic| repeat (walk_at "go1"))
local macro_rules | `(tactic| walk_at "ans") => `(tactic| (intro Q' q'; walk_at "go"; (try rw [dec_int]); (try rw [dec_str]); exact q'))
local macro_rules | `(tactic| walk_at "hp") => `(tactic| first | assumption | exact upd_same | (refine' up_same ?e ?h; (case e => assumption); (case h => walk_at "hp")) | (refine' upd_at ?n ?h; (case n => walk_at "ne"); (case h => walk_at "hp")))
local macro_rules | `(tactic| walk_at "ne") => `(tactic| first | assumption | (apply Ne.symm; assumption))
local macro_rules | `(tactic| walk_at "at") => `(tactic| first | exact atI_nat (j := 0) rfl | exact atI_nat (j := 1) rfl | exact atI_nat (j := 2) rfl | exact atI_nat (j := 3) rfl | exact atI_nat (j := 4) rfl)
local macro_rules | `(tactic| walk_at "step1") => `(tactic| first
  | walk_at "go1"
  | (apply ixL_step; (case h => walk_at "hp"); (case a => walk_at "at"))
  | (apply ixT_step; (case h => walk_at "hp"); (case a => walk_at "at"))
  | (apply lenL_step; (case h => walk_at "hp")))
local macro_rules | `(tactic| walk_at "step") => `(tactic| repeat (walk_at "step1"))
section
variable {P : Program} {w : World} {K : PySem.W.Frag} {mg : Str → Option Value} {base : Heap} {A : Ads}
/-- the ways of each gate, new lists in a new dict -/
def WaysAt (H : Hp) (N : NetD) (wk : List (Key × V)) (n : Nat) : Prop := ∀ nm, seesOf N.gates nm ≠ none → ∃ a vs, valV wk (Sum.inr nm) = some (.ref a) ∧ H a = some (.lst vs) ∧ Paired (WayV H) vs (waysF N nm n)
def spWaysBy (A : Ads) : Sp := fun vs H Q _ => ∃ (p g r : Addr) (N : NetD), vs = [.ref p] ∧ NetAt A.C_Net H p g r N ∧ NetOk N ∧
  ∀ (H' : Hp) (W : Addr) (wk : List (Key × V)), Same H H' → H' W = some (.dK wk) → WaysAt H' N wk N.roads.length → Q (.ref W) H'
theorem ok_ways_by_gate (T : Txt K mg A) : DefOk P w K mg base CX0 2 A.ways_by_gate ["net"] (spWaysBy A) := by
  obtain ⟨_, G_N_gates, B_N_gates, K_N_gates⟩ := ok_N_gates (P := P) (w := w) (base := base) T
  obtain ⟨_, G_N_roads, B_N_roads, K_N_roads⟩ := ok_N_roads (P := P) (w := w) (base := base) T
  obtain ⟨fd, F⟩ := T.F_ways_by_gate
  refine ⟨fd, ?_, F.binds (ps := ["net"]) fun _ _ _ _ _ _ us hl => match us, hl with | [_], _ => rfl, F.kp⟩
  refine F.ok sc_ways_by_gate (fun vs H Q E h => ?_) (fun cdv A' outer s H vs Q E hr h => ?_)
  · obtain ⟨p, g, r, N, rfl, _⟩ := h
    rfl
  · obtain ⟨p, g, r, N, rfl, hN, hOk, q⟩ := h
    have hu := hu_of hr
    refine ⟨_, (pss_cons (ps_set (i := 1) sc_ways_by_gate.nd rfl (by first | exact Or.inl rfl | exact Or.inr rfl) pe_dnewK)
      (pss_cons (ps_set (i := 2) sc_ways_by_gate.nd rfl (by first | exact Or.inl rfl | exact Or.inr rfl) pe_dnewK)
      (pss_cons (ps_for PassesOwn.never rfl (pi_enum (by rfl) T.b_enumerate (pa_cons (pe_meth0 (pv 0) T.c_Net T.M_N_gates G_N_gates (hr.mono (by decide)) B_N_gates .nil pass0) pa_nil)) (pg_tup (by rfl) (pgs_cons (pg_name (i := 3) sc_ways_by_gate.nd rfl (by first | exact Or.inl rfl | exact Or.inr rfl)) (pgs_cons (pg_tup (by rfl) (pgs_cons (pg_name (i := 4) sc_ways_by_gate.nd rfl (by first | exact Or.inl rfl | exact Or.inr rfl)) (pgs_cons (pg_name (i := 5) sc_ways_by_gate.nd rfl (by first | exact Or.inl rfl | exact Or.inr rfl)) pgs_nil))) pgs_nil))) (pss_cons (ps_dput hu (pv 1) (pv 4) (pv 3) rfl)
      (pss_one (ps_dput hu (pv 2) (pv 4) (pe_lst pa_nil) rfl))))
      (pss_cons (ps_for PassesOwn.never rfl (pi_enum (by rfl) T.b_enumerate (pa_cons (pe_meth0 (pv 0) T.c_Net T.M_N_roads G_N_roads (hr.mono (by decide)) B_N_roads .nil pass0) pa_nil)) (pg_tup (by rfl) (pgs_cons (pg_name (i := 6) sc_ways_by_gate.nd rfl (by first | exact Or.inl rfl | exact Or.inr rfl)) (pgs_cons (pg_tup (by rfl) (pgs_cons (pg_name (i := 7) sc_ways_by_gate.nd rfl (by first | exact Or.inl rfl | exact Or.inr rfl)) (pgs_cons (pg_name (i := 8) sc_ways_by_gate.nd rfl (by first | exact Or.inl rfl | exact Or.inr rfl)) (pgs_cons (pg_name (i := 9) sc_ways_by_gate.nd rfl (by first | exact Or.inl rfl | exact Or.inr rfl)) (pgs_cons (pg_name (i := 10) sc_ways_by_gate.nd rfl (by first | exact Or.inl rfl | exact Or.inr rfl)) (pgs_cons (pg_name (i := 11) sc_ways_by_gate.nd rfl (by first | exact Or.inl rfl | exact Or.inr rfl)) pgs_nil)))))) pgs_nil))) (pss_one (ps_if (pt_val (pv 11)) (pss_one (ps_expr (pe_bm PySem.F.plainAttrs_list PySem.F.slot_list_append PySem.F.type_list_append mt_append (pe_dget hu (pv 2) (pv 7) (fun _ _ => rfl)) (pa_cons (pe_tup (pa_cons (pv 6) (pa_cons (pe_dget hu (pv 1) (pv 8) (fun _ _ => rfl)) (pa_cons (pv 9) (pa_cons (pv 10) pa_nil))))) pa_nil)))) pss_nil)))
      (pss_one (ps_ret (pv 2))))))), ?_⟩
    have gl60 := hN.l1
    have rl200 := hN.l2
    intro T0 hT0
    walk_at "go"
    intro W hW
    have hTW : T0 ≠ W := ne_of_none upd_same hW
    have nW : H W = none := by rw [upd_ne hTW.symm] at hW; exact hW
    have s1 : Same H (upd (upd H T0 (.dK [])) W (.dK [])) := same_new (same_up hT0) nW
    have h1T : (upd (upd H T0 (.dK [])) W (.dK [])) T0 = some (.dK []) := upd_at hTW upd_same
    have h1W : (upd (upd H T0 (.dK [])) W (.dK [])) W = some (.dK []) := upd_same
    generalize upd (upd H T0 (.dK [])) W (.dK []) = H1 at s1 h1T h1W
    obtain ⟨dx, hob⟩ := hN.ob
    walk_at "go"
    refine ⟨p, dx, _, rfl, s1 _ _ hob, netF_no _ _ (by decide +kernel) (by decide +kernel), p, g, r, N, rfl, hN.same s1, fun H2 Lg us2 s2 n2 h2 p2 => ?_⟩
    have gl := paired_len p2
    walk_at "go"
    have s12 := s1.trans s2
    have h2T := s2 _ _ h1T
    have h2W := s2 _ _ h1W
    have hLT : Lg ≠ T0 := (ne_of_none h1T n2).symm
    have hLW : Lg ≠ W := (ne_of_none h1W n2).symm
    refine ⟨Lg, us2, rfl, SqL.of h2, ?_⟩
    refine for_it (walk_enum (K := K) (a := Lg) (xs := us2)) (fun i σ' H' => ∃ tk wk v3 v4 v5, σ' = [some (.ref p), some (.ref T0), some (.ref W), v3, v4, v5, none, none, none, none, none, none] ∧ Keep [T0, W] H2 H' ∧ H' T0 = some (.dK tk) ∧ H' W = some (.dK wk) ∧ tk.length ≤ i ∧ wk.length ≤ i ∧
        (∀ nm t c, t < i → N.gates[t]? = some (nm, c) → valV tk (Sum.inr nm) = some (.int (t : Int)) ∧ ∃ a, valV wk (Sum.inr nm) = some (.ref a) ∧ H' a = some (.lst [])) ∧
        (∀ nm v, valV wk (Sum.inr nm) = some v → ∃ a, v = .ref a ∧ H2 a = none ∧ (∃ vs, H' a = some (.lst vs)) ∧ ∃ t c, t < i ∧ N.gates[t]? = some (nm, c)) ∧
        (∀ nm nm' v, valV wk (Sum.inr nm) = some v → valV wk (Sum.inr nm') = some v → nm = nm'))
      ⟨[], [], none, none, none, rfl, Keep.of_same (Same.refl _), h2T, h2W, Nat.le_refl _, Nat.le_refl _, fun nm t c h => absurd h (by omega), fun nm v h => (by rw [valV_nil] at h; cases h), fun nm nm' v h => (by rw [valV_nil] at h; cases h)⟩
      (fun i σ H' _ ⟨_, _, _, _, _, _, k, _⟩ => SqL.of (k _ _ h2 (by simp [hLT, hLW]))) ?_ ?_
    · rintro i x σ' H3 H4 hi ⟨tk, wk, v3, v4, v5, rfl, k3, hT3, hW3, lt, lw, f1, f2, f3⟩ ⟨t, x1, x2, rfl, ht, rfl, e3, e4⟩
      cases e3
      obtain ⟨gq, hgq, tg, rfl, htg⟩ := paired_getL p2 e4
      have kt : ∀ u, H2 u = none ∨ u = T0 ∨ u = W ∨ H3 u ≠ none := fun u => by
        cases e : H2 u with
        | none => exact .inl rfl
        | some z =>
          by_cases m : u ∈ [T0, W]
          · simp at m
            rcases m with m | m
            · exact .inr (.inl m)
            · exact .inr (.inr (.inl m))
          · exact .inr (.inr (.inr (by rw [k3 u z e m]; simp)))
      have fr3 : ∀ u, H3 u = none → H2 u = none := fun u hu => by
        rcases kt u with z | z | z | z
        · exact z
        · rw [z, hT3] at hu; cases hu
        · rw [z, hW3] at hu; cases hu
        · exact absurd hu z
      have htg3 := k3 _ _ htg (by
        have a1 : tg ≠ T0 := ne_of htg h2T (by intro z; cases z)
        have a2 : tg ≠ W := ne_of htg h2W (by intro z; cases z)
        simp [a1, a2])
      have s4 := same_up (o := HO.tup [V.int (i : Int), V.ref tg]) ht
      have hti : (upd H3 t (HO.tup [V.int (i : Int), V.ref tg])) t = some (.tup [V.int (i : Int), V.ref tg]) := upd_same
      generalize upd H3 t (HO.tup [V.int (i : Int), V.ref tg]) = H5 at s4 hti
      replace htg3 := s4 _ _ htg3
      have hT5 := s4 _ _ hT3
      have hW5 := s4 _ _ hW3
      refine ⟨t, _, rfl, SqT.of hti, rfl, ?_⟩
      walk_at "go"
      refine ⟨tg, _, rfl, SqT.of htg3, rfl, ?_⟩
      refine ⟨_, _, rfl, _, _, rfl, rfl, rfl, ?_⟩
      walk_at "go"
      have hil : i < N.gates.length := (List.getElem?_eq_some_iff.mp hgq).1
      refine ⟨T0, _, rfl, DPut.k (k := Sum.inr gq.1) hT5 (small1000 (by omega)), ?_⟩
      have hW6 := upd_at (o := HO.dK (putK tk (Sum.inr gq.1) (V.int (i : Int)))) hTW.symm hW5
      have hT6 : (upd H5 T0 (.dK (putK tk (Sum.inr gq.1) (V.int (i : Int))))) T0 = some (.dK (putK tk (Sum.inr gq.1) (V.int (i : Int)))) := upd_same
      have k6 : Keep [T0, W] H2 (upd H5 T0 (.dK (putK tk (Sum.inr gq.1) (V.int (i : Int))))) := (k3.trans (Keep.of_same s4)).upd (.inl (by simp))
      have l6 : ∀ a vs, H3 a = some (.lst vs) → (upd H5 T0 (.dK (putK tk (Sum.inr gq.1) (V.int (i : Int))))) a = some (.lst vs) := fun a vs e => upd_at (ne_of e hT3 (by intro z; cases z)) (s4 _ _ e)
      have n6 : ∀ a, (upd H5 T0 (.dK (putK tk (Sum.inr gq.1) (V.int (i : Int))))) a = none → H3 a = none := fun a e => by
        have ne : a ≠ T0 := fun z => by rw [z, hT6] at e; cases e
        rw [upd_ne ne] at e
        exact s4.free e
      generalize upd H5 T0 (.dK (putK tk (Sum.inr gq.1) (V.int (i : Int)))) = H6 at hW6 hT6 k6 l6 n6
      walk_at "go"
      refine ⟨Nat.zero_le _, fun a ha => ?_⟩
      have haW : W ≠ a := ne_of_none hW6 ha
      have haT : T0 ≠ a := ne_of_none hT6 ha
      walk_at "go"
      refine ⟨W, _, rfl, DPut.k (k := Sum.inr gq.1) (upd_at haW hW6) (small1000 (by omega)), ?_⟩
      have ha3 := n6 a ha
      have old : ∀ b vs, H3 b = some (.lst vs) → (upd (upd H6 a (.lst [])) W (.dK (putK wk (Sum.inr gq.1) (V.ref a)))) b = some (.lst vs) := fun b vs e =>
        upd_at (ne_of e hW3 (by intro z; cases z)) (upd_at (ne_of_none e ha3) (l6 b vs e))
      have hnew : (upd (upd H6 a (.lst [])) W (.dK (putK wk (Sum.inr gq.1) (V.ref a)))) a = some (.lst []) := upd_at haW.symm upd_same
      have nin : ∀ t c, t < i → N.gates[t]? ≠ some (gq.1, c) := fun t c h e => by
        have := nodup_at hN.nd e (show N.gates[i]? = some (gq.1, gq.2) from hgq)
        omega
      refine ⟨_, _, _, _, _, rfl, (k6.upd (.inr (fr3 a ha3))).upd (.inl (by simp)), upd_at hTW (upd_at haT hT6), upd_same, Nat.le_trans (putK_le _ _ _) (by omega), Nat.le_trans (putK_le _ _ _) (by omega), fun nm t' c h e => ?_, fun nm v e => ?_, fun nm nm' v e e' => ?_⟩
      · rw [valV_put, valV_put]
        by_cases z : t' = i
        · subst z
          rw [hgq] at e
          have e := Option.some.inj e
          subst e
          rw [if_pos rfl, if_pos rfl]
          exact ⟨rfl, a, rfl, hnew⟩
        · have hne : ¬ ((Sum.inr nm : Key) = Sum.inr gq.1) := fun y => nin t' c (by omega) (by rw [← key_inr.mp y]; exact e)
          rw [if_neg hne, if_neg hne]
          obtain ⟨g1, b, g2, g3⟩ := f1 nm t' c (by omega) e
          exact ⟨g1, b, g2, old b _ g3⟩
      · rw [valV_put] at e
        by_cases y : (Sum.inr nm : Key) = Sum.inr gq.1
        · rw [if_pos y] at e
          have e := Option.some.inj e
          exact ⟨a, e.symm, fr3 a ha3, ⟨[], hnew⟩, i, gq.2, by omega, by rw [key_inr.mp y]; exact hgq⟩
        · rw [if_neg y] at e
          obtain ⟨b, g1, g2, ⟨vs, g3⟩, t', c, g4, g5⟩ := f2 nm v e
          exact ⟨b, g1, g2, ⟨vs, old b _ g3⟩, t', c, by omega, g5⟩
      · rw [valV_put] at e e'
        by_cases y : (Sum.inr nm : Key) = Sum.inr gq.1 <;> by_cases y' : (Sum.inr nm' : Key) = Sum.inr gq.1
        · rw [key_inr.mp y, key_inr.mp y']
        · rw [if_pos y] at e
          rw [if_neg y'] at e'
          obtain ⟨b, g1, _, ⟨vs, g3⟩, _⟩ := f2 nm' v e'
          have e := Option.some.inj e
          rw [← e] at g1
          injection g1 with g1
          rw [← g1, ha3] at g3
          cases g3
        · rw [if_pos y'] at e'
          rw [if_neg y] at e
          obtain ⟨b, g1, _, ⟨vs, g3⟩, _⟩ := f2 nm v e
          have e' := Option.some.inj e'
          rw [← e'] at g1
          injection g1 with g1
          rw [← g1, ha3] at g3
          cases g3
        · rw [if_neg y] at e
          rw [if_neg y'] at e'
          exact f3 nm nm' v e e'
    rintro σ' H3 ⟨tk, wk, v3, v4, v5, rfl, k3, hT3, hW3, lt, lw, f1, f2, f3⟩
    have c3 : ∀ u o, H u = some o → H3 u = some o := fun u o e => k3 u o (s12 _ _ e) (by
      have a1 : u ≠ T0 := fun z => by rw [z, hT0] at e; cases e
      have a2 : u ≠ W := fun z => by rw [z, nW] at e; cases e
      simp [a1, a2])
    have c3 : Same H H3 := c3
    have n3 := hN.same c3
    walk_at "go"
    refine ⟨p, dx, _, rfl, c3 _ _ hob, netF_no _ _ (by decide +kernel) (by decide +kernel), p, g, r, N, rfl, n3, fun H4 Lr us4 s4 n4 h4 p4 => ?_⟩
    have rl := paired_len p4
    have hT4 := s4 _ _ hT3
    have hW4 := s4 _ _ hW3
    have hLW4 : Lr ≠ W := (ne_of_none hW3 n4).symm
    walk_at "go"
    refine ⟨Lr, us4, rfl, SqL.of h4, ?_⟩
    rw [gl] at f1 f2
    refine for_it (walk_enum (K := K) (a := Lr) (xs := us4)) (fun i σ' H' => ∃ v3 v4 v5 v6 v7 v8 v9 v10 v11, σ' = [some (.ref p), some (.ref T0), some (.ref W), v3, v4, v5, v6, v7, v8, v9, v10, v11] ∧ (∀ u o, H4 u = some o → (∀ nm, valV wk (Sum.inr nm) ≠ some (.ref u)) → H' u = some o) ∧
        (∀ u, H' u = none → H4 u = none) ∧ ∀ nm v, valV wk (Sum.inr nm) = some v → ∃ a vs, v = .ref a ∧ H' a = some (.lst vs) ∧ Paired (WayV H') vs (waysF N nm i))
      ⟨v3, v4, v5, none, none, none, none, none, none, rfl, fun u o e _ => e, fun u e => e, fun nm v e => ?_⟩ (fun i σ H' _ ⟨_, _, _, _, _, _, _, _, _, _, k, _⟩ => SqL.of (k _ _ h4 fun nm z => ?_)) ?_ ?_
    · obtain ⟨a, g1, g2, _, t, c, g4, g5⟩ := f2 nm v e
      obtain ⟨_, b, h1, h2⟩ := f1 nm t c g4 g5
      rw [e] at h1
      have h1 := Option.some.inj h1
      exact ⟨b, [], h1, s4 _ _ h2, .nil⟩
    · obtain ⟨a, g1, _, ⟨vs, g3⟩, _⟩ := f2 nm _ z
      injection g1 with g1
      rw [← g1, n4] at g3
      cases g3
    · rintro i x σ' H5 H6 hi ⟨v3, v4, v5, v6, v7, v8, v9, v10, v11, rfl, k5, b5, f5⟩ ⟨t, x1, x2, rfl, ht, rfl, e3, e4⟩
      cases e3
      obtain ⟨rd, hrd, rq, rfl, hrq⟩ := paired_getL p4 e4
      have il : i < N.roads.length := (List.getElem?_eq_some_iff.mp hrd).1
      have wkl : ∀ nm v, valV wk (Sum.inr nm) = some v → ∃ a vs, v = .ref a ∧ H4 a = some (.lst vs) := fun nm v e => by
        obtain ⟨a, g1, _, ⟨vs, g3⟩, _⟩ := f2 nm v e
        exact ⟨a, vs, g1, s4 _ _ g3⟩
      have nol : ∀ u o, H4 u = some o → (∀ vs, o ≠ .lst vs) → H5 u = some o := fun u o e ne => k5 u o e fun nm z => by
        obtain ⟨a, vs, g1, g2⟩ := wkl nm _ z
        injection g1 with g1
        rw [← g1, e] at g2
        exact ne vs (Option.some.inj g2)
      have hrq5 := nol _ _ hrq (by intro vs z; cases z)
      have hT5 := nol _ _ hT4 (by intro vs z; cases z)
      have hW5 := nol _ _ hW4 (by intro vs z; cases z)
      have s6 := same_up (o := HO.tup [V.int (i : Int), V.ref rq]) ht
      have b6 : ∀ u, (upd H5 t (HO.tup [V.int (i : Int), V.ref rq])) u = none → H5 u = none := fun u e => s6.free e
      have hti : (upd H5 t (HO.tup [V.int (i : Int), V.ref rq])) t = some (.tup [V.int (i : Int), V.ref rq]) := upd_same
      generalize upd H5 t (HO.tup [V.int (i : Int), V.ref rq]) = H6 at s6 b6 hti
      have hrq6 := s6 _ _ hrq5
      have hT6 := s6 _ _ hT5
      have hW6 := s6 _ _ hW5
      have st : ∀ nm, waysF N nm (i + 1) = _ := fun nm => waysF_step (nm := nm) hrd
      refine ⟨t, _, rfl, SqT.of hti, rfl, ?_⟩
      walk_at "go"
      refine ⟨rq, _, rfl, SqT.of hrq6, rfl, ?_⟩
      refine ⟨_, _, rfl, _, _, rfl, _, _, rfl, _, _, rfl, _, _, rfl, rfl, rfl, ?_⟩
      refine do_if1 rd.op (fun Q' q' => ⟨_, rfl, _, rfl, q'⟩) (fun ho => ?_) (fun ho => ?_)
      · have hrm := List.mem_of_getElem? hrd
        have h1 : ∃ a, valV wk (Sum.inr rd.one) = some (.ref a) := by
          obtain ⟨tt, c, ht1⟩ := turn_of (hOk.o1 rd hrm)
          obtain ⟨_, a, e, _⟩ := f1 rd.one tt c (List.getElem?_eq_some_iff.mp ht1).1 ht1
          exact ⟨a, e⟩
        obtain ⟨a, ha⟩ := h1
        obtain ⟨a', vs, e', ha5, hvs⟩ := f5 rd.one _ ha
        injection e' with e'
        subst e'
        have h2 : valV tk (Sum.inr rd.other) = some (.int (turnI N.gates rd.other : Int)) := by
          obtain ⟨tt, c, ht1⟩ := turn_of (hOk.o2 rd hrm)
          rw [turnI_at hN.nd ht1]
          exact (f1 rd.other tt c (List.getElem?_eq_some_iff.mp ht1).1 ht1).1
        have ha6 := s6 _ _ ha5
        have vl := paired_len hvs
        have vl2 := waysF_len N rd.one i
        walk_at "go"
        refine ⟨W, .ref a, rfl, (by have := DGet.k (k := Sum.inr rd.one) hW6; rw [ha] at this; exact this), ?_⟩
        refine ⟨.inl ⟨rfl, _, SqL.of ha6⟩, ?_⟩
        walk_at "go"
        refine ⟨T0, _, rfl, (by have := DGet.k (k := Sum.inr rd.other) hT6; rw [h2] at this; exact this), ?_⟩
        walk_at "go"
        refine ⟨(by show 4 ≤ sizeLine; decide), fun z hz => ?_⟩
        have hza : a ≠ z := ne_of_none ha6 hz
        have ha7 := upd_at (o := HO.tup (wayVs ⟨(i : Int), (turnI N.gates rd.other : Int), rd.mi, rd.tl⟩)) hza ha6
        refine ⟨a, vs, _, rfl, rfl, ha7, Evl.sz_lt (by omega), ?_⟩
        refine ⟨_, _, _, _, _, _, _, _, _, rfl, fun u o e nz => ?_, fun u e => ?_, fun nm v e => ?_⟩
        · have hu5 := s6 _ _ (k5 u o e nz)
          have nu : u ≠ a := fun y => nz rd.one (by rw [ha, y])
          exact upd_at nu (upd_at (ne_of_none hu5 hz) hu5)
        · refine b5 u (b6 u ?_)
          have nu : u ≠ a := fun y => by rw [y, upd_same] at e; cases e
          rw [upd_ne nu] at e
          exact (same_up hz).free e
        · obtain ⟨b, ws, g1, g2, g3⟩ := f5 nm v e
          subst g1
          rw [st nm]
          by_cases y : rd.one = nm
          · subst y
            rw [ha] at e
            injection e with e
            injection e with e
            subst e
            rw [ha5] at g2
            injection g2 with g2
            injection g2 with g2
            subst g2
            rw [if_pos ⟨ho, rfl⟩]
            refine ⟨a, _, rfl, upd_same, ?_⟩
            exact ways_upd ha7 (Paired.snoc (ways_same (s6.trans (same_up hz)) hvs) ⟨z, rfl, upd_same⟩)
          · rw [if_neg (fun w => y w.2)]
            have nb : b ≠ a := fun w => by
              subst w
              exact y (f3 _ _ _ ha e)
            exact ⟨b, ws, rfl, upd_at nb (upd_at (ne_of_none (s6 _ _ g2) hz) (s6 _ _ g2)), ways_upd ha7 (ways_same (s6.trans (same_up hz)) g3)⟩
      · refine ⟨_, _, _, _, _, _, _, _, _, rfl, fun u o e nz => s6 _ _ (k5 u o e nz), fun u e => b5 u (b6 u e), fun nm v e => ?_⟩
        obtain ⟨b, ws, g1, g2, g3⟩ := f5 nm v e
        rw [st nm, if_neg (fun w => by rw [ho] at w; cases w.1)]
        exact ⟨b, ws, g1, s6 _ _ g2, ways_same s6 g3⟩
    rintro σ' H5 ⟨v3, v4, v5, v6, v7, v8, v9, v10, v11, rfl, k5, b5, f5⟩
    rw [rl] at f5
    walk_at "go"
    refine q H5 W wk (fun u o e => k5 u o (s4 _ _ (c3 _ _ e)) fun nm z => ?_) (k5 _ _ hW4 fun nm z => ?_) fun nm hs => ?_
    · obtain ⟨a, g1, g2, _⟩ := f2 nm _ z
      injection g1 with g1
      rw [← g1, s12 _ _ e] at g2
      cases g2
    · obtain ⟨a, g1, g2, _⟩ := f2 nm _ z
      injection g1 with g1
      rw [← g1, h2W] at g2
      cases g2
    · obtain ⟨tt, c, ht1⟩ := turn_of hs
      obtain ⟨_, a, e, _⟩ := f1 nm tt c (List.getElem?_eq_some_iff.mp ht1).1 ht1
      obtain ⟨b, vs, g1, g2, g3⟩ := f5 nm _ e
      exact ⟨b, vs, by rw [e, g1], g2, g3⟩
end
end Toll

set_option Elab.async false
set_option maxRecDepth 100000
set_option maxHeartbeats 4000000
set_option linter.all false
namespace Toll
open PySem L2 TH
local macro_rules | `(tactic| walk_at "go1") => `(tactic| first
  | refine ⟨_, rfl, ?_⟩
  | refine ⟨rfl, ?_⟩
  | refine ⟨_, _, rfl, rfl, ?_⟩
  | refine ⟨_, _, rfl, ?_⟩
  | (with_reducible refine' ⟨log_small ?k1 ?k2, ?_⟩; (case k1 => omega); (case k2 => omega))
  | (refine' ⟨?k1, ?_⟩; (case k1 => ((with_reducible show (_ : Int) < _); omega)))
  | (refine' ⟨⟨?k1, ?k2⟩, ?_⟩; (case k1 => omega); (case k2 => omega))
  | (refine' ⟨⟨?k1, ?k2, ?k3, ?k4⟩, ?_⟩; (case k1 => omega); (case k2 => omega); (case k3 => omega); (case k4 => omega))
  | (refine' ⟨.inl ⟨?k1, ?k2⟩, ?_⟩; (case k1 => omega); (case k2 => omega))
  | (refine' ⟨.inr ⟨?k1, ?k2⟩, ?_⟩; (case k1 => omega); (case k2 => omega))
  | (refine' ⟨Evl.sz_of ?k1, ?_⟩; (case k1 => omega))
  | (refine' ⟨?k1, ?_⟩; (case k1 => ((with_reducible show (_ : Int) ≤ _); omega)))
  | refine ⟨⟨_, rfl⟩, ?_⟩
  | refine .inl ⟨_, rfl, ?_⟩ | refine .inr ⟨_, rfl, ?_⟩
  | refine iteT ?_ | refine iteF ?_)
local macro_rules | `(tactic| walk_at "go") => `(tactic| repeat (walk_at "go1"))
local macro_rules | `(tactic| walk_at "ans") => `(tactic| (intro Q' q'; walk_at "go"; (try rw [dec_int]); (try rw [dec_str]); exact q'))
local macro_rules | `(tactic| walk_at "hp") => `(tactic| first | assumption | exact upd_same | (refine' up_same ?e ?h; (case e => assumption); (case h => walk_at "hp")) | (refine' upd_at ?n ?h; (case n => walk_at "ne"); (case h => walk_at "hp")))
local macro_rules | `(tactic| walk_at "ne") => `(tactic| first | assumption | (apply Ne.symm; assumption))
local macro_rules | `(tactic| walk_at "at") => `(tactic| first | exact atI_nat (j := 0) rfl | exact atI_nat (j := 1) rfl | exact atI_nat (j := 2) rfl | exact atI_nat (j := 3) rfl | exact atI_nat (j := 4) rfl)
local macro_rules | `(tactic| walk_at "step1") => `(tactic| first
  | walk_at "go1"
  | (apply ixL_step; (case h => walk_at "hp"); (case a => walk_at "at"))
  | (apply ixT_step; (case h => walk_at "hp"); (case a => walk_at "at"))
  | (apply lenL_step; (case h => walk_at "hp")))
local macro_rules | `(tactic| walk_at "step") => `(tactic| repeat (walk_at "step1"))
section
variable {P : Program} {w : World} {K : PySem.W.Frag} {mg : Str → Option Value} {base : Heap} {A : Ads}
theorem big1m {n : Nat} (h : n ≤ 1000000) : n < sizeLine := Nat.lt_of_le_of_lt h (by decide)
def spGoOn : Sp := fun vs H Q _ => ∃ (q Lr wl : Addr) (limit : Int) (zs : List Z) (us ys : List V) (rows : List Row) (row : Row) (ws : List Way), vs = [.ref q, .ref Lr, .ref wl, .int limit] ∧ H q = some (.lst (ZV zs)) ∧ ZK H zs ∧ IsHeap zs ∧
  H Lr = some (.lst us) ∧ Paired (RowV H) us (rows ++ [row]) ∧ H wl = some (.lst ys) ∧ Paired (WayV H) ys ws ∧ q ≠ Lr ∧ q ≠ wl ∧ zs.length + ws.length ≤ 1000000 ∧
  ∀ (H' : Hp) (zs' : List Z), Keep [q] H H' → H' q = some (.lst (ZV zs')) → ZK H' zs' → IsHeap zs' → zs'.length ≤ zs.length + ws.length → (zs'.map (·.2)).Perm (zs.map (·.2) ++ (ws.filter fun x => decide (row.mi + x.mi ≤ limit)).map (wayKey row rows.length)) → Q .non H'
theorem ok_go_on (T : Txt K mg A) : DefOk P w K mg base CX0 1 A.go_on ["queue", "rows", "ways", "limit"] spGoOn := by
  obtain ⟨fd, F⟩ := T.F_go_on
  refine ⟨fd, ?_, F.binds (ps := ["queue", "rows", "ways", "limit"]) fun _ _ _ _ _ _ us hl => match us, hl with | [_, _, _, _], _ => rfl, F.kp⟩
  refine F.ok sc_go_on (fun vs H Q E h => ?_) (fun cdv A' outer s H vs Q E hr h => ?_)
  · obtain ⟨q, Lr, wl, limit, zs, us, ys, rows, row, ws, rfl, _⟩ := h
    rfl
  · obtain ⟨q, Lr, wl, limit, zs, us, ys, rows, row, ws, rfl, hq, hK, hh, hLr, hP, hwl, hW, nq1, nq2, hsz, k⟩ := h
    have ul := paired_len hP
    have yl := paired_len hW
    rw [List.length_append] at ul
    have ul : us.length = rows.length + 1 := ul
    refine ⟨_, (pss_cons (ps_set (i := 4) sc_go_on.nd rfl (by first | exact Or.inl rfl | exact Or.inr rfl) (pe_op op_sub (pe_callB call_len_seq (by rfl) T.b_len PySem.boot_len (pa_cons (pv 1) pa_nil)) pe_int))
      (pss_cons (ps_asg (pe_ix (r := rIxL K) ix_list (pv 1) (pv 4) (fun _ _ => rfl)) (pg_tup (by rfl) (pgs_cons (pg_name (i := 5) sc_go_on.nd rfl (by first | exact Or.inl rfl | exact Or.inr rfl)) (pgs_cons (pg_name (i := 6) sc_go_on.nd rfl (by first | exact Or.inl rfl | exact Or.inr rfl)) (pgs_cons (pg_name (i := 7) sc_go_on.nd rfl (by first | exact Or.inl rfl | exact Or.inr rfl)) (pgs_cons (pg_name (i := 8) sc_go_on.nd rfl (by first | exact Or.inl rfl | exact Or.inr rfl)) (pgs_cons (pg_name (i := 9) sc_go_on.nd rfl (by first | exact Or.inl rfl | exact Or.inr rfl)) pgs_nil)))))))
      (pss_one (ps_for PassesOwn.never rfl (pi_list (pv 2)) (pg_tup (by rfl) (pgs_cons (pg_name (i := 10) sc_go_on.nd rfl (by first | exact Or.inl rfl | exact Or.inr rfl)) (pgs_cons (pg_name (i := 11) sc_go_on.nd rfl (by first | exact Or.inl rfl | exact Or.inr rfl)) (pgs_cons (pg_name (i := 12) sc_go_on.nd rfl (by first | exact Or.inl rfl | exact Or.inr rfl)) (pgs_cons (pg_name (i := 13) sc_go_on.nd rfl (by first | exact Or.inl rfl | exact Or.inr rfl)) pgs_nil))))) (pss_one (ps_if (pt_cmpR op_le (pe_op op_add (pv 6) (pv 12)) (pv 3) (nomark _)) (pss_one (ps_expr (pe_callBfun (TH.call_push hr.units) (by rfl) T.q_heappush (pa_cons (pv 0) (pa_cons (pe_tup (pa_cons (pe_op op_add (pv 7) (pv 13)) (pa_cons (pe_op op_add (pv 6) (pv 12)) (pa_cons (pv 11) (pa_cons (pv 10) (pa_cons (pv 4) pa_nil)))))) pa_nil))))) pss_nil)))))), ?_⟩
    walk_at "go"
    refine ⟨Lr, us, rfl, .inl (SqL.of hLr), ?_⟩
    walk_at "go"
    obtain ⟨_, hv, t, rfl, ht⟩ := paired_get hP (i := rows.length) (y := row) (by rw [List.getElem?_append_right (Nat.le_refl _), Nat.sub_self]; rfl)
    refine ⟨Lr, us, _, _, rfl, rfl, SqL.of hLr, atI_of (j := rows.length) (by omega) hv, ?_⟩
    walk_at "go"
    refine ⟨t, _, rfl, SqT.of ht, rfl, ?_⟩
    walk_at "go"
    have eb : ((us.length : Nat) : Int) - 1 = (rows.length : Int) := by omega
    refine ⟨⟨_, SqL.of hwl⟩, for_list (K := K) (a := wl) (xs := ys) (fun i σ' H' => ∃ zs' v10 v11 v12 v13, σ' = [some (.ref q), some (.ref Lr), some (.ref wl), some (.int limit), some (.int ((us.length : Int) - 1)), some (.str row.nm), some (.int row.mi), some (.int row.tl), some (.int row.rd), some (.int row.bk), v10, v11, v12, v13] ∧
        Keep [q] H H' ∧ H' q = some (.lst (ZV zs')) ∧ ZK H' zs' ∧ IsHeap zs' ∧ zs'.length ≤ zs.length + i ∧ (zs'.map (·.2)).Perm (zs.map (·.2) ++ ((ws.take i).filter fun x => decide (row.mi + x.mi ≤ limit)).map (wayKey row rows.length)))
      ⟨zs, none, none, none, none, rfl, Keep.of_same (Same.refl _), hq, hK, hh, Nat.le_refl _, by simp⟩ (fun i σ' H' _ ⟨_, _, _, _, _, _, kp, _⟩ => SqL.of (kp _ _ hwl (by simpa using nq2.symm))) ?_ ?_⟩
    · rintro i x σ' H' hi ⟨zs', v10, v11, v12, v13, rfl, kp, hq', hK', hh', hl', hm⟩
      obtain ⟨wy, hwy, tw, rfl, htw⟩ := paired_getL hW hi
      have il : i < ws.length := (List.getElem?_eq_some_iff.mp hwy).1
      have htw' := kp _ _ htw (by
        have : tw ≠ q := ne_of htw hq (by intro z; cases z)
        simpa using this)
      walk_at "go"
      refine ⟨tw, _, rfl, SqT.of htw', rfl, ?_⟩
      refine ⟨_, _, rfl, _, _, rfl, _, _, rfl, _, _, rfl, rfl, ?_⟩
      refine do_if1 (decide (row.mi + wy.mi ≤ limit)) (by walk_at "ans") (fun hb => ?_) (fun hb => ?_)
      · have hb := of_decide_eq_true hb
        walk_at "go"
        refine ⟨(by show 5 ≤ sizeLine; decide), fun z hz => ?_⟩
        have hzq : q ≠ z := ne_of_none hq' hz
        have s1 := same_up (o := HO.tup [V.int (row.tl + wy.tl), V.int (row.mi + wy.mi), V.int wy.tn, V.int wy.rd, V.int ((us.length : Int) - 1)]) hz
        have hz1 : (upd H' z (HO.tup [V.int (row.tl + wy.tl), V.int (row.mi + wy.mi), V.int wy.tn, V.int wy.rd, V.int ((us.length : Int) - 1)])) z = some (.tup ((wayKey row rows.length wy).map V.int)) := by
          rw [upd_same, eb]
          rfl
        have hq1 := s1 _ _ hq'
        have hK1 : ZK (upd H' z (HO.tup [V.int (row.tl + wy.tl), V.int (row.mi + wy.mi), V.int wy.tn, V.int wy.rd, V.int ((us.length : Int) - 1)])) zs' := fun y hy => s1 _ _ (hK' y hy)
        have kp1 := kp.trans (Keep.of_same s1)
        generalize upd H' z (HO.tup [V.int (row.tl + wy.tl), V.int (row.mi + wy.mi), V.int wy.tn, V.int wy.rd, V.int ((us.length : Int) - 1)]) = H1 at s1 hz1 hq1 hK1 kp1
        refine ⟨q, z, wayKey row rows.length wy, zs', rfl, hq1, hK1, hz1, hh', by omega, big1m (by omega), fun zs'' pm hh'' => ?_⟩
        have hlen := pm.length_eq
        rw [List.length_cons] at hlen
        refine ⟨zs'', _, _, _, _, rfl, kp1.upd (.inl (by simp)), upd_same, fun y hy => ?_, hh'', by omega, ?_⟩
        · have : H1 y.1 = some (.tup (y.2.map V.int)) := by
            rcases List.mem_cons.mp (pm.mem_iff.mp hy) with e | e
            · rw [e]; exact hz1
            · exact hK1 y e
          rw [upd_ne (ne_of this hq1 (by intro z; cases z))]
          exact this
        · rw [filt_yes hwy (decide_eq_true hb), List.map_append, ← List.append_assoc]
          have pm2 : (zs''.map (·.2)).Perm (wayKey row rows.length wy :: zs'.map (·.2)) := pm.map (·.2)
          exact pm2.trans ((hm.cons _).trans (List.perm_append_singleton _ _).symm)
      · have hb : ¬ row.mi + wy.mi ≤ limit := of_decide_eq_false hb
        refine ⟨zs', _, _, _, _, rfl, kp, hq', hK', hh', by omega, ?_⟩
        rw [filt_no hwy (decide_eq_false hb)]
        exact hm
    · rintro σ' H' ⟨zs', v10, v11, v12, v13, rfl, kp, hq', hK', hh', hl', hm⟩
      refine k H' zs' kp hq' hK' hh' (by omega) ?_
      rw [yl, List.take_length] at hm
      exact hm
end
end Toll

set_option Elab.async false
set_option maxRecDepth 100000
set_option maxHeartbeats 4000000
set_option linter.all false
namespace Toll
open PySem L2 TH
local macro_rules | `(tactic| walk_at "go1") => `(tactic| first
  | refine ⟨_, rfl, ?_⟩
  | refine ⟨rfl, ?_⟩
  | refine ⟨_, _, rfl, rfl, ?_⟩
  | refine ⟨_, _, rfl, ?_⟩
  | (with_reducible refine' ⟨log_small ?k1 ?k2, ?_⟩; (case k1 => omega); (case k2 => omega))
  | (refine' ⟨?k1, ?_⟩; (case k1 => ((with_reducible show (_ : Int) < _); omega)))
  | (refine' ⟨⟨?k1, ?k2⟩, ?_⟩; (case k1 => omega); (case k2 => omega))
  | (refine' ⟨⟨?k1, ?k2, ?k3, ?k4⟩, ?_⟩; (case k1 => omega); (case k2 => omega); (case k3 => omega); (case k4 => omega))
  | (refine' ⟨.inl ⟨?k1, ?k2⟩, ?_⟩; (case k1 => omega); (case k2 => omega))
  | (refine' ⟨.inr ⟨?k1, ?k2⟩, ?_⟩; (case k1 => omega); (case k2 => omega))
  | (refine' ⟨Evl.sz_of ?k1, ?_⟩; (case k1 => omega))
  | (refine' ⟨?k1, ?_⟩; (case k1 => ((with_reducible show (_ : Int) ≤ _); omega)))
  | refine ⟨⟨_, rfl⟩, ?_⟩
  | refine .inl ⟨_, rfl, ?_⟩ | refine .inr ⟨_, rfl, ?_⟩
  | refine iteT ?_ | refine iteF ?_)
local macro_rules | `(tactic| walk_at "go") => `(tactic| repeat (walk_at "go1"))
local macro_rules | `(tactic| walk_at "ans") => `(tactic| (intro Q' q'; walk_at "go"; (try rw [dec_int]); (try rw [dec_str]); exact q'))
local macro_rules | `(tactic| walk_at "hp") => `(tactic| first | assumption | exact upd_same | (refine' up_same ?e ?h; (case e => assumption); (case h => walk_at "hp")) | (refine' upd_at ?n ?h; (case n => walk_at "ne"); (case h => walk_at "hp")))
local macro_rules | `(tactic| walk_at "ne") => `(tactic| first | assumption | (apply Ne.symm; assumption))
local macro_rules | `(tactic| walk_at "at") => `(tactic| first | exact atI_nat (j := 0) rfl | exact atI_nat (j := 1) rfl | exact atI_nat (j := 2) rfl | exact atI_nat (j := 3) rfl | exact atI_nat (j := 4) rfl)
local macro_rules | `(tactic| walk_at "step1") => `(tactic| first
  | walk_at "go1"
  | (apply ixL_step; (case h => walk_at "hp"); (case a => walk_at "at"))
  | (apply ixT_step; (case h => walk_at "hp"); (case a => walk_at "at"))
  | (apply lenL_step; (case h => walk_at "hp")))
local macro_rules | `(tactic| walk_at "step") => `(tactic| repeat (walk_at "step1"))
section
variable {P : Program} {w : World} {K : PySem.W.Frag} {mg : Str → Option Value} {base : Heap} {A : Ads}
def spRows (A : Ads) : Sp := fun vs H Q E => ∃ (p g r : Addr) (N : NetD) (nm : Str) (limit : Int) (goal : Option Str), vs = [.ref p, .str nm, .int limit, goalV goal] ∧ NetAt A.C_Net H p g r N ∧ NetOk N ∧ nm.length ≤ 1000 ∧ PyData.strOk nm = true ∧
  (seesOf N.gates nm = none → E (.ref A.C_NoGate) none H) ∧ (seesOf N.gates nm ≠ none → limit < 0 → E (.ref A.C_NoNumber) none H) ∧
  (seesOf N.gates nm ≠ none → 0 ≤ limit → ∃ u, Few N nm limit u ∧ ∀ (H' : Hp) (L : Addr) (us : List V) (rows : List Row), Same H H' → H L = none → H' L = some (.lst us) → Paired (RowV H') us rows → RowsPost N nm limit goal rows → RunOf N nm limit goal rows → Q (.ref L) H')
theorem ok_rows_until (T : Txt K mg A) : DefOk P w K mg base (L2.CX P w) 3 A.rows_until ["net", "gate", "limit", "goal"] (spRows A) := by
  obtain ⟨_, G_N_need_gate, B_N_need_gate, K_N_need_gate⟩ := ok_N_need_gate (P := P) (w := w) (base := base) T
  obtain ⟨_, G_N_gates, B_N_gates, K_N_gates⟩ := ok_N_gates (P := P) (w := w) (base := base) T
  obtain ⟨_, G_ways_by_gate, B_ways_by_gate, K_ways_by_gate⟩ := ok_ways_by_gate (P := P) (w := w) (base := base) T
  obtain ⟨_, G_go_on, B_go_on, K_go_on⟩ := ok_go_on (P := P) (w := w) (base := base) T
  obtain ⟨fd, F⟩ := T.F_rows_until
  refine ⟨fd, ?_, F.binds (ps := ["net", "gate", "limit", "goal"]) fun _ _ _ _ _ _ us hl => match us, hl with | [_, _, _, _], _ => rfl, F.kp⟩
  refine F.okX sc_rows_until (fun vs H Q E h => ?_) (fun cdv A' outer s H vs Q E hr h => ?_)
  · obtain ⟨p, g, r, N, nm, limit, goal, rfl, _⟩ := h
    rfl
  · obtain ⟨p, g, r, N, nm, limit, goal, rfl, hN, hOk, hl, ho, kE, kL, kQ⟩ := h
    have hu := hu_of hr
    obtain ⟨dx, hob⟩ := hN.ob
    refine ⟨_, (pss_cons (ps_expr (pe_meth (pv 0) T.c_Net T.M_N_need_gate G_N_need_gate (hr.mono (by decide)) B_N_need_gate .nil (passes_call (takes_of rfl rfl rfl rfl) fun _ _ _ _ h => h) (pa_cons (pv 1) pa_nil)))
      (pss_cons (ps_if (pt_cmpR op_lt (pv 2) pe_int (nomark _)) (pss_one (ps_raise rfl (takes_of rfl rfl rfl rfl) (SkE.pmk_own1 PySem.F.excBase_ValueError T.e_NoNumber.x T.e_NoNumber.g T.e_NoNumber.k (raises_own T.e_NoNumber.b T.e_NoNumber.t) rfl pe_str))) pss_nil)
      (pss_cons (ps_set (i := 4) sc_rows_until.nd rfl (by first | exact Or.inl rfl | exact Or.inr rfl) (pe_meth0 (pv 0) T.c_Net T.M_N_gates G_N_gates (hr.mono (by decide)) B_N_gates .nil pass0))
      (pss_cons (ps_set (i := 5) sc_rows_until.nd rfl (by first | exact Or.inl rfl | exact Or.inr rfl) (pe_call G_ways_by_gate (hr.mono (by decide)) rfl T.m_ways_by_gate K_ways_by_gate B_ways_by_gate .nil pass0 (pa_cons (pv 0) pa_nil)))
      (pss_cons (ps_set (i := 6) sc_rows_until.nd rfl (by first | exact Or.inl rfl | exact Or.inr rfl) (pe_lst (pa_cons (pe_tup (pa_cons (pv 1) (pa_cons pe_int (pa_cons pe_int (pa_cons (pe_un un_neg pe_int) (pa_cons (pe_un un_neg pe_int) pa_nil)))))) pa_nil)))
      (pss_cons (ps_set (i := 7) sc_rows_until.nd rfl (by first | exact Or.inl rfl | exact Or.inr rfl) pe_dnewK)
      (pss_cons (ps_set (i := 8) sc_rows_until.nd rfl (by first | exact Or.inl rfl | exact Or.inr rfl) (pe_lst pa_nil))
      (pss_cons (ps_expr (pe_call G_go_on (hr.mono (by decide)) rfl T.m_go_on K_go_on B_go_on .nil pass0 (pa_cons (pv 8) (pa_cons (pv 6) (pa_cons (pe_dget hu (pv 5) (pv 1) (fun _ _ => rfl)) (pa_cons (pv 2) pa_nil))))))
      (pss_cons (ps_while (passes_of rfl) (pt_truth (pv 8) (by intro _; rfl)) (pss_cons (ps_asg (pe_callBfun (TH.call_pop hr.units) (by rfl) T.q_heappop (pa_cons (pv 8) pa_nil)) (pg_tup (by rfl) (pgs_cons (pg_name (i := 9) sc_rows_until.nd rfl (by first | exact Or.inl rfl | exact Or.inr rfl)) (pgs_cons (pg_name (i := 10) sc_rows_until.nd rfl (by first | exact Or.inl rfl | exact Or.inr rfl)) (pgs_cons (pg_name (i := 11) sc_rows_until.nd rfl (by first | exact Or.inl rfl | exact Or.inr rfl)) (pgs_cons (pg_name (i := 12) sc_rows_until.nd rfl (by first | exact Or.inl rfl | exact Or.inr rfl)) (pgs_cons (pg_name (i := 13) sc_rows_until.nd rfl (by first | exact Or.inl rfl | exact Or.inr rfl)) pgs_nil)))))))
      (pss_cons (ps_asg (pe_ix (r := rIxL K) ix_list (pv 4) (pv 11) (fun _ _ => rfl)) (pg_tup (by rfl) (pgs_cons (pg_name (i := 14) sc_rows_until.nd rfl (by first | exact Or.inl rfl | exact Or.inr rfl)) (pgs_cons (pg_name (i := 15) sc_rows_until.nd rfl (by first | exact Or.inl rfl | exact Or.inr rfl)) pgs_nil))))
      (pss_cons (ps_if (PW.pt (pw_and (pt_cmp (pc_din hu (pv 14) (pv 7))) (pw_and1 (pt_cmpR op_le (pe_dget hu (pv 7) (pv 14) (fun _ _ => rfl)) (pv 10) (nomark _))))) (pss_one ps_continue) pss_nil)
      (pss_cons (ps_dput hu (pv 7) (pv 14) (pv 10) rfl)
      (pss_cons (ps_expr (pe_bm PySem.F.plainAttrs_list PySem.F.slot_list_append PySem.F.type_list_append mt_append (pv 6) (pa_cons (pe_tup (pa_cons (pv 14) (pa_cons (pv 10) (pa_cons (pv 9) (pa_cons (pv 12) (pa_cons (pv 13) pa_nil)))))) pa_nil)))
      (pss_cons (ps_if (pt_cmpR op_eq (pv 14) (pv 3) (nomark _)) (pss_one ps_break) pss_nil)
      (pss_one (ps_if (pt_not (pt_val (pv 15))) (pss_one (ps_expr (pe_call G_go_on (hr.mono (by decide)) rfl T.m_go_on K_go_on B_go_on .nil pass0 (pa_cons (pv 8) (pa_cons (pv 6) (pa_cons (pe_dget hu (pv 5) (pv 14) (fun _ _ => rfl)) (pa_cons (pv 2) pa_nil))))))) pss_nil)))))))))
      (pss_one (ps_ret (pv 6)))))))))))), ?_⟩
    walk_at "go"
    refine ⟨p, dx, _, rfl, hob, netF_no _ _ (by decide +kernel) (by decide +kernel), ?_⟩
    walk_at "go"
    refine ⟨p, g, r, N, nm, rfl, hN, hl, ho, kE, fun b1 e1 => ?_⟩
    have e1 : seesOf N.gates nm ≠ none := by rw [e1]; simp
    walk_at "go"
    refine ite2 (fun hlt => ?_) (fun hlt => ?_)
    · walk_at "go"
      exact kL e1 (of_decide_eq_true hlt)
    have h0 : 0 ≤ limit := by
      have : ¬ limit < 0 := fun z => hlt (decide_eq_true z)
      omega
    obtain ⟨u, fw, q⟩ := kQ e1 h0
    walk_at "go"
    refine ⟨p, dx, _, rfl, hob, netF_no _ _ (by decide +kernel) (by decide +kernel), p, g, r, N, rfl, hN, fun H1 Lg gs s1 n1 h1 p1 => ?_⟩
    walk_at "go"
    refine ⟨p, g, r, N, rfl, hN.same s1, hOk, fun H2 W wk s2 h2 hw => ?_⟩
    have s12 := s1.trans s2
    replace h1 := s2 _ _ h1
    replace p1 := gatesV_same s2 p1
    walk_at "go"
    have wk2 := hw nm e1
    obtain ⟨wl0, ys0, hwl0, hwl0l, hwl0p⟩ := wk2
    refine ⟨(by show 5 ≤ sizeLine; decide), fun t nt => ?_⟩
    have s3 := same_up (o := HO.tup [V.str nm, V.int 0, V.int 0, V.int (-1), V.int (-1)]) nt
    have ht3 : (upd H2 t (HO.tup [V.str nm, V.int 0, V.int 0, V.int (-1), V.int (-1)])) t = some (.tup (rowVs ⟨nm, 0, 0, -1, -1⟩)) := upd_same
    walk_at "go"
    refine ⟨(by show 1 ≤ sizeLine; decide), fun Lr nLr => ?_⟩
    have nLr2 := s3.free nLr
    have s4 := s3.trans (same_up (o := HO.lst [V.ref t]) nLr)
    have ht4 := (same_up (o := HO.lst [V.ref t]) nLr) _ _ ht3
    have hLr4 : (upd (upd H2 t (HO.tup [V.str nm, V.int 0, V.int 0, V.int (-1), V.int (-1)])) Lr (HO.lst [V.ref t])) Lr = some (.lst [.ref t]) := upd_same
    walk_at "go"
    intro Fd nFd
    have nFd2 := s4.free nFd
    have s5 := s4.trans (same_up (o := HO.dK []) nFd)
    have ht5 := (same_up (o := HO.dK []) nFd) _ _ ht4
    have hLr5 := (same_up (o := HO.dK []) nFd) _ _ hLr4
    have hFd5 : (upd (upd (upd H2 t (HO.tup [V.str nm, V.int 0, V.int 0, V.int (-1), V.int (-1)])) Lr (HO.lst [V.ref t])) Fd (HO.dK [])) Fd = some (.dK []) := upd_same
    walk_at "go"
    refine ⟨Nat.zero_le _, fun Lq nLq => ?_⟩
    have nLq2 := s5.free nLq
    have s6 := s5.trans (same_up (o := HO.lst []) nLq)
    have ht6 := (same_up (o := HO.lst []) nLq) _ _ ht5
    have hLr6 := (same_up (o := HO.lst []) nLq) _ _ hLr5
    have hFd6 := (same_up (o := HO.lst []) nLq) _ _ hFd5
    have hne : Lq ≠ Lr := (ne_of_none hLr5 nLq).symm
    have hLq6 : (upd (upd (upd (upd H2 t (HO.tup [V.str nm, V.int 0, V.int 0, V.int (-1), V.int (-1)])) Lr (HO.lst [V.ref t])) Fd (HO.dK [])) Lq (HO.lst [])) Lq = some (.lst (ZV [])) := upd_same
    generalize upd (upd (upd (upd H2 t (HO.tup [V.str nm, V.int 0, V.int 0, V.int (-1), V.int (-1)])) Lr (HO.lst [V.ref t])) Fd (HO.dK [])) Lq (HO.lst []) = H6 at s6 ht6 hLr6 hFd6 hLq6
    clear s3 s4 s5 ht3 ht4 ht5 hLr4 hLr5 hFd5 nt nLr nFd nLq
    walk_at "go"
    refine ⟨W, .ref wl0, rfl, (by have := DGet.k (k := Sum.inr nm) (s6 _ _ h2); rw [hwl0] at this; exact this), ?_⟩
    walk_at "go"
    have rl200 := hN.l2
    have gl60 := hN.l1
    have wfl := waysF_len N nm N.roads.length
    have nqw : Lq ≠ wl0 := fun z => by rw [← z, nLq2] at hwl0l; cases hwl0l
    refine ⟨Lq, Lr, wl0, limit, [], [.ref t], ys0, [], ⟨nm, 0, 0, -1, -1⟩, _, rfl, hLq6, (fun z hz => by cases hz), (fun i _ hl => absurd hl (by simp)), hLr6, .cons ⟨t, rfl, ht6⟩ .nil, s6 _ _ hwl0l, ways_same s6 hwl0p, hne, nqw, by simp; omega, fun H7 zs kp7 hLq7 hK7 hh7 hl7 hp7 => ?_⟩
    have hm7 := keys_mem hp7
    have s7 : Same H2 H7 := same_keep s6 kp7 fun x hx => by rw [List.mem_singleton] at hx; rw [hx]; exact nLq2
    have hLr7 := kp7 _ _ hLr6 (by simpa using hne.symm)
    have hFd7 := kp7 _ _ hFd6 (by have : Fd ≠ Lq := ne_of hFd6 hLq6 (by intro z; cases z)
                                  simpa using this)
    have ht7 := kp7 _ _ ht6 (by have : t ≠ Lq := ne_of ht6 hLq6 (by intro z; cases z)
                                simpa using this)
    have L0 : Loop N nm limit u goal [⟨nm, 0, 0, -1, -1⟩] (zs.map (·.2)) [] := by
      have no : ∀ (k : Nat) (row : Row), 0 < k → ([⟨nm, 0, 0, -1, -1⟩] : List Row)[k]? = some row → False := fun k row h e => by
        have := (List.getElem?_eq_some_iff.mp e).1
        simp at this
        omega
      refine ⟨(rinv0 N nm limit).grow fun x hx => ?_, fun b i rb rd hb hg => ?_, fun nm' v e => ?_, fun nm' _ j row h e => (no j row h e).elim, Nat.zero_le _, fun j row h e => (no j row h e).elim, fun w _ j row h e => (no j row h e).elim⟩
      · rcases (hm7 x).mp hx with e | ⟨y, hy, hl', ex⟩
        · simp at e
        · subst ex
          obtain ⟨i, rd, g1, k1⟩ := keys_in hOk (limit := limit) (rows := []) (row := ⟨nm, 0, 0, -1, -1⟩) (.inl rfl) hy hl'
          exact .inr ⟨⟨_, i, _, rd, g1, k1⟩, fun j row h e => (no j row h e).elim⟩
      · have hb0 : b = 0 := by simpa using hb
        subst hb0
        have e0 := hg.hb
        have e0 := (Option.some.inj e0).symm
        subst e0
        obtain ⟨y, hy, hl', hik⟩ := keys_out hOk (rows := []) hg
        exact .inr ⟨_, (hm7 _).mpr (.inr ⟨y, hy, hl', rfl⟩), hik⟩
      · rw [valV_nil] at e
        cases e
    dsimp only
    refine seq_while (fun m σ' H' => ∃ (rows : List Row) (us : List V) (zs : List Z) (fk : List (Key × V)) (v9 v10 v11 v12 v13 v14 v15 : Option V), σ' = [some (.ref p), some (.str nm), some (.int limit), some (goalV goal), some (.ref Lg), some (.ref W), some (.ref Lr), some (.ref Fd), some (.ref Lq), v9, v10, v11, v12, v13, v14, v15] ∧
        Same H2 H' ∧ H' Lr = some (.lst us) ∧ Paired (RowV H') us rows ∧ H' Fd = some (.dK fk) ∧ H' Lq = some (.lst (ZV zs)) ∧ ZK H' zs ∧ IsHeap zs ∧ Loop N nm limit u goal rows (zs.map (·.2)) fk ∧ zs.length ≤ 200 * rows.length ∧ m = (4000 - rows.length) * 201 + zs.length ∧ ∀ fin, Run N limit goal rows (zs.map (·.2)) fin → RunOf N nm limit goal fin)
      _ ⟨[⟨nm, 0, 0, -1, -1⟩], [.ref t], zs, [], none, none, none, none, none, none, none, rfl, s7, hLr7, .cons ⟨t, rfl, ht7⟩ .nil, hFd7, hLq7, hK7, hh7, L0, by simp at hl7 ⊢; omega, rfl, fun fin h => Run.perm h hp7.symm⟩ ?_
    clear L0 hm7 hp7 hl7 hh7 hK7 hLq7 hFd7 hLr7 ht7 s7 kp7 hLq6 hFd6 hLr6 ht6 s6
    rintro m σ' H8 ⟨rows, us, zs, fk, v9, v10, v11, v12, v13, v14, v15, rfl, s8, hLr, hP, hFd, hLq, hK, hh, lp, hzl, rfl, hrun⟩
    have hlen := lp.len hOk gl60 fw
    have hul := paired_len hP
    refine ⟨!zs.isEmpty, fun Q' q' => ⟨_, rfl, _, .inl ⟨_, SqL.of hLq, rfl⟩, by rw [List.isEmpty_map]; exact q'⟩, fun hb => ?_, fun hb => ?_⟩
    rotate_left
    · have hz : zs = [] := by simpa using hb
      subst hz
      walk_at "go"
      exact q H8 Lr us rows (s12.trans s8) (s12.free nLr2) hLr hP (lp.post hOk gl60 fw) (hrun _ .done)
    have hz : zs ≠ [] := by simpa using hb
    walk_at "go"
    refine ⟨Lq, zs, rfl, hLq, hK, hh, hz, fun z zs' pm hh' hmin => ?_⟩
    have hpk := perm_keys pm
    have hpp : (zs.map (·.2)).Perm (z.2 :: zs'.map (·.2)) := (pm.map (·.2)).symm
    have hzm : z.2 ∈ zs.map (·.2) := (hpk _).mpr (.inl rfl)
    obtain ⟨b, i, rb, rd, hg, tn, c, htn, hkey⟩ := lp.inv.q1 _ hzm
    have hz2 : z ∈ zs := pm.mem_iff.mp (List.mem_cons_self ..)
    have hzt := hK z hz2
    rw [hkey] at hzt
    have hnk : N.gates[(z.2.getD 2 0).toNat]? = some (rd.other, c) := by
      rw [hkey]
      show N.gates[((tn : Nat) : Int).toNat]? = _
      rw [Int.toNat_natCast]
      exact htn
    have hmk : z.2.getD 1 0 = rb.mi + rd.mi := by rw [hkey]; rfl
    have hrk : keyRow rd.other z.2 = ⟨rd.other, rb.mi + rd.mi, rb.tl + rd.tl, (i : Int), (b : Int)⟩ := by rw [hkey]; rfl
    have hkmin : ∀ y ∈ zs'.map (·.2), kLe z.2 y := fun y hy => by
      obtain ⟨x, hx, e⟩ := List.mem_map.mp hy
      rw [← e]
      exact hmin x hx
    have hbe := lp.beat hnk
    rw [hmk] at hbe
    have hK9 : ZK (upd H8 Lq (.lst (ZV zs'))) zs' := ZK_tk (TK.up hLq (by intro xs z; cases z)) fun y hy => hK y (pm.mem_iff.mp (List.mem_cons_of_mem _ hy))
    have s9 : Same H2 (upd H8 Lq (.lst (ZV zs'))) := same_new s8 nLq2
    have tk9 : TK H8 (upd H8 Lq (.lst (ZV zs'))) := TK.up hLq (by intro xs z; cases z)
    have hLr9 := upd_at (o := HO.lst (ZV zs')) hne.symm hLr
    have hFd9 := upd_at (o := HO.lst (ZV zs')) (ne_of hFd hLq (by intro z; cases z)) hFd
    have hLq9 : (upd H8 Lq (.lst (ZV zs'))) Lq = some (.lst (ZV zs')) := upd_same
    generalize upd H8 Lq (.lst (ZV zs')) = H9 at hK9 s9 tk9 hLr9 hFd9 hLq9
    have hzt9 := tk9 _ _ hzt
    have hP9 := rows_tk tk9 hP
    clear hzt hLr hFd hLq hP hK
    have hzlen := pm.length_eq
    rw [List.length_cons] at hzlen
    refine ⟨z.1, _, rfl, SqT.of hzt9, rfl, ?_⟩
    walk_at "go"
    have hgl9 := s9 _ _ h1
    obtain ⟨gv, hgv, tg, rfl, htg⟩ := paired_get p1 htn
    refine ⟨Lg, gs, _, _, rfl, rfl, SqL.of hgl9, atI_nat (j := tn) hgv, ?_⟩
    walk_at "go"
    refine ⟨tg, _, rfl, SqT.of (s9 _ _ htg), rfl, ?_⟩
    refine ⟨_, _, rfl, _, _, rfl, rfl, ?_⟩
    dsimp only [List.set]
    refine seq_if1 (match valV fk (Sum.inr rd.other : Key) with | some (.int f) => decide (f ≤ rb.mi + rd.mi) | _ => false) (fun Q' q' => ?_) (fun hbt => ?_) (fun hbf => ?_)
    · walk_at "go"
      refine ⟨Fd, _, rfl, DGet.k (k := Sum.inr rd.other) hFd9, _, rfl, ?_⟩
      cases e : valV fk (Sum.inr rd.other : Key) with
      | none =>
        rw [e] at q'
        refine iteF ?_
        exact q'
      | some v =>
        obtain ⟨j, row, _, _, _, ev, _⟩ := lp.f1 _ _ e
        subst ev
        rw [e] at q'
        refine iteT ?_
        walk_at "go"
        refine ⟨Fd, _, rfl, (by have := DGet.k (k := Sum.inr rd.other) hFd9; rw [e] at this; exact this), ?_⟩
        walk_at "go"
        exact q'
    · cases e : valV fk (Sum.inr rd.other : Key) with
      | none => rw [e] at hbt; cases hbt
      | some v =>
        obtain ⟨j, row, _, _, _, ev, _⟩ := lp.f1 _ _ e
        subst ev
        rw [e] at hbt
        have hle : row.mi ≤ rb.mi + rd.mi := of_decide_eq_true hbt
        walk_at "go"
        exact ⟨_, (by omega), rows, us, zs', fk, _, _, _, _, _, _, _, rfl, s9, hLr9, hP9, hFd9, hLq9, hK9, hh', lp.skip hOk hpk hkey (by rw [Int.toNat_natCast]; exact htn) e hle, (by omega), rfl, fun fin h => hrun fin (.skip hpp hkmin (hbe.mpr ⟨_, e, hle⟩) h)⟩
    have hd : ∀ j row, 0 < j → rows[j]? = some row → row.nm = rd.other → rb.mi + rd.mi < row.mi := fun j row h0 hj hn => by
      cases e : valV fk (Sum.inr rd.other : Key) with
      | none => exact absurd hn (lp.f0 _ e j row h0 hj)
      | some v =>
        obtain ⟨j2, row2, _, _, _, ev, hm2⟩ := lp.f1 _ _ e
        subst ev
        rw [e] at hbf
        have hle : ¬ row2.mi ≤ rb.mi + rd.mi := of_decide_eq_false hbf
        have := hm2 j row h0 hj hn
        omega
    have hnb : ¬ Beat N rows z.2 := fun hb => by
      obtain ⟨f, e, hf⟩ := hbe.mp hb
      rw [e] at hbf
      have hle : ¬ f ≤ rb.mi + rd.mi := of_decide_eq_false hbf
      exact hle hf
    have fkl := lp.fl
    walk_at "go"
    refine ⟨Fd, _, rfl, DPut.k (k := Sum.inr rd.other) hFd9 (Evl.sz_lt (by omega)), ?_⟩
    have s10 : Same H2 (upd H9 Fd (.dK (putK fk (Sum.inr rd.other) (.int (rb.mi + rd.mi))))) := same_new s9 nFd2
    have tk10 : TK H9 (upd H9 Fd (.dK (putK fk (Sum.inr rd.other) (.int (rb.mi + rd.mi))))) := TK.up hFd9 (by intro xs z; cases z)
    have hLr10 := upd_at (o := HO.dK (putK fk (Sum.inr rd.other) (.int (rb.mi + rd.mi)))) (ne_of hLr9 hFd9 (by intro z; cases z)) hLr9
    have hLq10 := upd_at (o := HO.dK (putK fk (Sum.inr rd.other) (.int (rb.mi + rd.mi)))) (ne_of hLq9 hFd9 (by intro z; cases z)) hLq9
    have hFd10 : (upd H9 Fd (.dK (putK fk (Sum.inr rd.other) (.int (rb.mi + rd.mi))))) Fd = some (.dK (putK fk (Sum.inr rd.other) (.int (rb.mi + rd.mi)))) := upd_same
    generalize upd H9 Fd (.dK (putK fk (Sum.inr rd.other) (.int (rb.mi + rd.mi)))) = H10 at s10 tk10 hLr10 hLq10 hFd10
    have hP10 := rows_tk tk10 hP9
    have hK10 := ZK_tk tk10 hK9
    clear hP9 hK9 hLr9 hLq9 hFd9 hzt9 tk9 hgl9
    walk_at "go"
    refine ⟨.inl ⟨rfl, _, SqL.of hLr10⟩, ?_⟩
    walk_at "go"
    refine ⟨(by show 5 ≤ sizeLine; decide), fun tt ntt => ?_⟩
    have s11 := same_up (o := HO.tup [V.str rd.other, V.int (rb.mi + rd.mi), V.int (rb.tl + rd.tl), V.int (i : Int), V.int (b : Int)]) ntt
    have htt : (upd H10 tt (HO.tup [V.str rd.other, V.int (rb.mi + rd.mi), V.int (rb.tl + rd.tl), V.int (i : Int), V.int (b : Int)])) tt = some (.tup (rowVs ⟨rd.other, rb.mi + rd.mi, rb.tl + rd.tl, (i : Int), (b : Int)⟩)) := upd_same
    have hLr11 := s11 _ _ hLr10
    refine ⟨Lr, us, _, rfl, rfl, hLr11, Evl.sz_lt (by omega), ?_⟩
    have hP12 := rows_upd (o := HO.lst (us ++ [V.ref tt])) hLr11 (Paired.snoc (rows_same s11 hP10) ⟨tt, rfl, htt⟩)
    have s12b : Same H2 (upd (upd H10 tt (HO.tup [V.str rd.other, V.int (rb.mi + rd.mi), V.int (rb.tl + rd.tl), V.int (i : Int), V.int (b : Int)])) Lr (HO.lst (us ++ [V.ref tt]))) := same_new (s10.trans s11) nLr2
    have hLr12 : (upd (upd H10 tt (HO.tup [V.str rd.other, V.int (rb.mi + rd.mi), V.int (rb.tl + rd.tl), V.int (i : Int), V.int (b : Int)])) Lr (HO.lst (us ++ [V.ref tt]))) Lr = some (.lst (us ++ [V.ref tt])) := upd_same
    have hLq12 := upd_at (o := HO.lst (us ++ [V.ref tt])) hne (s11 _ _ hLq10)
    have hFd12 := upd_at (o := HO.lst (us ++ [V.ref tt])) (ne_of (s11 _ _ hFd10) hLr11 (by intro z; cases z)) (s11 _ _ hFd10)
    have hK12 := ZK_tk (TK.up (o := HO.lst (us ++ [V.ref tt])) hLr11 (by intro xs z; cases z)) (ZK_tk (TK.same s11) hK10)
    generalize upd (upd H10 tt (HO.tup [V.str rd.other, V.int (rb.mi + rd.mi), V.int (rb.tl + rd.tl), V.int (i : Int), V.int (b : Int)])) Lr (HO.lst (us ++ [V.ref tt])) = H12 at hP12 s12b hLr12 hLq12 hFd12 hK12
    clear hP10 hK10 hLr10 hLq10 hFd10 s10 s11 tk10 htt hLr11 s9 s8
    have hlen12 : (rows ++ [(⟨rd.other, rb.mi + rd.mi, rb.tl + rd.tl, (i : Int), (b : Int)⟩ : Row)]).length = rows.length + 1 := by simp
    dsimp only [List.set]
    refine seq_if1 (decide (goal = some rd.other)) (fun Q' q' => ?_) (fun hgb => ?_) (fun hgb => ?_)
    · have e : decide (V.str rd.other = goalV goal) = decide (goal = some rd.other) := by
        cases goal with
        | none => rw [decide_eq_false (show ¬ V.str rd.other = goalV none by intro z; cases z), decide_eq_false (show ¬ (none : Option Str) = some rd.other by intro z; cases z)]
        | some w => exact decide_eq_decide.mpr ⟨fun h => by injection h with h; rw [h], fun h => by rw [Option.some.inj h]; rfl⟩
      have hs : scal (V.str rd.other) (goalV goal) = true := by cases goal <;> rfl
      walk_at "go"
      first
        | (refine ⟨hs, _, rfl, ?_⟩; rw [e]; exact q')
        | (rw [e]; exact q')
    · have hgo : goal = some rd.other := of_decide_eq_true hgb
      walk_at "go"
      exact q H12 Lr _ _ (s12.trans s12b) (s12.free nLr2) hLr12 hP12 (lp.last hOk gl60 fw hpk hkmin hkey htn hd hgo) (hrun _ (hrk ▸ .last hpp hkmin hnb hnk hgo))
    have hgo : ¬ goal = some rd.other := of_decide_eq_false hgb
    have hgw : ∀ w, goal = some w → rd.other ≠ w := fun w hw e => hgo (by rw [hw, e])
    refine do_if1 (!c) (fun Q' q' => ⟨_, rfl, _, rfl, q'⟩) (fun hc => ?_) (fun hc => ?_)
    · have hc : c = false := by simpa using hc
      subst hc
      obtain ⟨wl, ys, hwl, hwll, hwlp⟩ := hw rd.other (hOk.o2 rd (List.mem_of_getElem? hg.hr))
      have wfl2 := waysF_len N rd.other N.roads.length
      have nqw2 : Lq ≠ wl := fun z => by rw [← z, nLq2] at hwll; cases hwll
      walk_at "go"
      refine ⟨W, .ref wl, rfl, (by have := DGet.k (k := Sum.inr rd.other) (s12b _ _ h2); rw [hwl] at this; exact this), ?_⟩
      walk_at "go"
      refine ⟨Lq, Lr, wl, limit, zs', us ++ [.ref tt], ys, rows, ⟨rd.other, rb.mi + rd.mi, rb.tl + rd.tl, (i : Int), (b : Int)⟩, _, rfl, hLq12, hK12, hh', hLr12, hP12, s12b _ _ hwll, ways_same s12b hwlp, hne, nqw2, by omega, fun H13 zs2 kp hLq13 hK13 hh13 hl13 hp13 => ?_⟩
      have hm13 := keys_mem hp13
      have s13 : Same H2 H13 := same_keep s12b kp fun x hx => by rw [List.mem_singleton] at hx; rw [hx]; exact nLq2
      have hLr13 := kp _ _ hLr12 (by simpa using hne.symm)
      have hFd13 := kp _ _ hFd12 (by have : Fd ≠ Lq := ne_of hFd12 hLq12 (by intro z; cases z)
                                     simpa using this)
      have tk13 : TK H12 H13 := TK.keep kp fun a ha xs e => by
        rw [List.mem_singleton] at ha
        rw [ha, hLq12] at e
        cases e
      exact ⟨_, (by rw [hlen12]; omega), _, _, zs2, _, _, _, _, _, _, _, _, rfl, s13, hLr13, rows_tk tk13 hP12, hFd13, hLq13, hK13, hh13,
        lp.next hOk fw hpk hkmin hkey htn hd hgw (fun x => by
          rw [hm13 x]
          constructor
          · rintro (e | e)
            · exact .inl e
            · exact .inr ⟨rfl, e⟩
          · rintro (e | ⟨_, e⟩)
            · exact .inl e
            · exact .inr e), (by rw [hlen12]; omega), rfl, fun fin h => hrun fin (.next hpp hkmin hnb hnk hgo (hrk.symm ▸ h.perm hp13.symm))⟩
    · have hc : c = true := by simpa using hc
      subst hc
      exact ⟨_, (by rw [hlen12]; omega), _, _, zs', _, _, _, _, _, _, _, _, rfl, s12b, hLr12, hP12, hFd12, hLq12, hK12, hh',
        lp.next hOk fw hpk hkmin hkey htn hd hgw (fun x => ⟨fun e => .inl e, fun e => by rcases e with e | ⟨e, _⟩; exact e; cases e⟩), (by rw [hlen12]; omega), rfl, fun fin h => hrun fin (.next hpp hkmin hnb hnk hgo (hrk.symm ▸ h.perm (by rw [if_pos rfl, List.append_nil])))⟩
end
end Toll

set_option Elab.async false
set_option linter.all false
set_option maxRecDepth 100000
set_option maxHeartbeats 4000000
namespace Toll
open PySem L2
local macro_rules | `(tactic| walk_at "go1") => `(tactic| first
  | refine ⟨_, rfl, ?_⟩
  | refine ⟨rfl, ?_⟩
  | refine ⟨_, _, rfl, rfl, ?_⟩
  | refine ⟨_, _, rfl, ?_⟩
  | (with_reducible refine' ⟨log_small ?k1 ?k2, ?_⟩; (case k1 => omega); (case k2 => omega))
  | (refine' ⟨?k1, ?_⟩; (case k1 => ((with_reducible show (_ : Int) < _); omega)))
  | (refine' ⟨⟨?k1, ?k2⟩, ?_⟩; (case k1 => omega); (case k2 => omega))
  | (refine' ⟨⟨?k1, ?k2, ?k3, ?k4⟩, ?_⟩; (case k1 => omega); (case k2 => omega); (case k3 => omega); (case k4 => omega))
  | (refine' ⟨.inl ⟨?k1, ?k2⟩, ?_⟩; (case k1 => omega); (case k2 => omega))
  | (refine' ⟨.inr ⟨?k1, ?k2⟩, ?_⟩; (case k1 => omega); (case k2 => omega))
  | (refine' ⟨Evl.sz_of ?k1, ?_⟩; (case k1 => omega))
  | (refine' ⟨?k1, ?_⟩; (case k1 => ((with_reducible show (_ : Int) ≤ _); omega)))
  | refine ⟨⟨_, rfl⟩, ?_⟩
  | refine .inl ⟨_, rfl, ?_⟩ | refine .inr ⟨_, rfl, ?_⟩
  | refine iteT ?_ | refine iteF ?_)
local macro_rules | `(tactic| walk_at "go") => `(tactic| repeat (walk_at "go1"))
local macro_rules | `(tactic| walk_at "ans") => `(tactic| (intro Q' q'; walk_at "go"; (try rw [dec_int]); (try rw [dec_str]); exact q'))
local macro_rules | `(tactic| walk_at "hp") => `(tactic| first | assumption | exact upd_same | (refine' up_same ?e ?h; (case e => assumption); (case h => walk_at "hp")) | (refine' upd_at ?n ?h; (case n => walk_at "ne"); (case h => walk_at "hp")))
local macro_rules | `(tactic| walk_at "ne") => `(tactic| first | assumption | (apply Ne.symm; assumption))
local macro_rules | `(tactic| walk_at "at") => `(tactic| first | exact atI_nat (j := 0) rfl | exact atI_nat (j := 1) rfl | exact atI_nat (j := 2) rfl | exact atI_nat (j := 3) rfl | exact atI_nat (j := 4) rfl)
local macro_rules | `(tactic| walk_at "step1") => `(tactic| first
  | walk_at "go1"
  | (apply ixL_step; (case h => walk_at "hp"); (case a => walk_at "at"))
  | (apply ixT_step; (case h => walk_at "hp"); (case a => walk_at "at"))
  | (apply lenL_step; (case h => walk_at "hp")))
local macro_rules | `(tactic| walk_at "step") => `(tactic| repeat (walk_at "step1"))
section
variable {P : Program} {w : World} {K : PySem.W.Frag} {mg : Str → Option Value} {base : Heap} {A : Ads}
def spLeast (K : PySem.W.Frag) : Sp := fun vs H Q _ => ∃ (a : Addr) (us : List V) (rows : List Row) (nm : Str), vs = [.ref a, .str nm] ∧ SqL K H a us ∧ Paired (RowV H) us rows ∧ 0 < rows.length ∧ rows.length ≤ 100000 ∧ Q (oV (leastF rows nm rows.length)) H
theorem ok_least (T : Txt K mg A) : DefOk P w K mg base CX0 1 A.least ["rows", "name"] (spLeast K) := by
  obtain ⟨fd, F⟩ := T.F_least
  refine ⟨fd, ?_, F.binds (ps := ["rows", "name"]) fun _ _ _ _ _ _ us hl => match us, hl with | [_, _], _ => rfl, F.kp⟩
  refine F.ok sc_least (fun vs H Q E h => ?_) (fun cdv A outer s H vs Q E hr h => ?_)
  · obtain ⟨a, us, rows, nm, rfl, _⟩ := h
    rfl
  · obtain ⟨a, us, rows, nm, rfl, hS, hP, h0, h1, q⟩ := h
    have hus := paired_len hP
    refine ⟨_, (pss_cons (ps_set (i := 2) sc_least.nd rfl (by first | exact Or.inl rfl | exact Or.inr rfl) pe_non)
      (pss_cons (ps_for PassesOwn.never rfl (pi_range2 (by rfl) T.b_range (pa_cons pe_int (pa_cons (pe_callB call_len_seq (by rfl) T.b_len PySem.boot_len (pa_cons (pv 0) pa_nil)) pa_nil))) (pg_name (i := 3) sc_least.nd rfl (by first | exact Or.inl rfl | exact Or.inr rfl)) (pss_cons (ps_if (pt_cmpR op_ne (pe_ix (r := rIxT K) ix_tup (pe_ix (r := rIxL K) ix_list (pv 0) (pv 3) (fun _ _ => rfl)) pe_int (fun _ _ => rfl)) (pv 1) (nomark _)) (pss_one ps_continue) pss_nil)
      (pss_one (ps_if (PW.pt (pw_or (pt_cmpR op_isN (pv 2) pe_non (nomark _)) (pw_or1 (pt_cmpR op_lt (pe_ix (r := rIxT K) ix_tup (pe_ix (r := rIxL K) ix_list (pv 0) (pv 3) (fun _ _ => rfl)) pe_int (fun _ _ => rfl)) (pe_ix (r := rIxT K) ix_tup (pe_ix (r := rIxL K) ix_list (pv 0) (pv 2) (fun _ _ => rfl)) pe_int (fun _ _ => rfl)) (nomark _))))) (pss_one (ps_set (i := 2) sc_least.nd rfl (by first | exact Or.inl rfl | exact Or.inr rfl) (pv 3))) pss_nil))))
      (pss_one (ps_ret (pv 2))))), ?_⟩
    walk_at "go"
    refine ⟨a, us, rfl, .inl hS, ?_⟩
    walk_at "go"
    refine for_range (lo := 1) (n := _) (fun i σ' H' => H = H' ∧ ∃ v, σ' = [some (.ref a), some (.str nm), some (oV (leastF rows nm (1 + i))), v])
      ⟨rfl, none, rfl⟩ ?_ ?_
    · rintro i σ' H' hi ⟨rfl, v, rfl⟩
      obtain ⟨r, hr⟩ : ∃ r, rows[1 + i]? = some r := ⟨_, List.getElem?_eq_getElem (by omega)⟩
      obtain ⟨_, hv, t, rfl, ht⟩ := paired_get hP hr
      have st := leastF_step (nm := nm) (by omega) hr
      have i1 : atI us (1 + (i : Int)) = some (V.ref t) := atI_of (j := 1 + i) (by omega) hv
      dsimp only [gName, List.set]
      refine seq_if1 (!decide (r.nm = nm)) (by
        intro Q' q'
        walk_at "go"
        refine ⟨a, us, _, _, rfl, rfl, hS, i1, ?_⟩
        walk_at "go"
        refine ⟨t, _, _, _, rfl, rfl, SqT.of ht, atI_nat (j := 0) rfl, ?_⟩
        walk_at "go"
        rw [dec_str]
        exact q') (fun hb => ?_) (fun hb => ?_)
      · have hb : ¬ r.nm = nm := by simpa using hb
        rw [if_neg hb] at st
        exact ⟨rfl, _, by rw [show 1 + (i + 1) = 1 + i + 1 by omega, st]⟩
      · have hb : r.nm = nm := by simpa using hb
        rw [if_pos hb] at st
        cases hl : leastF rows nm (1 + i) with
        | none =>
          rw [hl] at st
          refine do_if1 (true || false) (an_or (fun Q' q' => ⟨_, rfl, rfl, _, rfl, q'⟩) (fun z => by cases z)) (fun _ => ?_) (fun z => by cases z)
          refine ⟨_, rfl, rfl, some (.int (1 + (i : Int))), ?_⟩
          rw [show 1 + (i + 1) = 1 + i + 1 by omega, st]
          rfl
        | some b =>
          rw [hl] at st
          have hb2 := leastF_lt hl
          obtain ⟨r2, hr2⟩ : ∃ r, rows[b]? = some r := ⟨_, List.getElem?_eq_getElem (by omega)⟩
          obtain ⟨_, hv2, t2, rfl, ht2⟩ := paired_get hP hr2
          have st : leastF rows nm (1 + i + 1) = if r.tl < r2.tl then some (1 + i) else some b := by
            rw [st]
            show (if r.tl < ((rows[b]?).map (·.tl)).getD 0 then _ else _) = _
            rw [hr2]
            rfl
          refine do_if1 (false || decide (r.tl < r2.tl)) (an_or (fun Q' q' => ⟨_, rfl, rfl, _, rfl, q'⟩) (fun _ => by
            intro Q' q'
            walk_at "go"
            refine ⟨a, us, _, _, rfl, rfl, hS, i1, ?_⟩
            walk_at "go"
            refine ⟨t, _, _, _, rfl, rfl, SqT.of ht, atI_nat (j := 2) rfl, ?_⟩
            walk_at "go"
            refine ⟨a, us, _, _, rfl, rfl, hS, atI_nat hv2, ?_⟩
            walk_at "go"
            refine ⟨t2, _, _, _, rfl, rfl, SqT.of ht2, atI_nat (j := 2) rfl, ?_⟩
            walk_at "go"
            exact q')) (fun hb => ?_) (fun hb => ?_)
          · have hb : r.tl < r2.tl := by simpa using hb
            rw [if_pos hb] at st
            refine ⟨_, rfl, rfl, some (.int (1 + (i : Int))), ?_⟩
            rw [show 1 + (i + 1) = 1 + i + 1 by omega, st]
            rfl
          · have hb : ¬ r.tl < r2.tl := by simpa using hb
            rw [if_neg hb] at st
            refine ⟨rfl, some (.int (1 + (i : Int))), ?_⟩
            rw [show 1 + (i + 1) = 1 + i + 1 by omega, st]
    · rintro σ' H' ⟨rfl, v, rfl⟩
      walk_at "go"
      rw [show 1 + ((us.length : Int) - 1).toNat = rows.length by omega]
      exact q
def spRoads (K : PySem.W.Frag) : Sp := fun vs H Q _ => ∃ (a : Addr) (us : List V) (rows : List Row) (p : Int), vs = [.ref a, .int p] ∧ SqL K H a us ∧ Paired (RowV H) us rows ∧ Backs rows ∧ 0 ≤ p ∧ p < (rows.length : Int) ∧ rows.length ≤ 50000 ∧
  ∀ (H' : Hp) (R : Addr), Same H H' → H R = none → H' R = some (.lst ((roadsOf rows p).map V.int)) → Q (.ref R) H'
theorem ok_roads_to (T : Txt K mg A) : DefOk P w K mg base CX0 1 A.roads_to ["rows", "place"] (spRoads K) := by
  obtain ⟨fd, F⟩ := T.F_roads_to
  refine ⟨fd, ?_, F.binds (ps := ["rows", "place"]) fun _ _ _ _ _ _ us hl => match us, hl with | [_, _], _ => rfl, F.kp⟩
  refine F.ok sc_roads_to (fun vs H Q E h => ?_) (fun cdv A outer s H vs Q E hr h => ?_)
  · obtain ⟨a, us, rows, p, rfl, _⟩ := h
    rfl
  · obtain ⟨a, us, rows, p0, rfl, hS, hP, hB, p0p, p0l, h1, q⟩ := h
    have hus := paired_len hP
    refine ⟨_, (pss_cons (ps_set (i := 2) sc_roads_to.nd rfl (by first | exact Or.inl rfl | exact Or.inr rfl) (pe_lst pa_nil))
      (pss_cons (ps_while PassesOwn.never (pt_cmpR op_gt (pv 1) pe_int (nomark _)) (pss_cons (ps_asg (pe_ix (r := rIxL K) ix_list (pv 0) (pv 1) (fun _ _ => rfl)) (pg_tup (by rfl) (pgs_cons (pg_name (i := 3) sc_roads_to.nd rfl (by first | exact Or.inl rfl | exact Or.inr rfl)) (pgs_cons (pg_name (i := 4) sc_roads_to.nd rfl (by first | exact Or.inl rfl | exact Or.inr rfl)) (pgs_cons (pg_name (i := 5) sc_roads_to.nd rfl (by first | exact Or.inl rfl | exact Or.inr rfl)) (pgs_cons (pg_name (i := 6) sc_roads_to.nd rfl (by first | exact Or.inl rfl | exact Or.inr rfl)) (pgs_cons (pg_name (i := 7) sc_roads_to.nd rfl (by first | exact Or.inl rfl | exact Or.inr rfl)) pgs_nil)))))))
      (pss_cons (ps_expr (pe_bm PySem.F.plainAttrs_list PySem.F.slot_list_append PySem.F.type_list_append mt_append (pv 2) (pa_cons (pv 6) pa_nil)))
      (pss_one (ps_set (i := 1) sc_roads_to.nd rfl (by first | exact Or.inl rfl | exact Or.inr rfl) (pv 7))))))
      (pss_cons (ps_expr (pe_bm0 PySem.F.plainAttrs_list PySem.F.slot_list_reverse PySem.F.type_list_reverse mt_reverse (pv 2)))
      (pss_one (ps_ret (pv 2)))))), ?_⟩
    walk_at "go"
    refine ⟨Nat.zero_le _, fun R hR => ?_⟩
    walk_at "go"
    refine seq_while (fun m σ' H' => Same H H' ∧ ∃ (p : Int) (rs : List Int) (v3 v4 v5 v6 v7 : Option V), σ' = [some (.ref a), some (.int p), some (.ref R), v3, v4, v5, v6, v7] ∧ H' R = some (.lst (rs.map V.int)) ∧ 0 ≤ p ∧ p < (rows.length : Int) ∧ p.toNat ≤ m ∧ (rs.length : Int) + p ≤ p0 ∧ roadsOf rows p ++ rs.reverse = roadsOf rows p0)
      p0.toNat ⟨same_up hR, p0, [], none, none, none, none, none, rfl, upd_same, p0p, p0l, Nat.le_refl _, by simp, by simp⟩ ?_
    rintro m σ' H1 ⟨s1, p, rs, v3, v4, v5, v6, v7, rfl, hL, pp, pl, pm, pr, pe⟩
    refine ⟨decide (0 < p), by walk_at "ans", fun hb => ?_, fun hb => ?_⟩
    · have hb : 0 < p := of_decide_eq_true hb
      obtain ⟨r, hr⟩ : ∃ r, rows[p.toNat]? = some r := ⟨_, List.getElem?_eq_getElem (by omega)⟩
      obtain ⟨_, hv, t, rfl, ht⟩ := paired_get hP hr
      have hbk := hB _ _ hr
      rw [roadsOf_step hB hb hr] at pe
      walk_at "go"
      refine ⟨a, us, _, _, rfl, rfl, s1.seq hS, atI_of (j := p.toNat) (by omega) hv, ?_⟩
      walk_at "go"
      refine ⟨t, _, rfl, SqT.of (s1 _ _ ht), rfl, ?_⟩
      walk_at "go"
      refine ⟨.inl ⟨rfl, _, SqL.of hL⟩, ?_⟩
      walk_at "go"
      refine ⟨R, _, _, rfl, rfl, hL, Evl.sz_lt (by rw [List.length_map]; omega), ?_⟩
      walk_at "go"
      refine ⟨r.bk.toNat, by omega, same_new s1 hR, r.bk, rs ++ [r.rd], _, _, _, _, _, rfl, ?_, by omega, by omega, Nat.le_refl _, ?_, ?_⟩
      · rw [upd_same, List.map_append]
        rfl
      · rw [List.length_append, List.length_singleton]
        omega
      · rw [List.reverse_append, ← pe, List.append_assoc]
        rfl
    · have hb : ¬ 0 < p := of_decide_eq_false hb
      rw [roadsOf_end rows (by omega), List.nil_append] at pe
      walk_at "go"
      refine ⟨.inl ⟨rfl, _, SqL.of hL⟩, ?_⟩
      refine ⟨R, _, rfl, rfl, hL, ?_⟩
      walk_at "go"
      refine q _ R (same_new s1 hR) hR ?_
      rw [upd_same, ← List.map_reverse, pe]
def spLeg (A : Ads) : Sp := fun vs H Q E => ∃ (p g r : Addr) (N : NetD) (one other : Str) (limit : Int), vs = [.ref p, .str one, .str other, .int limit] ∧ NetAt A.C_Net H p g r N ∧ NetOk N ∧ one.length ≤ 1000 ∧ PyData.strOk one = true ∧ other.length ≤ 1000 ∧ PyData.strOk other = true ∧
  (seesOf N.gates one = none → E (.ref A.C_NoGate) none H) ∧ (seesOf N.gates one ≠ none → seesOf N.gates other = none → E (.ref A.C_NoGate) none H) ∧ (seesOf N.gates one ≠ none → seesOf N.gates other ≠ none → limit < 0 → E (.ref A.C_NoNumber) none H) ∧
  (seesOf N.gates one ≠ none → seesOf N.gates other ≠ none → 0 ≤ limit → ∃ u, Few N one limit u ∧
    (∀ H', Same H H' → (∀ m t rs, Drv N one other m t rs → ¬ m ≤ limit) → LegIs N one other limit none → Q .non H') ∧
    (∀ (H' : Hp) (T R : Addr) (t m : Int) (rs : List Int), Same H H' → H T = none → H R = none → T ≠ R → H' T = some (.tup [.int t, .int m, .ref R]) → H' R = some (.lst (rs.map V.int)) → rs.length ≤ 4000 → BestD N one other limit t m rs → LegIs N one other limit (some (t, m, rs)) → Q (.ref T) H'))
theorem ok_leg (T : Txt K mg A) : DefOk P w K mg base (L2.CX P w) 4 A.leg ["net", "one", "other", "limit"] (spLeg A) := by
  obtain ⟨_, G_N_need_gate, B_N_need_gate, K_N_need_gate⟩ := ok_N_need_gate (P := P) (w := w) (base := base) T
  obtain ⟨_, G_rows_until, B_rows_until, K_rows_until⟩ := ok_rows_until (P := P) (w := w) (base := base) T
  obtain ⟨_, G_least, B_least, K_least⟩ := ok_least (P := P) (w := w) (base := base) T
  obtain ⟨_, G_roads_to, B_roads_to, K_roads_to⟩ := ok_roads_to (P := P) (w := w) (base := base) T
  obtain ⟨fd, F⟩ := T.F_leg
  refine ⟨fd, ?_, F.binds (ps := ["net", "one", "other", "limit"]) fun _ _ _ _ _ _ us hl => match us, hl with | [_, _, _, _], _ => rfl, F.kp⟩
  refine F.okX sc_leg (fun vs H Q E h => ?_) (fun cdv A' outer s H vs Q E hr h => ?_)
  · obtain ⟨p, g, r, N, one, other, limit, rfl, _⟩ := h
    rfl
  · obtain ⟨p, g, r, N, one, other, limit, rfl, hN, hOk, l1, o1, l2, o2, k1, k2, k3, kQ⟩ := h
    obtain ⟨dx, hob⟩ := hN.ob
    refine ⟨_, (pss_cons (ps_expr (pe_meth (pv 0) T.c_Net T.M_N_need_gate G_N_need_gate (hr.mono (by decide)) B_N_need_gate .nil (passes_call (takes_of rfl rfl rfl rfl) fun _ _ _ _ h => h) (pa_cons (pv 1) pa_nil)))
      (pss_cons (ps_expr (pe_meth (pv 0) T.c_Net T.M_N_need_gate G_N_need_gate (hr.mono (by decide)) B_N_need_gate .nil (passes_call (takes_of rfl rfl rfl rfl) fun _ _ _ _ h => h) (pa_cons (pv 2) pa_nil)))
      (pss_cons (ps_set (i := 4) sc_leg.nd rfl (by first | exact Or.inl rfl | exact Or.inr rfl) (pe_call G_rows_until (hr.mono (by decide)) rfl T.m_rows_until K_rows_until B_rows_until .nil (passes_call (takes_of rfl rfl rfl rfl) fun _ _ _ _ h => h) (pa_cons (pv 0) (pa_cons (pv 1) (pa_cons (pv 3) (pa_cons (pv 2) pa_nil))))))
      (pss_cons (ps_set (i := 5) sc_leg.nd rfl (by first | exact Or.inl rfl | exact Or.inr rfl) (pe_call G_least (hr.mono (by decide)) rfl T.m_least K_least B_least .nil pass0 (pa_cons (pv 4) (pa_cons (pv 2) pa_nil))))
      (pss_cons (ps_if (pt_cmpR op_isN (pv 5) pe_non (nomark _)) (pss_one (ps_ret pe_non)) pss_nil)
      (pss_cons (ps_asg (pe_ix (r := rIxL K) ix_list (pv 4) (pv 5) (fun _ _ => rfl)) (pg_tup (by rfl) (pgs_cons (pg_name (i := 6) sc_leg.nd rfl (by first | exact Or.inl rfl | exact Or.inr rfl)) (pgs_cons (pg_name (i := 7) sc_leg.nd rfl (by first | exact Or.inl rfl | exact Or.inr rfl)) (pgs_cons (pg_name (i := 8) sc_leg.nd rfl (by first | exact Or.inl rfl | exact Or.inr rfl)) (pgs_cons (pg_name (i := 9) sc_leg.nd rfl (by first | exact Or.inl rfl | exact Or.inr rfl)) (pgs_cons (pg_name (i := 10) sc_leg.nd rfl (by first | exact Or.inl rfl | exact Or.inr rfl)) pgs_nil)))))))
      (pss_one (ps_ret (pe_tup (pa_cons (pv 8) (pa_cons (pv 7) (pa_cons (pe_call G_roads_to (hr.mono (by decide)) rfl T.m_roads_to K_roads_to B_roads_to .nil pass0 (pa_cons (pv 4) (pa_cons (pv 5) pa_nil))) pa_nil)))))))))))), ?_⟩
    walk_at "go"
    refine ⟨p, dx, _, rfl, hob, netF_no _ _ (by decide +kernel) (by decide +kernel), ?_⟩
    walk_at "go"
    refine ⟨p, g, r, N, one, rfl, hN, l1, o1, k1, fun b1 e1 => ?_⟩
    have e1 : seesOf N.gates one ≠ none := by rw [e1]; simp
    walk_at "go"
    refine ⟨p, dx, _, rfl, hob, netF_no _ _ (by decide +kernel) (by decide +kernel), ?_⟩
    walk_at "go"
    refine ⟨p, g, r, N, other, rfl, hN, l2, o2, k2 e1, fun b2 e2 => ?_⟩
    have e2 : seesOf N.gates other ≠ none := by rw [e2]; simp
    walk_at "go"
    refine ⟨p, g, r, N, one, limit, some other, rfl, hN, hOk, l1, o1, fun z => absurd z e1, fun _ h => k3 e1 e2 h, fun _ h => ?_⟩
    obtain ⟨u, fw, qN, qS⟩ := kQ e1 e2 h
    refine ⟨u, fw, fun H1 L us rows s1 nL hL hP post hrun => ?_⟩
    have hul := paired_len hP
    have h1 := post.2.1
    have h0 := post.1.lenPos
    walk_at "go"
    refine ⟨L, us, rows, other, rfl, SqL.of hL, hP, h0, by omega, ?_⟩
    walk_at "go"
    cases hl : leastF rows other rows.length with
    | none =>
      refine ite2 (fun _ => ?_) (fun z => absurd (decide_eq_true rfl) z)
      walk_at "go"
      exact qN H1 s1 (fun m t rs d hm => leg_none hOk post hl d hm) ⟨rows, hrun, by unfold legOf; rw [hl]; rfl⟩
    | some b =>
      refine ite2 (fun z => (by have z := of_decide_eq_true z; cases z)) (fun _ => ?_)
      obtain ⟨rb, hb, bd⟩ := leg_some hOk post hl
      obtain ⟨_, hv, tr, rfl, htr⟩ := paired_get hP hb
      have hbl := (List.getElem?_eq_some_iff.mp hb).1
      walk_at "go"
      refine ⟨L, us, _, _, rfl, rfl, SqL.of hL, atI_nat (j := b) hv, ?_⟩
      walk_at "go"
      refine ⟨tr, _, rfl, SqT.of htr, rfl, ?_⟩
      walk_at "go"
      refine ⟨L, us, rows, (b : Int), rfl, SqL.of hL, hP, post.1.backs, by omega, by omega, by omega, fun H2 R s2 nR hR => ?_⟩
      walk_at "go"
      refine ⟨(by show 3 ≤ sizeLine; decide), fun t nt => ?_⟩
      walk_at "go"
      have hne : t ≠ R := (ne_of_none hR nt).symm
      refine qS _ t R rb.tl rb.mi _ ((s1.trans s2).trans (same_up nt)) ((s1.trans s2).free nt) (s1.free nR) hne upd_same (by rw [upd_ne hne.symm]; exact hR) ?_ bd ⟨rows, hrun, by unfold legOf; rw [hl]; show (rows[b]?).map _ = _; rw [hb]; rfl⟩
      have := roadsF_len rows (b : Int).toNat (b : Int)
      unfold roadsOf
      omega
end
end Toll

set_option Elab.async false
set_option linter.all false
set_option maxRecDepth 100000
set_option maxHeartbeats 4000000
namespace Toll
open PySem L2
local macro_rules | `(tactic| walk_at "go1") => `(tactic| first
  | refine ⟨_, rfl, ?_⟩
  | refine ⟨rfl, ?_⟩
  | refine ⟨_, _, rfl, rfl, ?_⟩
  | refine ⟨_, _, rfl, ?_⟩
  | (with_reducible refine' ⟨log_small ?k1 ?k2, ?_⟩; (case k1 => omega); (case k2 => omega))
  | (refine' ⟨?k1, ?_⟩; (case k1 => ((with_reducible show (_ : Int) < _); omega)))
  | (refine' ⟨⟨?k1, ?k2⟩, ?_⟩; (case k1 => omega); (case k2 => omega))
  | (refine' ⟨⟨?k1, ?k2, ?k3, ?k4⟩, ?_⟩; (case k1 => omega); (case k2 => omega); (case k3 => omega); (case k4 => omega))
  | (refine' ⟨.inl ⟨?k1, ?k2⟩, ?_⟩; (case k1 => omega); (case k2 => omega))
  | (refine' ⟨.inr ⟨?k1, ?k2⟩, ?_⟩; (case k1 => omega); (case k2 => omega))
  | (refine' ⟨Evl.sz_of ?k1, ?_⟩; (case k1 => omega))
  | (refine' ⟨?k1, ?_⟩; (case k1 => ((with_reducible show (_ : Int) ≤ _); omega)))
  | refine ⟨⟨_, rfl⟩, ?_⟩
  | refine .inl ⟨_, rfl, ?_⟩ | refine .inr ⟨_, rfl, ?_⟩
  | refine iteT ?_ | refine iteF ?_)
local macro_rules | `(tactic| walk_at "go") => `(tactic| repeat (walk_at "go1"))
local macro_rules | `(tactic| walk_at "ans") => `(tactic| (intro Q' q'; walk_at "go"; (try rw [dec_int]); (try rw [dec_str]); exact q'))
local macro_rules | `(tactic| walk_at "hp") => `(tactic| first | assumption | exact upd_same | (refine' up_same ?e ?h; (case e => assumption); (case h => walk_at "hp")) | (refine' upd_at ?n ?h; (case n => walk_at "ne"); (case h => walk_at "hp")))
local macro_rules | `(tactic| walk_at "ne") => `(tactic| first | assumption | (apply Ne.symm; assumption))
local macro_rules | `(tactic| walk_at "at") => `(tactic| first | exact atI_nat (j := 0) rfl | exact atI_nat (j := 1) rfl | exact atI_nat (j := 2) rfl | exact atI_nat (j := 3) rfl | exact atI_nat (j := 4) rfl)
local macro_rules | `(tactic| walk_at "step1") => `(tactic| first
  | walk_at "go1"
  | (apply ixL_step; (case h => walk_at "hp"); (case a => walk_at "at"))
  | (apply ixT_step; (case h => walk_at "hp"); (case a => walk_at "at"))
  | (apply lenL_step; (case h => walk_at "hp")))
local macro_rules | `(tactic| walk_at "step") => `(tactic| repeat (walk_at "step1"))
section
variable {P : Program} {w : World} {K : PySem.W.Frag} {mg : Str → Option Value} {base : Heap} {A : Ads}
def spNeedS (A : Ads) : Sp := fun vs H Q E => ∃ (p g r S : Addr) (N : NetD) (us : List V) (ss : List (Int × Str)), vs = [.ref p, .ref S] ∧ NetAt A.C_Net H p g r N ∧ H S = some (.lst us) ∧ Paired (SeenV H) us ss ∧ (∀ q ∈ ss, q.2.length ≤ 1000 ∧ PyData.strOk q.2 = true) ∧
  (ss = [] → E (.ref A.C_NoSight) none H) ∧ (ss ≠ [] → seenRef N 0 ss = some true → E (.ref A.C_NoGate) none H) ∧ (ss ≠ [] → seenRef N 0 ss = some false → E (.ref A.C_NoTime) none H) ∧ (ss ≠ [] → seenRef N 0 ss = none → Q .non H)
theorem ok_need_sightings (T : Txt K mg A) : DefOk P w K mg base (L2.CX P w) 2 A.need_sightings ["net", "seen"] (spNeedS A) := by
  obtain ⟨_, G_N_need_gate, B_N_need_gate, K_N_need_gate⟩ := ok_N_need_gate (P := P) (w := w) (base := base) T
  obtain ⟨fd, F⟩ := T.F_need_sightings
  refine ⟨fd, ?_, F.binds (ps := ["net", "seen"]) fun _ _ _ _ _ _ us hl => match us, hl with | [_, _], _ => rfl, F.kp⟩
  refine F.okX sc_need_sightings (fun vs H Q E h => ?_) (fun cdv A' outer s H vs Q E hr h => ?_)
  · obtain ⟨p, g, r, S, N, us, ss, rfl, _⟩ := h
    rfl
  · obtain ⟨p, g, r, S, N, us, ss, rfl, hN, hS, hP, hn, kS, kG, kT, q⟩ := h
    obtain ⟨dx, hob⟩ := hN.ob
    have ul := paired_len hP
    refine ⟨_, (pss_cons (ps_if (pt_cmpR op_eq (pe_callB call_len_seq (by rfl) T.b_len PySem.boot_len (pa_cons (pv 1) pa_nil)) pe_int (nomark _)) (pss_one (ps_raise rfl (takes_of rfl rfl rfl rfl) (SkE.pmk_own1 PySem.F.excBase_ValueError T.e_NoSight.x T.e_NoSight.g T.e_NoSight.k (raises_own T.e_NoSight.b T.e_NoSight.t) rfl pe_str))) pss_nil)
      (pss_cons (ps_set (i := 2) sc_need_sightings.nd rfl (by first | exact Or.inl rfl | exact Or.inr rfl) pe_int)
      (pss_one (ps_for (passes_of rfl) rfl (pi_list (pv 1)) (pg_tup (by rfl) (pgs_cons (pg_name (i := 3) sc_need_sightings.nd rfl (by first | exact Or.inl rfl | exact Or.inr rfl)) (pgs_cons (pg_name (i := 4) sc_need_sightings.nd rfl (by first | exact Or.inl rfl | exact Or.inr rfl)) pgs_nil))) (pss_cons (ps_expr (pe_meth (pv 0) T.c_Net T.M_N_need_gate G_N_need_gate (hr.mono (by decide)) B_N_need_gate .nil (passes_call (takes_of rfl rfl rfl rfl) fun _ _ _ _ h => h) (pa_cons (pv 4) pa_nil)))
      (pss_cons (ps_if (pt_cmpR op_lt (pv 3) (pv 2) (nomark _)) (pss_one (ps_raise rfl (takes_of rfl rfl rfl rfl) (SkE.pmk_own1 PySem.F.excBase_ValueError T.e_NoTime.x T.e_NoTime.g T.e_NoTime.k (raises_own T.e_NoTime.b T.e_NoTime.t) rfl pe_str))) pss_nil)
      (pss_one (ps_set (i := 2) sc_need_sightings.nd rfl (by first | exact Or.inl rfl | exact Or.inr rfl) (pv 3))))))))), ?_⟩
    walk_at "go"
    refine ⟨S, us, rfl, .inl (SqL.of hS), ?_⟩
    walk_at "go"
    by_cases he : ss = []
    · refine ite2 (fun _ => ?_) (fun z => absurd (by rw [ul, he]; exact decide_eq_true rfl) z)
      walk_at "go"
      exact kS he
    refine ite2 (fun z => absurd (of_decide_eq_true z) (by
      intro z
      injection z with z
      have := List.length_pos_iff.mpr he
      omega)) (fun _ => ?_)
    walk_at "go"
    refine ⟨⟨_, SqL.of hS⟩, for_list (K := K) (a := S) (xs := us) (fun i σ' H' => H = H' ∧ ∃ ah v3 v4, σ' = [some (.ref p), some (.ref S), some (.int ah), v3, v4] ∧ seenRef N ah (ss.drop i) = seenRef N 0 ss)
      ⟨rfl, 0, _, _, rfl, rfl⟩ (fun i σ' H' _ ⟨e, _⟩ => SqL.of (e ▸ hS)) ?_ ?_⟩
    · rintro i x σ' H' hi ⟨rfl, ah, v3, v4, rfl, hsr⟩
      obtain ⟨sq, hsq, t, rfl, ht⟩ := paired_getL hP hi
      obtain ⟨n1, n2⟩ := hn sq (List.mem_of_getElem? hsq)
      have il := (List.getElem?_eq_some_iff.mp hsq).1
      have ed : ss.drop i = sq :: ss.drop (i + 1) := by
        obtain ⟨l, ex⟩ := List.getElem?_eq_some_iff.mp hsq
        rw [← ex]
        exact List.drop_eq_getElem_cons l
      rw [ed] at hsr
      have hsr : (if seesOf N.gates sq.2 = none then some true else if sq.1 < ah then some false else seenRef N sq.1 (ss.drop (i + 1))) = seenRef N 0 ss := hsr
      walk_at "go"
      refine ⟨t, _, rfl, SqT.of ht, rfl, ?_⟩
      refine ⟨_, _, rfl, _, _, rfl, rfl, ?_⟩
      walk_at "go"
      refine ⟨p, dx, _, rfl, hob, netF_no _ _ (by decide +kernel) (by decide +kernel), ?_⟩
      walk_at "go"
      refine ⟨p, g, r, N, sq.2, rfl, hN, n1, n2, fun z => ?_, fun b eb => ?_⟩
      · rw [if_pos z] at hsr
        exact kG he hsr.symm
      rw [if_neg (by rw [eb]; simp)] at hsr
      walk_at "go"
      refine ite2 (fun z => ?_) (fun z => ?_)
      · rw [if_pos (of_decide_eq_true z)] at hsr
        walk_at "go"
        exact kT he hsr.symm
      · rw [if_neg (fun y => z (decide_eq_true y))] at hsr
        walk_at "go"
        exact ⟨_, _, _, rfl, hsr⟩
    · rintro σ' H' ⟨rfl, ah, v3, v4, rfl, hsr⟩
      rw [ul, List.drop_length] at hsr
      exact q he hsr.symm
def spPassed (A : Ads) : Sp := fun vs H Q _ => ∃ (p g r R : Addr) (N : NetD) (rs : List Int) (time : Int), vs = [.ref p, .ref R, .int time] ∧ NetAt A.C_Net H p g r N ∧ H R = some (.lst (rs.map V.int)) ∧ rs.length ≤ 5000 ∧ (∀ x ∈ rs, 0 ≤ x ∧ x < (N.roads.length : Int)) ∧
  ∀ (H' : Hp) (L : Addr) (ws : List V), Same H H' → H L = none → H' L = some (.lst ws) → Paired (PassV H') ws (walkT N time rs.dropLast) → Q (.ref L) H'
theorem ok_passed_between (T : Txt K mg A) : DefOk P w K mg base CX0 2 A.passed_between ["net", "numbers", "time"] (spPassed A) := by
  obtain ⟨_, G_N_roads, B_N_roads, K_N_roads⟩ := ok_N_roads (P := P) (w := w) (base := base) T
  obtain ⟨fd, F⟩ := T.F_passed_between
  refine ⟨fd, ?_, F.binds (ps := ["net", "numbers", "time"]) fun _ _ _ _ _ _ us hl => match us, hl with | [_, _, _], _ => rfl, F.kp⟩
  refine F.ok sc_passed_between (fun vs H Q E h => ?_) (fun cdv A' outer s H vs Q E hr h => ?_)
  · obtain ⟨p, g, r, R, N, rs, time, rfl, _⟩ := h
    rfl
  · obtain ⟨p, g, r, R, N, rs, time, rfl, hN, hR, hl, hv, q⟩ := h
    obtain ⟨dx, hob⟩ := hN.ob
    refine ⟨_, (pss_cons (ps_set (i := 3) sc_passed_between.nd rfl (by first | exact Or.inl rfl | exact Or.inr rfl) (pe_meth0 (pv 0) T.c_Net T.M_N_roads G_N_roads (hr.mono (by decide)) B_N_roads .nil pass0))
      (pss_cons (ps_set (i := 4) sc_passed_between.nd rfl (by first | exact Or.inl rfl | exact Or.inr rfl) (pe_lst pa_nil))
      (pss_cons (ps_for PassesOwn.never rfl (pi_list (pe_slice sl_list (pv 1) po_none (po_some (pe_un un_neg pe_int)))) (pg_name (i := 5) sc_passed_between.nd rfl (by first | exact Or.inl rfl | exact Or.inr rfl)) (pss_cons (ps_asg (pe_ix (r := rIxL K) ix_list (pv 3) (pv 5) (fun _ _ => rfl)) (pg_tup (by rfl) (pgs_cons (pg_name (i := 6) sc_passed_between.nd rfl (by first | exact Or.inl rfl | exact Or.inr rfl)) (pgs_cons (pg_name (i := 7) sc_passed_between.nd rfl (by first | exact Or.inl rfl | exact Or.inr rfl)) (pgs_cons (pg_name (i := 8) sc_passed_between.nd rfl (by first | exact Or.inl rfl | exact Or.inr rfl)) (pgs_cons (pg_name (i := 9) sc_passed_between.nd rfl (by first | exact Or.inl rfl | exact Or.inr rfl)) (pgs_cons (pg_name (i := 10) sc_passed_between.nd rfl (by first | exact Or.inl rfl | exact Or.inr rfl)) pgs_nil)))))))
      (pss_cons (ps_aug (i := 2) sc_passed_between.nd rfl (by first | exact Or.inl rfl | exact Or.inr rfl) (pv 8) ip_add)
      (pss_one (ps_expr (pe_bm PySem.F.plainAttrs_list PySem.F.slot_list_append PySem.F.type_list_append mt_append (pv 4) (pa_cons (pe_tup (pa_cons (pv 7) (pa_cons (pv 2) pa_nil))) pa_nil)))))))
      (pss_one (ps_ret (pv 4)))))), ?_⟩
    walk_at "go"
    refine ⟨p, dx, _, rfl, hob, netF_no _ _ (by decide +kernel) (by decide +kernel), ?_⟩
    walk_at "go"
    refine ⟨p, g, r, N, rfl, hN, fun H1 Lr us s1 nLr hLr hP => ?_⟩
    have hR1 := s1 _ _ hR
    walk_at "go"
    refine ⟨Nat.zero_le _, fun L nL => ?_⟩
    have nL0 := s1.free nL
    have s2 := s1.trans (same_up (o := HO.lst []) nL)
    have hL : (upd H1 L (.lst [])) L = some (.lst []) := upd_same
    have hLr2 := (same_up (o := HO.lst []) nL) _ _ hLr
    have hR2 := (same_up (o := HO.lst []) nL) _ _ hR1
    have hP2 := roads_same (same_up (o := HO.lst []) nL) hP
    generalize upd H1 L (.lst []) = H2 at s2 hL hLr2 hR2 hP2
    walk_at "go"
    refine ⟨R, _, rfl, SqL.of hR2, fun X nX => ?_⟩
    have sX := same_up (o := HO.lst (cutV (rs.map V.int) none (some (-1)))) nX
    have hX : (upd H2 X (.lst (cutV (rs.map V.int) none (some (-1))))) X = some (.lst (rs.dropLast.map V.int)) := by
      rw [upd_same, cut_dropLast, List.map_dropLast]
    have hL3 := sX _ _ hL
    have hLr3 := sX _ _ hLr2
    have hP3 := roads_same sX hP2
    have hXL : X ≠ L := (ne_of_none hL nX).symm
    have nX0 := s2.free nX
    replace s2 := s2.trans sX
    generalize upd H2 X (.lst (cutV (rs.map V.int) none (some (-1)))) = H3 at s2 hX hL3 hLr3 hP3
    have ldr : rs.dropLast.length ≤ 5000 := by rw [List.length_dropLast]; omega
    have hv2 : ∀ x ∈ rs.dropLast, 0 ≤ x ∧ x < (N.roads.length : Int) := fun x hx => hv x ((List.dropLast_sublist rs).mem hx)
    generalize hds : rs.dropLast = ds at hX ldr hv2
    walk_at "go"
    refine ⟨⟨_, SqL.of hX⟩, for_list (K := K) (a := X) (xs := ds.map V.int) (fun i σ' H' => Keep [L] H3 H' ∧ (∃ ws, H' L = some (.lst ws) ∧ Paired (PassV H') ws (walkT N time (ds.take i))) ∧ ∃ v5 v6 v7 v8 v9 v10, σ' = [some (.ref p), some (.ref R), some (.int (time + ((ds.take i).map (miOf N)).sum)), some (.ref Lr), some (.ref L), v5, v6, v7, v8, v9, v10])
      ⟨Keep.of_same (Same.refl _), ⟨[], hL3, .nil⟩, _, _, _, _, _, _, by simp; rfl⟩ (fun i σ' H' _ ⟨k, _⟩ => SqL.of (k _ _ hX (by simpa using hXL))) ?_ ?_⟩
    · rintro i x σ' H' hi ⟨k4, ⟨ws, hws, hWP⟩, v5, v6, v7, v8, v9, v10, rfl⟩
      obtain ⟨z, hz, rfl⟩ := map_int_at hi
      obtain ⟨z0, z1⟩ := hv2 z (List.mem_of_getElem? hz)
      have il := (List.getElem?_eq_some_iff.mp hz).1
      obtain ⟨j, rfl⟩ : ∃ j : Nat, z = (j : Int) := ⟨z.toNat, by omega⟩
      obtain ⟨rd, hrd⟩ : ∃ r, N.roads[j]? = some r := ⟨_, List.getElem?_eq_getElem (by omega)⟩
      obtain ⟨_, hv, tr, rfl, htr⟩ := paired_get hP3 hrd
      have htr4 := k4 _ _ htr (by have := ne_of htr hL3 (by intro z; cases z); simpa using this)
      have hLrL : Lr ≠ L := fun z => by
        rw [z] at hLr
        rw [hLr] at nL
        cases nL
      have hLr4 := k4 _ _ hLr3 (by simpa using hLrL)
      have wl := paired_len hWP
      rw [walkT_len, List.length_take] at wl
      have hm := (tlOf_at (N := N) hrd).2
      have ho : otherOf N (j : Int) = rd.other := by
        unfold otherOf
        rw [Int.toNat_natCast, hrd]
        rfl
      walk_at "go"
      refine ⟨Lr, us, _, _, rfl, rfl, SqL.of hLr4, atI_nat (j := j) hv, ?_⟩
      walk_at "go"
      refine ⟨tr, _, rfl, SqT.of htr4, rfl, ?_⟩
      refine ⟨_, _, rfl, _, _, rfl, _, _, rfl, _, _, rfl, _, _, rfl, rfl, ?_⟩
      walk_at "go"
      refine ⟨.inl ⟨rfl, _, SqL.of hws⟩, ?_⟩
      walk_at "go"
      refine ⟨(by show 2 ≤ sizeLine; decide), fun t nt => ?_⟩
      have st := same_up (o := HO.tup [V.str rd.other, V.int (time + ((ds.take i).map (miOf N)).sum + rd.mi)]) nt
      have ht : (upd H' t (.tup [V.str rd.other, V.int (time + ((ds.take i).map (miOf N)).sum + rd.mi)])) t = some (.tup [.str rd.other, .int (time + ((ds.take i).map (miOf N)).sum + rd.mi)]) := upd_same
      have hws2 := st _ _ hws
      have hWP2 := pass_same st hWP
      refine ⟨L, _, _, rfl, rfl, hws2, Evl.sz_lt (by omega), ?_⟩
      have tk := TK.up (o := HO.lst (ws ++ [V.ref t])) hws2 (by intro xs z; cases z)
      have et : time + ((ds.take (i + 1)).map (miOf N)).sum = time + ((ds.take i).map (miOf N)).sum + rd.mi := by
        rw [List.take_add_one, hz]
        show time + ((ds.take i ++ [(j : Int)]).map (miOf N)).sum = _
        rw [List.map_append, List.sum_append]
        show time + (((ds.take i).map (miOf N)).sum + (miOf N (j : Int) + 0)) = _
        rw [hm]
        omega
      dsimp only
      rw [et]
      refine ⟨(k4.trans (Keep.of_same st)).upd (.inl (by simp)), ⟨_, upd_same, ?_⟩, _, _, _, _, _, _, rfl⟩
      · rw [List.take_add_one, hz]
        show Paired _ _ (walkT N time (ds.take i ++ [(j : Int)]))
        rw [walkT_snoc, ho, hm]
        exact Paired.snoc (pass_tk tk hWP2) ⟨t, rfl, tk _ _ ht⟩
    · rintro σ' H' ⟨k4, ⟨ws, hws, hWP⟩, v5, v6, v7, v8, v9, v10, rfl⟩
      rw [List.length_map, List.take_length] at hWP
      walk_at "go"
      exact q H' L ws (same_keep s2 k4 fun x hx => by rw [List.mem_singleton] at hx; rw [hx]; exact nL0) nL0 hws (by rw [hds]; exact hWP)
end
end Toll

set_option Elab.async false
set_option linter.all false
set_option maxRecDepth 100000
set_option maxHeartbeats 4000000
namespace Toll
open PySem L2
local macro_rules | `(tactic| walk_at "go1") => `(tactic| first
  | refine ⟨_, rfl, ?_⟩
  | refine ⟨rfl, ?_⟩
  | refine ⟨_, _, rfl, rfl, ?_⟩
  | refine ⟨_, _, rfl, ?_⟩
  | (with_reducible refine' ⟨log_small ?k1 ?k2, ?_⟩; (case k1 => omega); (case k2 => omega))
  | (refine' ⟨?k1, ?_⟩; (case k1 => ((with_reducible show (_ : Int) < _); omega)))
  | (refine' ⟨⟨?k1, ?k2⟩, ?_⟩; (case k1 => omega); (case k2 => omega))
  | (refine' ⟨⟨?k1, ?k2, ?k3, ?k4⟩, ?_⟩; (case k1 => omega); (case k2 => omega); (case k3 => omega); (case k4 => omega))
  | (refine' ⟨.inl ⟨?k1, ?k2⟩, ?_⟩; (case k1 => omega); (case k2 => omega))
  | (refine' ⟨.inr ⟨?k1, ?k2⟩, ?_⟩; (case k1 => omega); (case k2 => omega))
  | (refine' ⟨Evl.sz_of ?k1, ?_⟩; (case k1 => omega))
  | (refine' ⟨?k1, ?_⟩; (case k1 => ((with_reducible show (_ : Int) ≤ _); omega)))
  | refine ⟨⟨_, rfl⟩, ?_⟩
  | refine .inl ⟨_, rfl, ?_⟩ | refine .inr ⟨_, rfl, ?_⟩
  | refine iteT ?_ | refine iteF ?_)
local macro_rules | `(tactic| walk_at "go") => `(tactic| repeat (walk_at "go1"))
local macro_rules | `(tactic| walk_at "ans") => `(tactic| (intro Q' q'; walk_at "go"; (try rw [dec_int]); (try rw [dec_str]); exact q'))
local macro_rules | `(tactic| walk_at "hp") => `(tactic| first | assumption | exact upd_same | (refine' up_same ?e ?h; (case e => assumption); (case h => walk_at "hp")) | (refine' upd_at ?n ?h; (case n => walk_at "ne"); (case h => walk_at "hp")))
local macro_rules | `(tactic| walk_at "ne") => `(tactic| first | assumption | (apply Ne.symm; assumption))
local macro_rules | `(tactic| walk_at "at") => `(tactic| first | exact atI_nat (j := 0) rfl | exact atI_nat (j := 1) rfl | exact atI_nat (j := 2) rfl | exact atI_nat (j := 3) rfl | exact atI_nat (j := 4) rfl)
local macro_rules | `(tactic| walk_at "step1") => `(tactic| first
  | walk_at "go1"
  | (apply ixL_step; (case h => walk_at "hp"); (case a => walk_at "at"))
  | (apply ixT_step; (case h => walk_at "hp"); (case a => walk_at "at"))
  | (apply lenL_step; (case h => walk_at "hp")))
local macro_rules | `(tactic| walk_at "step") => `(tactic| repeat (walk_at "step1"))
section
variable {P : Program} {w : World} {K : PySem.W.Frag} {mg : Str → Option Value} {base : Heap} {A : Ads}
def spGuess (A : Ads) : Sp := fun vs H Q E => ∃ (p g r S : Addr) (N : NetD) (us : List V) (ss : List (Int × Str)), vs = [.ref p, .ref S] ∧ NetAt A.C_Net H p g r N ∧ NetOk N ∧ H S = some (.lst us) ∧ Paired (SeenV H) us ss ∧ ss.length ≤ 20 ∧ (∀ q ∈ ss, q.2.length ≤ 1000 ∧ PyData.strOk q.2 = true) ∧
  (ss = [] → E (.ref A.C_NoSight) none H) ∧ (ss ≠ [] → seenRef N 0 ss = some true → E (.ref A.C_NoGate) none H) ∧ (ss ≠ [] → seenRef N 0 ss = some false → E (.ref A.C_NoTime) none H) ∧
  (ss ≠ [] → seenRef N 0 ss = none → (∀ i a b, ss[i]? = some a → ss[i + 1]? = some b → seesOf N.gates a.2 ≠ none ∧ seesOf N.gates b.2 ≠ none ∧ a.1 ≤ b.1 ∧ ∃ u, Few N a.2 (b.1 - a.1) u) ∧
    (∀ (H' : Hp) (T : Addr) (k : Nat), Same H H' → H T = none → H' T = some (.tup [.str "none", .int (k : Int)]) → GuessP N ss (.no k) → Q (.ref T) H') ∧
    (∀ (H' : Hp) (T R L : Addr) (ws : List V) (legs : List LegD) (q0 : Int × Str), Same H H' → H T = none → H R = none → H L = none → R ≠ L → H' T = some (.tup [.str "way", .int (tollsOf legs), .ref R, .ref L]) → H' R = some (.lst ((roadsAll legs).map V.int)) → H' L = some (.lst ws) → ss[0]? = some q0 → Paired (PassV H') ws ((q0.2, q0.1) :: passU N ss legs legs.length) → GuessP N ss (.way legs) → Q (.ref T) H'))
theorem ok_guess (T : Txt K mg A) : DefOk P w K mg base (L2.CX P w) 5 A.guess ["net", "seen"] (spGuess A) := by
  obtain ⟨_, G_need_sightings, B_need_sightings, K_need_sightings⟩ := ok_need_sightings (P := P) (w := w) (base := base) T
  obtain ⟨_, G_passed_between, B_passed_between, K_passed_between⟩ := ok_passed_between (P := P) (w := w) (base := base) T
  obtain ⟨_, G_leg, B_leg, K_leg⟩ := ok_leg (P := P) (w := w) (base := base) T
  obtain ⟨fd, F⟩ := T.F_guess
  refine ⟨fd, ?_, F.binds (ps := ["net", "seen"]) fun _ _ _ _ _ _ us hl => match us, hl with | [_, _], _ => rfl, F.kp⟩
  refine F.okX sc_guess (fun vs H Q E h => ?_) (fun cdv A' outer s H vs Q E hr h => ?_)
  · obtain ⟨p, g, r, S, N, us, ss, rfl, _⟩ := h
    rfl
  · obtain ⟨p, g, r, S, N, us, ss, rfl, hN, hOk, hS, hP, h20, hn, kS, kG, kT, kQ⟩ := h
    have ul := paired_len hP
    refine ⟨_, (pss_cons (ps_expr (pe_call G_need_sightings (hr.mono (by decide)) rfl T.m_need_sightings K_need_sightings B_need_sightings .nil (passes_call (takes_of rfl rfl rfl rfl) fun _ _ _ _ h => h) (pa_cons (pv 0) (pa_cons (pv 1) pa_nil))))
      (pss_cons (ps_asg (pe_ix (r := rIxL K) ix_list (pv 1) pe_int (fun _ _ => rfl)) (pg_tup (by rfl) (pgs_cons (pg_name (i := 2) sc_guess.nd rfl (by first | exact Or.inl rfl | exact Or.inr rfl)) (pgs_cons (pg_name (i := 3) sc_guess.nd rfl (by first | exact Or.inl rfl | exact Or.inr rfl)) pgs_nil))))
      (pss_cons (ps_set (i := 4) sc_guess.nd rfl (by first | exact Or.inl rfl | exact Or.inr rfl) pe_int)
      (pss_cons (ps_set (i := 5) sc_guess.nd rfl (by first | exact Or.inl rfl | exact Or.inr rfl) (pe_lst pa_nil))
      (pss_cons (ps_set (i := 6) sc_guess.nd rfl (by first | exact Or.inl rfl | exact Or.inr rfl) (pe_lst (pa_cons (pe_tup (pa_cons (pv 3) (pa_cons (pv 2) pa_nil))) pa_nil)))
      (pss_cons (ps_for (passes_of rfl) rfl (pi_range2 (by rfl) T.b_range (pa_cons pe_int (pa_cons (pe_callB call_len_seq (by rfl) T.b_len PySem.boot_len (pa_cons (pv 1) pa_nil)) pa_nil))) (pg_name (i := 7) sc_guess.nd rfl (by first | exact Or.inl rfl | exact Or.inr rfl)) (pss_cons (ps_asg (pe_ix (r := rIxL K) ix_list (pv 1) (pv 7) (fun _ _ => rfl)) (pg_tup (by rfl) (pgs_cons (pg_name (i := 8) sc_guess.nd rfl (by first | exact Or.inl rfl | exact Or.inr rfl)) (pgs_cons (pg_name (i := 9) sc_guess.nd rfl (by first | exact Or.inl rfl | exact Or.inr rfl)) pgs_nil))))
      (pss_cons (ps_set (i := 10) sc_guess.nd rfl (by first | exact Or.inl rfl | exact Or.inr rfl) (pe_call G_leg (hr.mono (by decide)) rfl T.m_leg K_leg B_leg .nil (passes_call (takes_of rfl rfl rfl rfl) fun _ _ _ _ h => h) (pa_cons (pv 0) (pa_cons (pv 3) (pa_cons (pv 9) (pa_cons (pe_op op_sub (pv 8) (pv 2)) pa_nil))))))
      (pss_cons (ps_if (pt_cmpR op_isN (pv 10) pe_non (nomark _)) (pss_one (ps_ret (pe_tup (pa_cons pe_str (pa_cons (pe_op op_sub (pv 7) pe_int) pa_nil))))) pss_nil)
      (pss_cons (ps_asg (pv 10) (pg_tup (by rfl) (pgs_cons (pg_name (i := 11) sc_guess.nd rfl (by first | exact Or.inl rfl | exact Or.inr rfl)) (pgs_cons (pg_name (i := 12) sc_guess.nd rfl (by first | exact Or.inl rfl | exact Or.inr rfl)) (pgs_cons (pg_name (i := 13) sc_guess.nd rfl (by first | exact Or.inl rfl | exact Or.inr rfl)) pgs_nil)))))
      (pss_cons (ps_aug (i := 4) sc_guess.nd rfl (by first | exact Or.inl rfl | exact Or.inr rfl) (pv 11) ip_add)
      (pss_cons (ps_expr (pe_bm PySem.F.plainAttrs_list PySem.F.slot_list_extend PySem.F.type_list_extend mt_extend (pv 5) (pa_cons (pv 13) pa_nil)))
      (pss_cons (ps_expr (pe_bm PySem.F.plainAttrs_list PySem.F.slot_list_extend PySem.F.type_list_extend mt_extend (pv 6) (pa_cons (pe_call G_passed_between (hr.mono (by decide)) rfl T.m_passed_between K_passed_between B_passed_between .nil pass0 (pa_cons (pv 0) (pa_cons (pv 13) (pa_cons (pv 2) pa_nil)))) pa_nil)))
      (pss_cons (ps_expr (pe_bm PySem.F.plainAttrs_list PySem.F.slot_list_append PySem.F.type_list_append mt_append (pv 6) (pa_cons (pe_tup (pa_cons (pv 9) (pa_cons (pv 8) pa_nil))) pa_nil)))
      (pss_cons (ps_set (i := 2) sc_guess.nd rfl (by first | exact Or.inl rfl | exact Or.inr rfl) (pv 8))
      (pss_one (ps_set (i := 3) sc_guess.nd rfl (by first | exact Or.inl rfl | exact Or.inr rfl) (pv 9)))))))))))))
      (pss_one (ps_ret (pe_tup (pa_cons pe_str (pa_cons (pv 4) (pa_cons (pv 5) (pa_cons (pv 6) pa_nil))))))))))))), ?_⟩
    walk_at "go"
    refine ⟨p, g, r, S, N, us, ss, rfl, hN, hS, hP, hn, kS, kG, kT, fun he hsr => ?_⟩
    obtain ⟨hst, qN, qW⟩ := kQ he hsr
    have sl0 : 0 < ss.length := List.length_pos_iff.mpr he
    obtain ⟨q0, hq0⟩ : ∃ q, ss[0]? = some q := ⟨_, List.getElem?_eq_getElem sl0⟩
    obtain ⟨_, hv0, t0, rfl, ht0⟩ := paired_get hP hq0
    walk_at "go"
    refine ⟨S, us, _, _, rfl, rfl, SqL.of hS, atI_nat (j := 0) hv0, ?_⟩
    walk_at "go"
    refine ⟨t0, _, rfl, SqT.of ht0, rfl, ?_⟩
    refine ⟨_, _, rfl, _, _, rfl, rfl, ?_⟩
    walk_at "go"
    refine ⟨Nat.zero_le _, fun R nR => ?_⟩
    have s1 := same_up (o := HO.lst []) nR
    have hR : (upd H R (.lst [])) R = some (.lst (([] : List Int).map V.int)) := upd_same
    generalize upd H R (.lst []) = H1 at s1 hR
    walk_at "go"
    refine ⟨(by show 2 ≤ sizeLine; decide), fun tp ntp => ?_⟩
    have s2 := s1.trans (same_up (o := HO.tup [V.str q0.2, V.int q0.1]) ntp)
    have hR2 := (same_up (o := HO.tup [V.str q0.2, V.int q0.1]) ntp) _ _ hR
    have htp : (upd H1 tp (.tup [V.str q0.2, V.int q0.1])) tp = some (.tup [V.str q0.2, V.int q0.1]) := upd_same
    generalize upd H1 tp (.tup [V.str q0.2, V.int q0.1]) = H2 at s2 hR2 htp
    walk_at "go"
    refine ⟨(by show 1 ≤ sizeLine; decide), fun L nL => ?_⟩
    have nL0 := s2.free nL
    have s3 := s2.trans (same_up (o := HO.lst [V.ref tp]) nL)
    have hR3 := (same_up (o := HO.lst [V.ref tp]) nL) _ _ hR2
    have htp3 := (same_up (o := HO.lst [V.ref tp]) nL) _ _ htp
    have hL : (upd H2 L (.lst [V.ref tp])) L = some (.lst [V.ref tp]) := upd_same
    have hRL : R ≠ L := ne_of_none hR2 nL
    generalize upd H2 L (.lst [V.ref tp]) = H3 at s3 hR3 htp3 hL
    walk_at "go"
    refine ⟨S, us, rfl, .inl (SqL.of (s3 _ _ hS)), ?_⟩
    walk_at "go"
    refine for_range (lo := 1) (n := _) (fun i σ' H' => Same H H' ∧ ∃ (legs : List LegD) (ws : List V) (qi : Int × Str) (v7 v8 v9 v10 v11 v12 v13 : Option V), σ' = [some (.ref p), some (.ref S), some (.int qi.1), some (.str qi.2), some (.int (tollsOf legs)), some (.ref R), some (.ref L), v7, v8, v9, v10, v11, v12, v13] ∧ legs.length = i ∧ ss[i]? = some qi ∧ LegsAt N ss legs ∧
        H' R = some (.lst ((roadsAll legs).map V.int)) ∧ (roadsAll legs).length ≤ 4000 * i ∧ H' L = some (.lst ws) ∧ Paired (PassV H') ws ((q0.2, q0.1) :: passU N ss legs legs.length))
      ⟨s3, [], [V.ref tp], q0, _, _, _, _, _, _, _, rfl, rfl, hq0, fun i a b l _ _ h => (by simp at h), hR3, Nat.le_refl _, hL, .cons ⟨tp, rfl, htp3⟩ .nil⟩ ?_ ?_
    · rintro i σ' H' hi ⟨s4, legs, ws, qi, v7, v8, v9, v10, v11, v12, v13, rfl, hll, hqi, hla, hR4, hrl, hL4, hW4⟩
      rw [show (1 : Int) + (i : Int) = ((i + 1 : Nat) : Int) by omega]
      obtain ⟨qj, hqj⟩ : ∃ q, ss[i + 1]? = some q := ⟨_, List.getElem?_eq_getElem (by omega)⟩
      obtain ⟨_, hvj, tj, rfl, htj⟩ := paired_get hP hqj
      obtain ⟨hs1, hs2, hle, u, hfew⟩ := hst i qi qj hqi hqj
      obtain ⟨n1, n2⟩ := hn qi (List.mem_of_getElem? hqi)
      obtain ⟨n3, n4⟩ := hn qj (List.mem_of_getElem? hqj)
      walk_at "go"
      refine ⟨S, us, _, _, rfl, rfl, SqL.of (s4 _ _ hS), atI_nat (j := i + 1) hvj, ?_⟩
      walk_at "go"
      refine ⟨tj, _, rfl, SqT.of (s4 _ _ htj), rfl, ?_⟩
      refine ⟨_, _, rfl, _, _, rfl, rfl, ?_⟩
      walk_at "go"
      refine ⟨p, g, r, N, qi.2, qj.2, qj.1 - qi.1, rfl, hN.same s4, hOk, n1, n2, n3, n4, fun z => absurd z hs1, fun _ z => absurd z hs2, fun _ _ z => by omega, fun _ _ _ => ⟨u, hfew, fun H5 s5 hno hlg => ?_, fun H5 T5 R5 t m rr s5 nT5 nR5 nTR hT5 hR5 hrl5 hbd hlg => ?_⟩⟩
      · walk_at "go"
        refine ⟨(by show 2 ≤ sizeLine; decide), fun T6 nT6 => ?_⟩
        have s6 := (s4.trans s5).trans (same_up (o := HO.tup [V.str "none", V.int (((i + 1 : Nat) : Int) - 1)]) nT6)
        refine qN _ T6 i s6 ((s4.trans s5).free nT6) ?_ ⟨legs, hll, hla, qi, qj, hqi, hqj, hno, hlg⟩
        rw [upd_same]
        show some (HO.tup [V.str (Str.ofString "none"), V.int (((i + 1 : Nat) : Int) - 1)]) = _
        rw [show (((i + 1 : Nat) : Int) - 1) = (i : Int) by omega]
      walk_at "go"
      refine ⟨T5, _, rfl, SqT.of hT5, rfl, ?_⟩
      refine ⟨_, _, rfl, _, _, rfl, _, _, rfl, rfl, ?_⟩
      have s45 := s4.trans s5
      have hR45 := s5 _ _ hR4
      have hL45 := s5 _ _ hL4
      have hW45 := pass_same s5 hW4
      have wl := paired_len hW45
      rw [List.length_cons] at wl
      have pl : (passU N ss legs legs.length).length ≤ 4000 * legs.length := passU_len hla legs.length
      have hRne : R ≠ R5 := ne_of_none hR4 nR5
      walk_at "go"
      refine ⟨.inl ⟨rfl, _, SqL.of hR45⟩, ?_⟩
      walk_at "go"
      refine ⟨R, R5, _, _, rfl, rfl, hR45, hR5, Evl.sz_of (by rw [List.length_map, List.length_map]; omega), ?_⟩
      rw [← List.map_append]
      have s6 := same_new (o := HO.lst ((roadsAll legs ++ rr).map V.int)) s45 nR
      have hR6 : (upd H5 R (.lst ((roadsAll legs ++ rr).map V.int))) R = some (.lst ((roadsAll legs ++ rr).map V.int)) := upd_same
      have hR56 := upd_at (o := HO.lst ((roadsAll legs ++ rr).map V.int)) hRne.symm hR5
      have hL6 := upd_at (o := HO.lst ((roadsAll legs ++ rr).map V.int)) hRL.symm hL45
      have hW6 := pass_tk (TK.up (o := HO.lst ((roadsAll legs ++ rr).map V.int)) hR45 (by intro xs z; cases z)) hW45
      generalize upd H5 R (.lst ((roadsAll legs ++ rr).map V.int)) = H6 at s6 hR6 hR56 hL6 hW6
      walk_at "go"
      refine ⟨.inl ⟨rfl, _, SqL.of hL6⟩, ?_⟩
      walk_at "go"
      refine ⟨p, g, r, R5, N, rr, qi.1, rfl, hN.same s6, hR56, by omega, hbd.1.roads, fun H7 Wp ws7 s7 nW hWp hW7 => ?_⟩
      have s67 := s6.trans s7
      have hR7 := s7 _ _ hR6
      have hL7 := s7 _ _ hL6
      have hW67 := pass_same s7 hW6
      have wl7 := paired_len hW7
      rw [walkT_len, List.length_dropLast] at wl7
      walk_at "go"
      refine ⟨L, Wp, _, _, rfl, rfl, hL7, hWp, Evl.sz_of (by omega), ?_⟩
      have s8 := same_new (o := HO.lst (ws ++ ws7)) s67 nL0
      have tk8 := TK.up (o := HO.lst (ws ++ ws7)) hL7 (by intro xs z; cases z)
      have hL8 : (upd H7 L (.lst (ws ++ ws7))) L = some (.lst (ws ++ ws7)) := upd_same
      have hR8 := upd_at (o := HO.lst (ws ++ ws7)) hRL hR7
      have hW8 := pass_tk tk8 hW67
      have hW78 := pass_tk tk8 hW7
      generalize upd H7 L (.lst (ws ++ ws7)) = H8 at s8 tk8 hL8 hR8 hW8 hW78
      walk_at "go"
      refine ⟨.inl ⟨rfl, _, SqL.of hL8⟩, ?_⟩
      walk_at "go"
      refine ⟨(by show 2 ≤ sizeLine; decide), fun t8 nt8 => ?_⟩
      have s9 := same_up (o := HO.tup [V.str qj.2, V.int qj.1]) nt8
      have ht8 : (upd H8 t8 (.tup [V.str qj.2, V.int qj.1])) t8 = some (.tup [V.str qj.2, V.int qj.1]) := upd_same
      have hL9 := s9 _ _ hL8
      have hR9 := s9 _ _ hR8
      have hW9 := pass_same s9 hW8
      have hW79 := pass_same s9 hW78
      refine ⟨L, _, _, rfl, rfl, hL9, Evl.sz_lt (by rw [List.length_append]; omega), ?_⟩
      have s10 := same_new (o := HO.lst (ws ++ ws7 ++ [V.ref t8])) (s8.trans s9) nL0
      have tk10 := TK.up (o := HO.lst (ws ++ ws7 ++ [V.ref t8])) hL9 (by intro xs z; cases z)
      have hL10 : (upd (upd H8 t8 (.tup [V.str qj.2, V.int qj.1])) L (.lst (ws ++ ws7 ++ [V.ref t8]))) L = some (.lst (ws ++ ws7 ++ [V.ref t8])) := upd_same
      have hR10 := upd_at (o := HO.lst (ws ++ ws7 ++ [V.ref t8])) hRL hR9
      have hW10 := pass_tk tk10 hW9
      have hW710 := pass_tk tk10 hW79
      have ht10 := tk10 _ _ ht8
      generalize upd (upd H8 t8 (.tup [V.str qj.2, V.int qj.1])) L (.lst (ws ++ ws7 ++ [V.ref t8])) = H10 at s10 tk10 hL10 hR10 hW10 hW710 ht10
      have hla2 := hla.snoc (l := (t, m, rr)) (by rw [hll]; exact hqi) (by rw [hll]; exact hqj) hbd hlg hrl5
      walk_at "go"
      dsimp only [List.set]
      rw [show tollsOf legs + t = tollsOf (legs ++ [(t, m, rr)]) from (tollsOf_snoc legs (t, m, rr)).symm]
      refine ⟨s10, legs ++ [(t, m, rr)], ws ++ ws7 ++ [V.ref t8], qj, _, _, _, _, _, _, _, rfl, by rw [List.length_append, hll]; rfl, hqj, hla2, by rw [roadsAll_snoc]; exact hR10, by rw [roadsAll_snoc, List.length_append]; show _ + rr.length ≤ _; omega, hL10, ?_⟩
      rw [List.length_append, List.length_singleton, passU_step (by rw [hll]; exact hqi) (by rw [hll]; exact hqj) (by simp; rfl), passU_grow _ _ (Nat.le_refl _), ← List.cons_append, ← List.append_assoc]
      exact Paired.snoc (paired_app hW10 hW710) ⟨t8, rfl, ht10⟩
    · rintro σ' H' ⟨s4, legs, ws, qi, v7, v8, v9, v10, v11, v12, v13, rfl, hll, hqi, hla, hR4, hrl, hL4, hW4⟩
      walk_at "go"
      refine ⟨(by show 4 ≤ sizeLine; decide), fun T6 nT6 => ?_⟩
      have s6 := same_up (o := HO.tup [V.str "way", V.int (tollsOf legs), V.ref R, V.ref L]) nT6
      exact qW _ T6 R L ws legs q0 (s4.trans s6) (s4.free nT6) nR nL0 hRL upd_same (s6 _ _ hR4) (s6 _ _ hL4) hq0 (pass_same s6 hW4) ⟨by omega, hla⟩
end
end Toll

set_option Elab.async false
set_option linter.all false
set_option maxRecDepth 100000
set_option maxHeartbeats 4000000
namespace Toll
open PySem L2
local macro_rules | `(tactic| walk_at "go1") => `(tactic| first
  | refine ⟨_, rfl, ?_⟩
  | refine ⟨rfl, ?_⟩
  | refine ⟨_, _, rfl, rfl, ?_⟩
  | refine ⟨_, _, rfl, ?_⟩
  | (with_reducible refine' ⟨log_small ?k1 ?k2, ?_⟩; (case k1 => omega); (case k2 => omega))
  | (refine' ⟨?k1, ?_⟩; (case k1 => ((with_reducible show (_ : Int) < _); omega)))
  | (refine' ⟨⟨?k1, ?k2⟩, ?_⟩; (case k1 => omega); (case k2 => omega))
  | (refine' ⟨⟨?k1, ?k2, ?k3, ?k4⟩, ?_⟩; (case k1 => omega); (case k2 => omega); (case k3 => omega); (case k4 => omega))
  | (refine' ⟨.inl ⟨?k1, ?k2⟩, ?_⟩; (case k1 => omega); (case k2 => omega))
  | (refine' ⟨.inr ⟨?k1, ?k2⟩, ?_⟩; (case k1 => omega); (case k2 => omega))
  | (refine' ⟨Evl.sz_of ?k1, ?_⟩; (case k1 => omega))
  | (refine' ⟨?k1, ?_⟩; (case k1 => ((with_reducible show (_ : Int) ≤ _); omega)))
  | refine ⟨⟨_, rfl⟩, ?_⟩
  | refine .inl ⟨_, rfl, ?_⟩ | refine .inr ⟨_, rfl, ?_⟩
  | refine iteT ?_ | refine iteF ?_)
local macro_rules | `(tactic| walk_at "go") => `(tactic| repeat (walk_at "go1"))
local macro_rules | `(tactic| walk_at "ans") => `(tactic| (intro Q' q'; walk_at "go"; (try rw [dec_int]); (try rw [dec_str]); exact q'))
local macro_rules | `(tactic| walk_at "hp") => `(tactic| first | assumption | exact upd_same | (refine' up_same ?e ?h; (case e => assumption); (case h => walk_at "hp")) | (refine' upd_at ?n ?h; (case n => walk_at "ne"); (case h => walk_at "hp")))
local macro_rules | `(tactic| walk_at "ne") => `(tactic| first | assumption | (apply Ne.symm; assumption))
local macro_rules | `(tactic| walk_at "at") => `(tactic| first | exact atI_nat (j := 0) rfl | exact atI_nat (j := 1) rfl | exact atI_nat (j := 2) rfl | exact atI_nat (j := 3) rfl | exact atI_nat (j := 4) rfl)
local macro_rules | `(tactic| walk_at "step1") => `(tactic| first
  | walk_at "go1"
  | (apply ixL_step; (case h => walk_at "hp"); (case a => walk_at "at"))
  | (apply ixT_step; (case h => walk_at "hp"); (case a => walk_at "at"))
  | (apply lenL_step; (case h => walk_at "hp")))
local macro_rules | `(tactic| walk_at "step") => `(tactic| repeat (walk_at "step1"))
section
variable {P : Program} {w : World} {K : PySem.W.Frag} {mg : Str → Option Value} {base : Heap} {A : Ads}
def spReached (A : Ads) : Sp := fun vs H Q E => ∃ (p g r : Addr) (N : NetD) (nm : Str) (limit : Int), vs = [.ref p, .str nm, .int limit] ∧ NetAt A.C_Net H p g r N ∧ NetOk N ∧ nm.length ≤ 1000 ∧ PyData.strOk nm = true ∧
  (seesOf N.gates nm = none → E (.ref A.C_NoGate) none H) ∧ (seesOf N.gates nm ≠ none → limit < 0 → E (.ref A.C_NoNumber) none H) ∧
  (seesOf N.gates nm ≠ none → 0 ≤ limit → ∃ u, Few N nm limit u ∧ ∀ (H' : Hp) (L : Addr) (us : List V) (rows : List Row), Same H H' → H L = none → H' L = some (.lst us) → Paired (RowV H') us rows → RowsPost N nm limit none rows → RunOf N nm limit none rows → Q (.ref L) H')
theorem ok_reached (T : Txt K mg A) : DefOk P w K mg base (L2.CX P w) 4 A.reached ["net", "gate", "limit"] (spReached A) := by
  obtain ⟨_, G_rows_until, B_rows_until, K_rows_until⟩ := ok_rows_until (P := P) (w := w) (base := base) T
  obtain ⟨fd, F⟩ := T.F_reached
  refine ⟨fd, ?_, F.binds (ps := ["net", "gate", "limit"]) fun _ _ _ _ _ _ us hl => match us, hl with | [_, _, _], _ => rfl, F.kp⟩
  refine F.okX sc_reached (fun vs H Q E h => ?_) (fun cdv A' outer s H vs Q E hr h => ?_)
  · obtain ⟨p, g, r, N, nm, limit, rfl, _⟩ := h
    rfl
  · obtain ⟨p, g, r, N, nm, limit, rfl, hN, hOk, l1, o1, k1, k2, kQ⟩ := h
    refine ⟨_, (pss_one (ps_ret (pe_call G_rows_until (hr.mono (by decide)) rfl T.m_rows_until K_rows_until B_rows_until .nil (passes_call (takes_of rfl rfl rfl rfl) fun _ _ _ _ h => h) (pa_cons (pv 0) (pa_cons (pv 1) (pa_cons (pv 2) (pa_cons pe_non pa_nil))))))), ?_⟩
    walk_at "go"
    exact ⟨p, g, r, N, nm, limit, none, rfl, hN, hOk, l1, o1, k1, k2, kQ⟩
end
end Toll

set_option Elab.async false
set_option linter.all false
set_option maxRecDepth 100000
set_option maxHeartbeats 4000000
namespace Toll
open PySem L2
local macro_rules | `(tactic| walk_at "go1") => `(tactic| first
  | refine ⟨_, rfl, ?_⟩
  | refine ⟨rfl, ?_⟩
  | refine ⟨_, _, rfl, rfl, ?_⟩
  | refine ⟨_, _, rfl, ?_⟩
  | (with_reducible refine' ⟨log_small ?k1 ?k2, ?_⟩; (case k1 => omega); (case k2 => omega))
  | (refine' ⟨?k1, ?_⟩; (case k1 => ((with_reducible show (_ : Int) < _); omega)))
  | (refine' ⟨⟨?k1, ?k2⟩, ?_⟩; (case k1 => omega); (case k2 => omega))
  | (refine' ⟨⟨?k1, ?k2, ?k3, ?k4⟩, ?_⟩; (case k1 => omega); (case k2 => omega); (case k3 => omega); (case k4 => omega))
  | (refine' ⟨.inl ⟨?k1, ?k2⟩, ?_⟩; (case k1 => omega); (case k2 => omega))
  | (refine' ⟨.inr ⟨?k1, ?k2⟩, ?_⟩; (case k1 => omega); (case k2 => omega))
  | (refine' ⟨Evl.sz_of ?k1, ?_⟩; (case k1 => omega))
  | (refine' ⟨?k1, ?_⟩; (case k1 => ((with_reducible show (_ : Int) ≤ _); omega)))
  | refine ⟨⟨_, rfl⟩, ?_⟩
  | refine .inl ⟨_, rfl, ?_⟩ | refine .inr ⟨_, rfl, ?_⟩
  | refine iteT ?_ | refine iteF ?_)
local macro_rules | `(tactic| walk_at "go") => `(tactic| repeat (walk_at "go1"))
local macro_rules | `(tactic| walk_at "ans") => `(tactic| (intro Q' q'; walk_at "go"; (try rw [dec_int]); (try rw [dec_str]); exact q'))
local macro_rules | `(tactic| walk_at "hp") => `(tactic| first | assumption | exact upd_same | (refine' up_same ?e ?h; (case e => assumption); (case h => walk_at "hp")) | (refine' upd_at ?n ?h; (case n => walk_at "ne"); (case h => walk_at "hp")))
local macro_rules | `(tactic| walk_at "ne") => `(tactic| first | assumption | (apply Ne.symm; assumption))
local macro_rules | `(tactic| walk_at "at") => `(tactic| first | exact atI_nat (j := 0) rfl | exact atI_nat (j := 1) rfl | exact atI_nat (j := 2) rfl | exact atI_nat (j := 3) rfl | exact atI_nat (j := 4) rfl)
local macro_rules | `(tactic| walk_at "step1") => `(tactic| first
  | walk_at "go1"
  | (apply ixL_step; (case h => walk_at "hp"); (case a => walk_at "at"))
  | (apply ixT_step; (case h => walk_at "hp"); (case a => walk_at "at"))
  | (apply lenL_step; (case h => walk_at "hp")))
local macro_rules | `(tactic| walk_at "step") => `(tactic| repeat (walk_at "step1"))
section
variable {P : Program} {w : World} {K : PySem.W.Frag} {mg : Str → Option Value} {base : Heap} {A : Ads}
def spWInit (A : Ads) : Sp := fun vs H Q _ => ∃ (p dx n : Addr), vs = [.ref p, .ref n] ∧ H p = some (.ins A.C_Watch dx []) ∧ ∀ (sd : Addr) (H' : Hp), H sd = none → WatchAt A.C_Watch H' p n sd [] → Keep [p] H H' → Q .non H'
theorem ok_W_init (T : Txt K mg A) : DefOk P w K mg base CX0 1 A.W_init ["self", "net"] (spWInit A) := by
  obtain ⟨fd, F⟩ := T.F_W_init
  refine ⟨fd, ?_, F.binds (ps := ["self", "net"]) fun _ _ _ _ _ _ us hl => match us, hl with | [_, _], _ => rfl, F.kp⟩
  refine F.ok sc_W_init (fun vs H Q E h => ?_) (fun cdv A' outer s H vs Q E hr h => ?_)
  · obtain ⟨p, dx, n, rfl, _⟩ := h
    rfl
  · obtain ⟨p, dx, n, rfl, hp, q⟩ := h
    refine ⟨_, (pss_cons (ps_fld (pv 0) (pv 1) rfl)
      (pss_one (ps_fld (pv 0) pe_dnewK rfl))), ?_⟩
    walk_at "go"
    refine ⟨p, _, dx, [], rfl, hp, T.c_Watch, T.na_Watch_net, (by show 0 < 1000; decide), ?_⟩
    have hp1 : (upd H p (.ins A.C_Watch dx (putF "net" (.ref n) []))) p = some (.ins A.C_Watch dx (putF "net" (.ref n) [])) := upd_same
    have k1 := (Keep.of_same (S := [p]) (Same.refl H)).upd (p := p) (o := HO.ins A.C_Watch dx (putF "net" (.ref n) [])) (.inl (by simp))
    walk_at "go"
    intro sd nsd
    have nsd0 : H sd = none := by
      cases e : H sd with
      | none => rfl
      | some o =>
        have hne : sd ≠ p := fun z => by
          rw [z, upd_same] at nsd
          cases nsd
        rw [upd_ne hne, e] at nsd
        cases nsd
    have hps : p ≠ sd := fun z => by
      rw [← z, upd_same] at nsd
      cases nsd
    walk_at "go"
    refine ⟨p, _, dx, _, rfl, (by rw [upd_ne hps]; exact upd_same), T.c_Watch, T.na_Watch__sightings, (by show 1 < 1000; decide), ?_⟩
    refine q sd _ nsd0 ⟨⟨dx, upd_same⟩, ?_, fun e he => (by cases he), List.nodup_nil, List.nodup_nil, fun e he => (by cases he), fun e he => (by cases he), by simp, fun e he => (by cases he)⟩ ?_
    · rw [upd_ne hps.symm, upd_same]
      rfl
    · exact (k1.upd (.inr nsd0)).upd (.inl (by simp))
def spNeedCar (A : Ads) : Sp := fun vs H Q E => ∃ (p n sd : Addr) (W : List CarE) (c : Str), vs = [.ref p, .str c] ∧ WatchAt A.C_Watch H p n sd W ∧ c.length ≤ 1000 ∧ PyData.strOk c = true ∧ (carOf W c = none → E (.ref A.C_NoCar) none H) ∧ (∀ e, carOf W c = some e → Q .non H)
theorem ok_W__need_car (T : Txt K mg A) : DefOk P w K mg base (L2.CX P w) 1 A.W__need_car ["self", "car"] (spNeedCar A) := by
  obtain ⟨fd, F⟩ := T.F_W__need_car
  refine ⟨fd, ?_, F.binds (ps := ["self", "car"]) fun _ _ _ _ _ _ us hl => match us, hl with | [_, _], _ => rfl, F.kp⟩
  refine F.okX sc_W__need_car (fun vs H Q E h => ?_) (fun cdv A' outer s H vs Q E hr h => ?_)
  · obtain ⟨p, n, sd, W, c, rfl, _⟩ := h
    rfl
  · obtain ⟨p, n, sd, W, c, rfl, hW, hl, ho, kE, kQ⟩ := h
    have hu := hu_of hr
    obtain ⟨dx, hob⟩ := hW.ob
    refine ⟨_, (pss_one (ps_if (pt_cmp (pc_dnotin hu (pv 1) (pe_fld (pv 0) rfl))) (pss_one (ps_raise rfl (takes_of rfl rfl rfl rfl) (SkE.pmk_own1 PySem.F.excBase_ValueError T.e_NoCar.x T.e_NoCar.g T.e_NoCar.k (raises_own T.e_NoCar.b T.e_NoCar.t) rfl (pe_joined (.cons pe_str (.cons (pe_fmtR (pv 1)) (.cons pe_str .nil))))))) pss_nil)), ?_⟩
    walk_at "go"
    refine ⟨p, _, dx, _, _, rfl, hob, T.c_Watch, T.na_Watch__sightings, watchF_sd _ _, sd, _, rfl, DGet.k (k := Sum.inr c) hW.sd, _, rfl, ?_⟩
    rw [valV_cars]
    cases e : carOf W c with
    | some x =>
      refine iteF ?_
      exact kQ x e
    | none =>
      refine iteT ?_
      walk_at "go"
      refine ⟨by decide +kernel, ?_⟩
      walk_at "go"
      refine ⟨repr_ok hl ho, ?_⟩
      walk_at "go"
      refine ⟨cat_sz2 (n := 1000) (m := 20000) (by decide +kernel) (repr_sz hl ho) (by decide), ?_⟩
      walk_at "go"
      refine ⟨sz3 (by decide +kernel) (by have := repr_sz hl ho; omega) (by decide +kernel), ?_⟩
      exact kE e
def spSeen (A : Ads) : Sp := fun vs H Q E => ∃ (p n sd : Addr) (W : List CarE) (c : Str), vs = [.ref p, .str c] ∧ WatchAt A.C_Watch H p n sd W ∧ c.length ≤ 1000 ∧ PyData.strOk c = true ∧ (carOf W c = none → E (.ref A.C_NoCar) none H) ∧ (∀ e, carOf W c = some e → ∀ (H' : Hp) (L : Addr) (us : List V), Same H H' → H L = none → H' L = some (.lst us) → Paired (SeenV H') us (e.ss.mergeSort seenLe) → Q (.ref L) H')
theorem ok_W_seen (T : Txt K mg A) : DefOk P w K mg base (L2.CX P w) 2 A.W_seen ["self", "car"] (spSeen A) := by
  obtain ⟨_, G_W__need_car, B_W__need_car, K_W__need_car⟩ := ok_W__need_car (P := P) (w := w) (base := base) T
  obtain ⟨fd, F⟩ := T.F_W_seen
  refine ⟨fd, ?_, F.binds (ps := ["self", "car"]) fun _ _ _ _ _ _ us hl => match us, hl with | [_, _], _ => rfl, F.kp⟩
  refine F.okX sc_W_seen (fun vs H Q E h => ?_) (fun cdv A' outer s H vs Q E hr h => ?_)
  · obtain ⟨p, n, sd, W, c, rfl, _⟩ := h
    rfl
  · obtain ⟨p, n, sd, W, c, rfl, hW, hl, ho, kE, kQ⟩ := h
    have hu := hu_of hr
    obtain ⟨dx, hob⟩ := hW.ob
    refine ⟨_, (pss_cons (ps_expr (pe_meth (pv 0) T.c_Watch T.M_W__need_car G_W__need_car (hr.mono (by decide)) B_W__need_car .nil (passes_call (takes_of rfl rfl rfl rfl) fun _ _ _ _ h => h) (pa_cons (pv 1) pa_nil)))
      (pss_one (ps_ret (pe_callB (call_sortSeenT rfl hr.units) (by rfl) T.b_sorted (by decide +kernel) (pa_cons (pe_dget hu (pe_fld (pv 0) rfl) (pv 1) (fun _ _ => rfl)) pa_nil))))), ?_⟩
    walk_at "go"
    refine ⟨p, dx, _, rfl, hob, watchF_no _ _ (by decide +kernel) (by decide +kernel), ?_⟩
    walk_at "go"
    refine ⟨p, n, sd, W, c, rfl, hW, hl, ho, kE, fun e he => ?_⟩
    obtain ⟨hm, hc⟩ := carOf_some he
    obtain ⟨kvs, hd, hk⟩ := hW.ds e hm
    walk_at "go"
    refine ⟨p, _, dx, _, _, rfl, hob, T.c_Watch, T.na_Watch__sightings, watchF_sd _ _, ?_⟩
    walk_at "go"
    refine ⟨sd, _, rfl, (by have := DGet.k (k := Sum.inr c) hW.sd; rw [valV_cars, he] at this; exact this), ?_⟩
    walk_at "go"
    refine ⟨e.d, kvs, e.ss, rfl, hd, hk, (by have := hW.l2 e hm; omega), fun L us nL hP => ?_⟩
    exact kQ e he _ L us (same_up nL) nL upd_same (seen_same (same_up nL) hP)
def spCars (A : Ads) : Sp := fun vs H Q _ => ∃ (p n sd : Addr) (W : List CarE), vs = [.ref p] ∧ WatchAt A.C_Watch H p n sd W ∧ ∀ (H' : Hp) (L : Addr) (ys : List Str), Same H H' → H L = none → ys.Perm (W.map (·.car)) → PyProof.Rows.sortedS ys = true → H' L = some (.lst (ys.map V.str)) → Q (.ref L) H'
theorem ok_W_cars (T : Txt K mg A) : DefOk P w K mg base CX0 1 A.W_cars ["self"] (spCars A) := by
  obtain ⟨fd, F⟩ := T.F_W_cars
  refine ⟨fd, ?_, F.binds (ps := ["self"]) fun _ _ _ _ _ _ us hl => match us, hl with | [_], _ => rfl, F.kp⟩
  refine F.ok sc_W_cars (fun vs H Q E h => ?_) (fun cdv A' outer s H vs Q E hr h => ?_)
  · obtain ⟨p, n, sd, W, rfl, _⟩ := h
    rfl
  · obtain ⟨p, n, sd, W, rfl, hW, q⟩ := h
    obtain ⟨dx, hob⟩ := hW.ob
    refine ⟨_, (pss_one (ps_ret (pe_callB (call_sortedD rfl) (by rfl) T.b_sorted (by decide +kernel) (pa_cons (pe_fld (pv 0) rfl) pa_nil)))), ?_⟩
    walk_at "go"
    refine ⟨p, _, dx, _, _, rfl, hob, T.c_Watch, T.na_Watch__sightings, watchF_sd _ _, ?_⟩
    walk_at "go"
    refine ⟨sd, carsK W, W.map (·.car), rfl, .inl hW.sd, (by unfold carsK; rw [List.map_map, List.map_map]; rfl), (by have := hW.l1; rw [List.length_map]; omega), fun ys L hp hs nL => ?_⟩
    exact q _ L ys (same_up nL) nL hp hs upd_same
theorem mergeK_gates : ∀ {more gs : List (Str × Bool)}, ((gs ++ more).map (·.1)).Nodup → mergeK (gatesK gs) (gatesK more) = gatesK (gs ++ more)
  | [], gs, _ => by
    rw [List.append_nil]
    rfl
  | (nm, b) :: r, gs, nd => by
    have e : seesOf gs nm = none := by
      rw [seesOf_none]
      intro m
      rw [List.map_append, List.nodup_append] at nd
      exact nd.2.2 nm m nm (by simp) rfl
    show mergeK (putK (gatesK gs) (Sum.inr nm : Key) (V.bl b)) (gatesK r) = _
    rw [putK_new_gates e, mergeK_gates (gs := gs ++ [(nm, b)]) (by rw [List.append_assoc]; exact nd), List.append_assoc]
    rfl
theorem gates_refs {H : Hp} {us : List V} {gs : List (Str × Bool)} (h : Paired (GateV H) us gs) : ∃ ps : List Addr, us = ps.map V.ref ∧ Paired (fun p (kv : Key × V) => H p = some (.tup [kV kv.1, kv.2])) ps (gatesK gs) := by
  induction h with
  | nil => exact ⟨[], rfl, .nil⟩
  | cons a _ ih =>
    obtain ⟨t, rfl, ht⟩ := a
    obtain ⟨ps, rfl, r⟩ := ih
    exact ⟨t :: ps, rfl, .cons ht r⟩
theorem isName_le {c : Str} (h : isName c.cps.toList = true) : c.length ≤ 8 := by
  unfold isName at h
  simp only [Bool.and_eq_true, decide_eq_true_eq] at h
  have := h.1.1.2
  rw [Array.length_toList] at this
  exact this
def spSaw (A : Ads) : Sp := fun vs H Q E => ∃ (p n sd g r : Addr) (N : NetD) (W : List CarE) (c gt : Str) (t : Int), vs = [.ref p, .str c, .str gt, .int t] ∧ WatchAt A.C_Watch H p n sd W ∧ NetAt A.C_Net H n g r N ∧
  c.length ≤ 1000 ∧ PyData.strOk c = true ∧ gt.length ≤ 1000 ∧ PyData.strOk gt = true ∧ (t.natAbs < 2 ^ 1900) ∧
  (isName c.cps.toList = false → ∀ H', Same H H' → E (.ref A.C_NoName) none H') ∧
  (isName c.cps.toList = true → seesOf N.gates gt = none → ∀ H', Same H H' → E (.ref A.C_NoGate) none H') ∧
  (isName c.cps.toList = true → seesOf N.gates gt = some false → ∀ H', Same H H' → E (.ref A.C_Blind) none H') ∧
  (isName c.cps.toList = true → seesOf N.gates gt = some true → ¬ (0 ≤ t ∧ t ≤ 1000000000) → ∀ H', Same H H' → E (.ref A.C_NoTime) none H') ∧
  (isName c.cps.toList = true → seesOf N.gates gt = some true → 0 ≤ t → t ≤ 1000000000 → (∀ e, carOf W c = some e → (t, gt) ∉ e.ss → e.ss.length < 900) ∧ (carOf W c = none → W.length < 60) ∧
    (carOf W c = none → ∀ (H' : Hp) (d : Addr), H d = none → WatchAt A.C_Watch H' p n sd (W ++ [⟨c, d, [(t, gt)]⟩]) → Keep [sd] H H' → Q (.bl true) H') ∧
    (∀ e, carOf W c = some e → (t, gt) ∈ e.ss → ∀ H', Same H H' → Q (.bl false) H') ∧
    (∀ e, carOf W c = some e → (t, gt) ∉ e.ss → ∀ H', WatchAt A.C_Watch H' p n sd (setSs W c (e.ss ++ [(t, gt)])) → Keep [e.d] H H' → Q (.bl true) H'))
theorem ok_W_saw (T : Txt K mg A) : DefOk P w K mg base (L2.CX P w) 2 A.W_saw ["self", "car", "gate", "time"] (spSaw A) := by
  obtain ⟨_, G_is_name, B_is_name, K_is_name⟩ := ok_is_name (P := P) (w := w) (base := base) T
  obtain ⟨_, G_N_need_gate, B_N_need_gate, K_N_need_gate⟩ := ok_N_need_gate (P := P) (w := w) (base := base) T
  obtain ⟨_, G_N_gates, B_N_gates, K_N_gates⟩ := ok_N_gates (P := P) (w := w) (base := base) T
  obtain ⟨fd, F⟩ := T.F_W_saw
  refine ⟨fd, ?_, F.binds (ps := ["self", "car", "gate", "time"]) fun _ _ _ _ _ _ us hl => match us, hl with | [_, _, _, _], _ => rfl, F.kp⟩
  refine F.okX sc_W_saw (fun vs H Q E h => ?_) (fun cdv A' outer s H vs Q E hr h => ?_)
  · obtain ⟨p, n, sd, g, r, N, W, c, gt, t, rfl, _⟩ := h
    rfl
  · obtain ⟨p, n, sd, g, r, N, W, c, gt, t, rfl, hW, hN, hl, ho, gl, go, ht, eN, eG, eB, eT, kQ⟩ := h
    have hu := hu_of hr
    refine ⟨_, (pss_cons (ps_if (pt_not (pt_val (pe_call G_is_name (hr.mono (by decide)) rfl T.m_is_name K_is_name B_is_name .nil pass0 (pa_cons (pv 1) pa_nil)))) (pss_one (ps_raise rfl (takes_of rfl rfl rfl rfl) (SkE.pmk_own1 PySem.F.excBase_ValueError T.e_NoName.x T.e_NoName.g T.e_NoName.k (raises_own T.e_NoName.b T.e_NoName.t) rfl (pe_joined (.cons (pe_fmtR (pv 1)) (.cons pe_str .nil)))))) pss_nil)
      (pss_cons (ps_expr (pe_meth (pe_fld (pv 0) rfl) T.c_Net T.M_N_need_gate G_N_need_gate (hr.mono (by decide)) B_N_need_gate .nil (passes_call (takes_of rfl rfl rfl rfl) fun _ _ _ _ h => h) (pa_cons (pv 2) pa_nil)))
      (pss_cons (ps_set (i := 4) sc_W_saw.nd rfl (by first | exact Or.inl rfl | exact Or.inr rfl) (pe_callTy (call_dictP rfl) (by rfl) T.b_dict (by decide +kernel) (pa_cons (pe_meth0 (pe_fld (pv 0) rfl) T.c_Net T.M_N_gates G_N_gates (hr.mono (by decide)) B_N_gates .nil pass0) pa_nil)))
      (pss_cons (ps_if (pt_not (pt_val (pe_dget hu (pv 4) (pv 2) (fun _ _ => rfl)))) (pss_one (ps_raise rfl (takes_of rfl rfl rfl rfl) (SkE.pmk_own1 PySem.F.excBase_ValueError T.e_Blind.x T.e_Blind.g T.e_Blind.k (raises_own T.e_Blind.b T.e_Blind.t) rfl (pe_joined (.cons pe_str (.cons (pe_fmt (pv 2)) (.cons pe_str .nil))))))) pss_nil)
      (pss_cons (ps_if (pt_not (pt_chain op_le op_le pe_int (pv 3) (pe_glob (v := .int 1000000000) rfl T.m_LAST_TIME ⟨_, rfl⟩))) (pss_one (ps_raise rfl (takes_of rfl rfl rfl rfl) (SkE.pmk_own1 PySem.F.excBase_ValueError T.e_NoTime.x T.e_NoTime.g T.e_NoTime.k (raises_own T.e_NoTime.b T.e_NoTime.t) rfl (pe_joined (.cons pe_str (.cons (pe_fmt (pe_glob (v := .int 1000000000) rfl T.m_LAST_TIME ⟨_, rfl⟩)) .nil)))))) pss_nil)
      (pss_cons (ps_set (i := 5) sc_W_saw.nd rfl (by first | exact Or.inl rfl | exact Or.inr rfl) (pe_dsetd (pe_fld (pv 0) rfl) (pv 1) pe_dnewT ⟨rfl, by rfl, by rfl, rfl⟩))
      (pss_cons (ps_if (pt_cmp (pc_din hu (pe_tup (pa_cons (pv 3) (pa_cons (pv 2) pa_nil))) (pv 5))) (pss_one (ps_ret pe_bl)) pss_nil)
      (pss_cons (ps_dput hu (pv 5) (pe_tup (pa_cons (pv 3) (pa_cons (pv 2) pa_nil))) pe_bl rfl)
      (pss_one (ps_ret pe_bl)))))))))), ?_⟩
    walk_at "go"
    refine ⟨hl, fun H1 s1 => ?_⟩
    have hW1 := hW.same s1
    have hN1 := hN.same s1
    obtain ⟨dx, hob⟩ := hW1.ob
    obtain ⟨dn, hnb⟩ := hN1.ob
    cases e : isName c.cps.toList with
    | false =>
      walk_at "go"
      refine ⟨repr_ok hl ho, ?_⟩
      walk_at "go"
      refine ⟨cat_sz2 (n := 0) (m := 20000) (by decide +kernel) (repr_sz hl ho) (by decide), ?_⟩
      walk_at "go"
      refine ⟨sz3 (by decide +kernel) (by have := repr_sz hl ho; omega) (by decide +kernel), ?_⟩
      exact eN e H1 s1
    | true =>
      walk_at "go"
      refine ⟨p, _, dx, _, _, rfl, hob, T.c_Watch, T.na_Watch_net, watchF_net _ _, n, dn, _, rfl, hnb, netF_no _ _ (by decide +kernel) (by decide +kernel), ?_⟩
      walk_at "go"
      refine ⟨n, g, r, N, gt, rfl, hN1, gl, go, fun z => eG e z H1 s1, fun b hb => ?_⟩
      walk_at "go"
      refine ⟨p, _, dx, _, _, rfl, hob, T.c_Watch, T.na_Watch_net, watchF_net _ _, n, dn, _, rfl, hnb, netF_no _ _ (by decide +kernel) (by decide +kernel), n, g, r, N, rfl, hN1, fun H2 L us s2 nL hL hP => ?_⟩
      obtain ⟨ps, rfl, hps⟩ := gates_refs hP
      walk_at "go"
      refine ⟨L, ps, gatesK N.gates, rfl, SqL.of hL, L2.Paired.mapP hps fun _ _ z => SqT.of z, fun D nD => ?_⟩
      have em : mergeK [] (gatesK N.gates) = gatesK N.gates := mergeK_gates (gs := []) hN.nd
      rw [em]
      have s3 : Same H2 (upd H2 D (.dK (gatesK N.gates))) := same_up nD
      have hD3 : (upd H2 D (.dK (gatesK N.gates))) D = some (.dK (gatesK N.gates)) := upd_same
      have s13 := (s1.trans s2).trans s3
      generalize upd H2 D (.dK (gatesK N.gates)) = H3 at s3 hD3 s13
      have hW3 := hW.same s13
      obtain ⟨dy, hoc⟩ := hW3.ob
      walk_at "go"
      refine ⟨D, V.bl b, rfl, (by have := DGet.k (k := Sum.inr gt) hD3; rw [valV_gates, hb] at this; exact this), ?_⟩
      walk_at "go"
      cases b with
      | false =>
        walk_at "go"
        refine ⟨by decide +kernel, ?_⟩
        walk_at "go"
        refine ⟨cat_sz2 (n := 1000) (m := 1000) (by decide +kernel) gl (by decide), ?_⟩
        walk_at "go"
        refine ⟨sz3 (by decide +kernel) (by omega) (by decide +kernel), ?_⟩
        exact eB e hb H3 s13
      | true =>
        walk_at "go"
        refine ite2 (fun h0 => ?_) (fun h0 => ?_)
        rotate_left
        · have h0 : ¬ 0 ≤ t := fun z => h0 (decide_eq_true z)
          refine ⟨_, rfl, ?_⟩
          walk_at "go"
          refine ⟨by decide +kernel, ?_⟩
          walk_at "go"
          refine ⟨by decide +kernel, ?_⟩
          walk_at "go"
          exact eT e hb (fun z => h0 z.1) H3 s13
        have h0 : 0 ≤ t := of_decide_eq_true h0
        walk_at "go"
        refine ite2 (fun h1 => ?_) (fun h1 => ?_)
        · have h1 : ¬ t ≤ 1000000000 := by simpa using h1
          walk_at "go"
          refine ⟨by decide +kernel, ?_⟩
          walk_at "go"
          refine ⟨by decide +kernel, ?_⟩
          walk_at "go"
          exact eT e hb (fun z => h1 z.2) H3 s13
        have h1 : t ≤ 1000000000 := by simpa using h1
        obtain ⟨l9, l6, kA, kF, kM⟩ := kQ e hb h0 h1
        walk_at "go"
        refine ⟨p, _, dy, _, _, rfl, hoc, T.c_Watch, T.na_Watch__sightings, watchF_sd _ _, ?_⟩
        walk_at "go"
        refine ⟨.inl ⟨_, .inl hW3.sd⟩, ?_⟩
        walk_at "go"
        intro d0 nd0
        have hds : sd ≠ d0 := ne_of_none hW3.sd nd0
        have s4 : Same H3 (upd H3 d0 (.dT [])) := same_up nd0
        have hd4 : (upd H3 d0 (.dT [])) d0 = some (.dT []) := upd_same
        have s14 := s13.trans s4
        have nd : H d0 = none := by
          cases z : H d0 with
          | none => rfl
          | some o => rw [s13 _ _ z] at nd0; cases nd0
        generalize upd H3 d0 (.dT []) = H4 at s4 hd4 s14
        have hW4 := hW.same s14
        refine ⟨carsK W, Sum.inr c, hW4.sd, rfl, small1000 (by have := hW.l1; unfold carsK; rw [List.length_map]; omega), fun v hv => ?_, fun hn => ?_⟩
        · rw [valV_cars] at hv
          cases ec : carOf W c with
          | none => rw [ec] at hv; cases hv
          | some x =>
            rw [ec] at hv
            obtain rfl : V.ref x.d = v := Option.some.inj hv
            obtain ⟨hm, hc⟩ := carOf_some ec
            obtain ⟨kvs, hd, hk⟩ := hW4.ds x hm
            walk_at "go"
            refine ⟨(by show 2 ≤ sizeLine; decide), fun q nq => ?_⟩
            have s5 := s14.trans (same_up (o := .tup [.int t, .str gt]) nq)
            have hq5 : (upd H4 q (.tup [.int t, .str gt])) q = some (.tup ((keyT (t, gt)).map kV)) := upd_same
            have hd5 : (upd H4 q (.tup [.int t, .str gt])) x.d = some (.dT kvs) := upd_at (ne_of_none hd nq) hd
            have hW5 := hW.same s5
            walk_at "go"
            refine ⟨x.d, _, rfl, DGet.t hd5 hq5, ?_⟩
            rw [seenK_has hk]
            walk_at "go"
            by_cases hs : (t, gt) ∈ x.ss
            · rw [decide_eq_true hs]
              refine iteT ?_
              walk_at "go"
              exact kF x ec hs _ s5
            · rw [decide_eq_false hs]
              refine iteF ?_
              walk_at "go"
              refine ⟨(by show 2 ≤ sizeLine; decide), fun q2 nq2 => ?_⟩
              have s6 := s5.trans (same_up (o := .tup [.int t, .str gt]) nq2)
              have hq6 : (upd (upd H4 q (.tup [.int t, .str gt])) q2 (.tup [.int t, .str gt])) q2 = some (.tup ((keyT (t, gt)).map kV)) := upd_same
              have hd6 : (upd (upd H4 q (.tup [.int t, .str gt])) q2 (.tup [.int t, .str gt])) x.d = some (.dT kvs) := upd_at (ne_of_none hd5 nq2) hd5
              generalize upd (upd H4 q (.tup [.int t, .str gt])) q2 (.tup [.int t, .str gt]) = H6 at s6 hq6 hd6
              walk_at "go"
              have lx := l9 x ec hs
              refine ⟨x.d, _, rfl, DPut.t hd6 hq6 (small1000 (by rw [seenK_len hk]; omega)), ?_⟩
              walk_at "go"
              have k6 : Keep [x.d] H (upd H6 x.d (.dT (putK kvs (keyT (t, gt)) (.bl true)))) := (Keep.of_same s6).upd (.inl (by simp))
              exact kM x ec hs _ (hW.more ec hs lx k6 ⟨_, upd_same, seenK_put hk hs _⟩) k6
        · rw [valV_cars] at hn
          have ec : carOf W c = none := by
            cases z : carOf W c with
            | none => rfl
            | some x => rw [z] at hn; cases hn
          rw [carsK_snoc (d := d0) (ss := [(t, gt)]) ec]
          have k5 : Keep [sd] H (upd H4 sd (.dK (carsK (W ++ [⟨c, d0, [(t, gt)]⟩])))) := (Keep.of_same s14).upd (.inl (by simp))
          have hd5 : (upd H4 sd (.dK (carsK (W ++ [⟨c, d0, [(t, gt)]⟩])))) d0 = some (.dT []) := by rw [upd_ne hds.symm]; exact hd4
          have hs5 : (upd H4 sd (.dK (carsK (W ++ [⟨c, d0, [(t, gt)]⟩])))) sd = some (.dK (carsK (W ++ [⟨c, d0, [(t, gt)]⟩]))) := upd_same
          generalize upd H4 sd (.dK (carsK (W ++ [⟨c, d0, [(t, gt)]⟩]))) = H5 at k5 hd5 hs5
          walk_at "go"
          refine ⟨(by show 2 ≤ sizeLine; decide), fun q nq => ?_⟩
          have k6 : Keep [sd] H (upd H5 q (.tup [.int t, .str gt])) := k5.trans (Keep.of_same (same_up nq))
          have hq6 : (upd H5 q (.tup [.int t, .str gt])) q = some (.tup ((keyT (t, gt)).map kV)) := upd_same
          have hd6 : (upd H5 q (.tup [.int t, .str gt])) d0 = some (.dT []) := upd_at (ne_of_none hd5 nq) hd5
          have hs6 : (upd H5 q (.tup [.int t, .str gt])) sd = _ := upd_at (ne_of_none hs5 nq) hs5
          generalize upd H5 q (.tup [.int t, .str gt]) = H6 at k6 hq6 hd6 hs6
          walk_at "go"
          refine ⟨d0, _, rfl, DGet.t hd6 hq6, ?_⟩
          walk_at "go"
          refine ⟨(by show 2 ≤ sizeLine; decide), fun q2 nq2 => ?_⟩
          have k7 : Keep [sd] H (upd H6 q2 (.tup [.int t, .str gt])) := k6.trans (Keep.of_same (same_up nq2))
          have hq7 : (upd H6 q2 (.tup [.int t, .str gt])) q2 = some (.tup ((keyT (t, gt)).map kV)) := upd_same
          have hd7 : (upd H6 q2 (.tup [.int t, .str gt])) d0 = some (.dT []) := upd_at (ne_of_none hd6 nq2) hd6
          have hs7 : (upd H6 q2 (.tup [.int t, .str gt])) sd = _ := upd_at (ne_of_none hs6 nq2) hs6
          generalize upd H6 q2 (.tup [.int t, .str gt]) = H7 at k7 hq7 hd7 hs7
          walk_at "go"
          refine ⟨d0, _, rfl, DPut.t hd7 hq7 (by decide), ?_⟩
          walk_at "go"
          have k8 : Keep [sd] H (upd H7 d0 (.dT (putK [] (keyT (t, gt)) (.bl true)))) := k7.upd (.inr nd)
          exact kA ec _ d0 nd (hW.add ec ⟨isName_le e, ho⟩ (l6 ec) k8 (by rw [upd_ne hds]; exact hs7) ⟨_, upd_same, seenK_put (kvs := []) (ss := []) rfl (by simp) _⟩ nd) k8
def spForget (A : Ads) : Sp := fun vs H Q E => ∃ (p n sd : Addr) (W : List CarE) (c : Str), vs = [.ref p, .str c] ∧ WatchAt A.C_Watch H p n sd W ∧ c.length ≤ 1000 ∧ PyData.strOk c = true ∧ (carOf W c = none → E (.ref A.C_NoCar) none H) ∧ (∀ e, carOf W c = some e → ∀ H', WatchAt A.C_Watch H' p n sd (W.filter fun e => decide (e.car ≠ c)) → Keep [sd] H H' → Q .non H')
theorem ok_W_forget (T : Txt K mg A) : DefOk P w K mg base (L2.CX P w) 2 A.W_forget ["self", "car"] (spForget A) := by
  obtain ⟨_, G_W__need_car, B_W__need_car, K_W__need_car⟩ := ok_W__need_car (P := P) (w := w) (base := base) T
  obtain ⟨fd, F⟩ := T.F_W_forget
  refine ⟨fd, ?_, F.binds (ps := ["self", "car"]) fun _ _ _ _ _ _ us hl => match us, hl with | [_, _], _ => rfl, F.kp⟩
  refine F.okX sc_W_forget (fun vs H Q E h => ?_) (fun cdv A' outer s H vs Q E hr h => ?_)
  · obtain ⟨p, n, sd, W, c, rfl, _⟩ := h
    rfl
  · obtain ⟨p, n, sd, W, c, rfl, hW, hl, ho, kE, kQ⟩ := h
    obtain ⟨dx, hob⟩ := hW.ob
    refine ⟨_, (pss_cons (ps_expr (pe_meth (pv 0) T.c_Watch T.M_W__need_car G_W__need_car (hr.mono (by decide)) B_W__need_car .nil (passes_call (takes_of rfl rfl rfl rfl) fun _ _ _ _ h => h) (pa_cons (pv 1) pa_nil)))
      (pss_one (ps_ddel (pe_fld (pv 0) rfl) (pv 1)))), ?_⟩
    walk_at "go"
    refine ⟨p, dx, _, rfl, hob, watchF_no _ _ (by decide +kernel) (by decide +kernel), ?_⟩
    walk_at "go"
    refine ⟨p, n, sd, W, c, rfl, hW, hl, ho, kE, fun e he => ?_⟩
    walk_at "go"
    refine ⟨p, _, dx, _, _, rfl, hob, T.c_Watch, T.na_Watch__sightings, watchF_sd _ _, ?_⟩
    walk_at "go"
    refine ⟨sd, carsK W, Sum.inr c, rfl, hW.sd, rfl, (by rw [valV_cars, he]; rfl), ?_⟩
    exact kQ e he _ (hW.drop c) keep1
end
end Toll

set_option Elab.async false
set_option linter.all false
set_option maxRecDepth 100000
set_option maxHeartbeats 4000000
namespace Toll
open PySem L2
local macro_rules | `(tactic| walk_at "go1") => `(tactic| first
  | refine ⟨_, rfl, ?_⟩
  | refine ⟨rfl, ?_⟩
  | refine ⟨_, _, rfl, rfl, ?_⟩
  | refine ⟨_, _, rfl, ?_⟩
  | (with_reducible refine' ⟨log_small ?k1 ?k2, ?_⟩; (case k1 => omega); (case k2 => omega))
  | (refine' ⟨?k1, ?_⟩; (case k1 => ((with_reducible show (_ : Int) < _); omega)))
  | (refine' ⟨⟨?k1, ?k2⟩, ?_⟩; (case k1 => omega); (case k2 => omega))
  | (refine' ⟨⟨?k1, ?k2, ?k3, ?k4⟩, ?_⟩; (case k1 => omega); (case k2 => omega); (case k3 => omega); (case k4 => omega))
  | (refine' ⟨.inl ⟨?k1, ?k2⟩, ?_⟩; (case k1 => omega); (case k2 => omega))
  | (refine' ⟨.inr ⟨?k1, ?k2⟩, ?_⟩; (case k1 => omega); (case k2 => omega))
  | (refine' ⟨Evl.sz_of ?k1, ?_⟩; (case k1 => omega))
  | (refine' ⟨?k1, ?_⟩; (case k1 => ((with_reducible show (_ : Int) ≤ _); omega)))
  | refine ⟨⟨_, rfl⟩, ?_⟩
  | refine .inl ⟨_, rfl, ?_⟩ | refine .inr ⟨_, rfl, ?_⟩
  | refine iteT ?_ | refine iteF ?_)
local macro_rules | `(tactic| walk_at "go") => `(tactic| repeat (walk_at "go1"))
local macro_rules | `(tactic| walk_at "ans") => `(tactic| (intro Q' q'; walk_at "go"; (try rw [dec_int]); (try rw [dec_str]); exact q'))
local macro_rules | `(tactic| walk_at "hp") => `(tactic| first | assumption | exact upd_same | (refine' up_same ?e ?h; (case e => assumption); (case h => walk_at "hp")) | (refine' upd_at ?n ?h; (case n => walk_at "ne"); (case h => walk_at "hp")))
local macro_rules | `(tactic| walk_at "ne") => `(tactic| first | assumption | (apply Ne.symm; assumption))
local macro_rules | `(tactic| walk_at "at") => `(tactic| first | exact atI_nat (j := 0) rfl | exact atI_nat (j := 1) rfl | exact atI_nat (j := 2) rfl | exact atI_nat (j := 3) rfl | exact atI_nat (j := 4) rfl)
local macro_rules | `(tactic| walk_at "step1") => `(tactic| first
  | walk_at "go1"
  | (apply ixL_step; (case h => walk_at "hp"); (case a => walk_at "at"))
  | (apply ixT_step; (case h => walk_at "hp"); (case a => walk_at "at"))
  | (apply lenL_step; (case h => walk_at "hp")))
local macro_rules | `(tactic| walk_at "step") => `(tactic| repeat (walk_at "step1"))
section
variable {P : Program} {w : World} {K : PySem.W.Frag} {mg : Str → Option Value} {base : Heap} {A : Ads}
def Rf.ad (A : Ads) : Rf → Addr
  | .NoName => A.C_NoName
  | .SameGate => A.C_SameGate
  | .FullNet => A.C_FullNet
  | .NoGate => A.C_NoGate
  | .NoNumber => A.C_NoNumber
  | .NoRoad => A.C_NoRoad
  | .Already => A.C_Already
  | .NoTime => A.C_NoTime
  | .Blind => A.C_Blind
  | .NoCar => A.C_NoCar
  | .NoSight => A.C_NoSight
theorem isin (T : Txt K mg A) : ∀ c d : Rf, PySem.W.kitOne K (.ref (c.ad A)) (.ref (d.ad A)) = some (decide (c = d))
  | .NoName, .NoName => kit_err T.e_NoName T.v_NoName_NoName T.v_NoName_NoName
  | .NoName, .SameGate => kit_err T.e_SameGate T.v_NoName_SameGate T.v_SameGate_SameGate
  | .NoName, .FullNet => kit_err T.e_FullNet T.v_NoName_FullNet T.v_FullNet_FullNet
  | .NoName, .NoGate => kit_err T.e_NoGate T.v_NoName_NoGate T.v_NoGate_NoGate
  | .NoName, .NoNumber => kit_err T.e_NoNumber T.v_NoName_NoNumber T.v_NoNumber_NoNumber
  | .NoName, .NoRoad => kit_err T.e_NoRoad T.v_NoName_NoRoad T.v_NoRoad_NoRoad
  | .NoName, .Already => kit_err T.e_Already T.v_NoName_Already T.v_Already_Already
  | .NoName, .NoTime => kit_err T.e_NoTime T.v_NoName_NoTime T.v_NoTime_NoTime
  | .NoName, .Blind => kit_err T.e_Blind T.v_NoName_Blind T.v_Blind_Blind
  | .NoName, .NoCar => kit_err T.e_NoCar T.v_NoName_NoCar T.v_NoCar_NoCar
  | .NoName, .NoSight => kit_err T.e_NoSight T.v_NoName_NoSight T.v_NoSight_NoSight
  | .SameGate, .NoName => kit_err T.e_NoName T.v_SameGate_NoName T.v_NoName_NoName
  | .SameGate, .SameGate => kit_err T.e_SameGate T.v_SameGate_SameGate T.v_SameGate_SameGate
  | .SameGate, .FullNet => kit_err T.e_FullNet T.v_SameGate_FullNet T.v_FullNet_FullNet
  | .SameGate, .NoGate => kit_err T.e_NoGate T.v_SameGate_NoGate T.v_NoGate_NoGate
  | .SameGate, .NoNumber => kit_err T.e_NoNumber T.v_SameGate_NoNumber T.v_NoNumber_NoNumber
  | .SameGate, .NoRoad => kit_err T.e_NoRoad T.v_SameGate_NoRoad T.v_NoRoad_NoRoad
  | .SameGate, .Already => kit_err T.e_Already T.v_SameGate_Already T.v_Already_Already
  | .SameGate, .NoTime => kit_err T.e_NoTime T.v_SameGate_NoTime T.v_NoTime_NoTime
  | .SameGate, .Blind => kit_err T.e_Blind T.v_SameGate_Blind T.v_Blind_Blind
  | .SameGate, .NoCar => kit_err T.e_NoCar T.v_SameGate_NoCar T.v_NoCar_NoCar
  | .SameGate, .NoSight => kit_err T.e_NoSight T.v_SameGate_NoSight T.v_NoSight_NoSight
  | .FullNet, .NoName => kit_err T.e_NoName T.v_FullNet_NoName T.v_NoName_NoName
  | .FullNet, .SameGate => kit_err T.e_SameGate T.v_FullNet_SameGate T.v_SameGate_SameGate
  | .FullNet, .FullNet => kit_err T.e_FullNet T.v_FullNet_FullNet T.v_FullNet_FullNet
  | .FullNet, .NoGate => kit_err T.e_NoGate T.v_FullNet_NoGate T.v_NoGate_NoGate
  | .FullNet, .NoNumber => kit_err T.e_NoNumber T.v_FullNet_NoNumber T.v_NoNumber_NoNumber
  | .FullNet, .NoRoad => kit_err T.e_NoRoad T.v_FullNet_NoRoad T.v_NoRoad_NoRoad
  | .FullNet, .Already => kit_err T.e_Already T.v_FullNet_Already T.v_Already_Already
  | .FullNet, .NoTime => kit_err T.e_NoTime T.v_FullNet_NoTime T.v_NoTime_NoTime
  | .FullNet, .Blind => kit_err T.e_Blind T.v_FullNet_Blind T.v_Blind_Blind
  | .FullNet, .NoCar => kit_err T.e_NoCar T.v_FullNet_NoCar T.v_NoCar_NoCar
  | .FullNet, .NoSight => kit_err T.e_NoSight T.v_FullNet_NoSight T.v_NoSight_NoSight
  | .NoGate, .NoName => kit_err T.e_NoName T.v_NoGate_NoName T.v_NoName_NoName
  | .NoGate, .SameGate => kit_err T.e_SameGate T.v_NoGate_SameGate T.v_SameGate_SameGate
  | .NoGate, .FullNet => kit_err T.e_FullNet T.v_NoGate_FullNet T.v_FullNet_FullNet
  | .NoGate, .NoGate => kit_err T.e_NoGate T.v_NoGate_NoGate T.v_NoGate_NoGate
  | .NoGate, .NoNumber => kit_err T.e_NoNumber T.v_NoGate_NoNumber T.v_NoNumber_NoNumber
  | .NoGate, .NoRoad => kit_err T.e_NoRoad T.v_NoGate_NoRoad T.v_NoRoad_NoRoad
  | .NoGate, .Already => kit_err T.e_Already T.v_NoGate_Already T.v_Already_Already
  | .NoGate, .NoTime => kit_err T.e_NoTime T.v_NoGate_NoTime T.v_NoTime_NoTime
  | .NoGate, .Blind => kit_err T.e_Blind T.v_NoGate_Blind T.v_Blind_Blind
  | .NoGate, .NoCar => kit_err T.e_NoCar T.v_NoGate_NoCar T.v_NoCar_NoCar
  | .NoGate, .NoSight => kit_err T.e_NoSight T.v_NoGate_NoSight T.v_NoSight_NoSight
  | .NoNumber, .NoName => kit_err T.e_NoName T.v_NoNumber_NoName T.v_NoName_NoName
  | .NoNumber, .SameGate => kit_err T.e_SameGate T.v_NoNumber_SameGate T.v_SameGate_SameGate
  | .NoNumber, .FullNet => kit_err T.e_FullNet T.v_NoNumber_FullNet T.v_FullNet_FullNet
  | .NoNumber, .NoGate => kit_err T.e_NoGate T.v_NoNumber_NoGate T.v_NoGate_NoGate
  | .NoNumber, .NoNumber => kit_err T.e_NoNumber T.v_NoNumber_NoNumber T.v_NoNumber_NoNumber
  | .NoNumber, .NoRoad => kit_err T.e_NoRoad T.v_NoNumber_NoRoad T.v_NoRoad_NoRoad
  | .NoNumber, .Already => kit_err T.e_Already T.v_NoNumber_Already T.v_Already_Already
  | .NoNumber, .NoTime => kit_err T.e_NoTime T.v_NoNumber_NoTime T.v_NoTime_NoTime
  | .NoNumber, .Blind => kit_err T.e_Blind T.v_NoNumber_Blind T.v_Blind_Blind
  | .NoNumber, .NoCar => kit_err T.e_NoCar T.v_NoNumber_NoCar T.v_NoCar_NoCar
  | .NoNumber, .NoSight => kit_err T.e_NoSight T.v_NoNumber_NoSight T.v_NoSight_NoSight
  | .NoRoad, .NoName => kit_err T.e_NoName T.v_NoRoad_NoName T.v_NoName_NoName
  | .NoRoad, .SameGate => kit_err T.e_SameGate T.v_NoRoad_SameGate T.v_SameGate_SameGate
  | .NoRoad, .FullNet => kit_err T.e_FullNet T.v_NoRoad_FullNet T.v_FullNet_FullNet
  | .NoRoad, .NoGate => kit_err T.e_NoGate T.v_NoRoad_NoGate T.v_NoGate_NoGate
  | .NoRoad, .NoNumber => kit_err T.e_NoNumber T.v_NoRoad_NoNumber T.v_NoNumber_NoNumber
  | .NoRoad, .NoRoad => kit_err T.e_NoRoad T.v_NoRoad_NoRoad T.v_NoRoad_NoRoad
  | .NoRoad, .Already => kit_err T.e_Already T.v_NoRoad_Already T.v_Already_Already
  | .NoRoad, .NoTime => kit_err T.e_NoTime T.v_NoRoad_NoTime T.v_NoTime_NoTime
  | .NoRoad, .Blind => kit_err T.e_Blind T.v_NoRoad_Blind T.v_Blind_Blind
  | .NoRoad, .NoCar => kit_err T.e_NoCar T.v_NoRoad_NoCar T.v_NoCar_NoCar
  | .NoRoad, .NoSight => kit_err T.e_NoSight T.v_NoRoad_NoSight T.v_NoSight_NoSight
  | .Already, .NoName => kit_err T.e_NoName T.v_Already_NoName T.v_NoName_NoName
  | .Already, .SameGate => kit_err T.e_SameGate T.v_Already_SameGate T.v_SameGate_SameGate
  | .Already, .FullNet => kit_err T.e_FullNet T.v_Already_FullNet T.v_FullNet_FullNet
  | .Already, .NoGate => kit_err T.e_NoGate T.v_Already_NoGate T.v_NoGate_NoGate
  | .Already, .NoNumber => kit_err T.e_NoNumber T.v_Already_NoNumber T.v_NoNumber_NoNumber
  | .Already, .NoRoad => kit_err T.e_NoRoad T.v_Already_NoRoad T.v_NoRoad_NoRoad
  | .Already, .Already => kit_err T.e_Already T.v_Already_Already T.v_Already_Already
  | .Already, .NoTime => kit_err T.e_NoTime T.v_Already_NoTime T.v_NoTime_NoTime
  | .Already, .Blind => kit_err T.e_Blind T.v_Already_Blind T.v_Blind_Blind
  | .Already, .NoCar => kit_err T.e_NoCar T.v_Already_NoCar T.v_NoCar_NoCar
  | .Already, .NoSight => kit_err T.e_NoSight T.v_Already_NoSight T.v_NoSight_NoSight
  | .NoTime, .NoName => kit_err T.e_NoName T.v_NoTime_NoName T.v_NoName_NoName
  | .NoTime, .SameGate => kit_err T.e_SameGate T.v_NoTime_SameGate T.v_SameGate_SameGate
  | .NoTime, .FullNet => kit_err T.e_FullNet T.v_NoTime_FullNet T.v_FullNet_FullNet
  | .NoTime, .NoGate => kit_err T.e_NoGate T.v_NoTime_NoGate T.v_NoGate_NoGate
  | .NoTime, .NoNumber => kit_err T.e_NoNumber T.v_NoTime_NoNumber T.v_NoNumber_NoNumber
  | .NoTime, .NoRoad => kit_err T.e_NoRoad T.v_NoTime_NoRoad T.v_NoRoad_NoRoad
  | .NoTime, .Already => kit_err T.e_Already T.v_NoTime_Already T.v_Already_Already
  | .NoTime, .NoTime => kit_err T.e_NoTime T.v_NoTime_NoTime T.v_NoTime_NoTime
  | .NoTime, .Blind => kit_err T.e_Blind T.v_NoTime_Blind T.v_Blind_Blind
  | .NoTime, .NoCar => kit_err T.e_NoCar T.v_NoTime_NoCar T.v_NoCar_NoCar
  | .NoTime, .NoSight => kit_err T.e_NoSight T.v_NoTime_NoSight T.v_NoSight_NoSight
  | .Blind, .NoName => kit_err T.e_NoName T.v_Blind_NoName T.v_NoName_NoName
  | .Blind, .SameGate => kit_err T.e_SameGate T.v_Blind_SameGate T.v_SameGate_SameGate
  | .Blind, .FullNet => kit_err T.e_FullNet T.v_Blind_FullNet T.v_FullNet_FullNet
  | .Blind, .NoGate => kit_err T.e_NoGate T.v_Blind_NoGate T.v_NoGate_NoGate
  | .Blind, .NoNumber => kit_err T.e_NoNumber T.v_Blind_NoNumber T.v_NoNumber_NoNumber
  | .Blind, .NoRoad => kit_err T.e_NoRoad T.v_Blind_NoRoad T.v_NoRoad_NoRoad
  | .Blind, .Already => kit_err T.e_Already T.v_Blind_Already T.v_Already_Already
  | .Blind, .NoTime => kit_err T.e_NoTime T.v_Blind_NoTime T.v_NoTime_NoTime
  | .Blind, .Blind => kit_err T.e_Blind T.v_Blind_Blind T.v_Blind_Blind
  | .Blind, .NoCar => kit_err T.e_NoCar T.v_Blind_NoCar T.v_NoCar_NoCar
  | .Blind, .NoSight => kit_err T.e_NoSight T.v_Blind_NoSight T.v_NoSight_NoSight
  | .NoCar, .NoName => kit_err T.e_NoName T.v_NoCar_NoName T.v_NoName_NoName
  | .NoCar, .SameGate => kit_err T.e_SameGate T.v_NoCar_SameGate T.v_SameGate_SameGate
  | .NoCar, .FullNet => kit_err T.e_FullNet T.v_NoCar_FullNet T.v_FullNet_FullNet
  | .NoCar, .NoGate => kit_err T.e_NoGate T.v_NoCar_NoGate T.v_NoGate_NoGate
  | .NoCar, .NoNumber => kit_err T.e_NoNumber T.v_NoCar_NoNumber T.v_NoNumber_NoNumber
  | .NoCar, .NoRoad => kit_err T.e_NoRoad T.v_NoCar_NoRoad T.v_NoRoad_NoRoad
  | .NoCar, .Already => kit_err T.e_Already T.v_NoCar_Already T.v_Already_Already
  | .NoCar, .NoTime => kit_err T.e_NoTime T.v_NoCar_NoTime T.v_NoTime_NoTime
  | .NoCar, .Blind => kit_err T.e_Blind T.v_NoCar_Blind T.v_Blind_Blind
  | .NoCar, .NoCar => kit_err T.e_NoCar T.v_NoCar_NoCar T.v_NoCar_NoCar
  | .NoCar, .NoSight => kit_err T.e_NoSight T.v_NoCar_NoSight T.v_NoSight_NoSight
  | .NoSight, .NoName => kit_err T.e_NoName T.v_NoSight_NoName T.v_NoName_NoName
  | .NoSight, .SameGate => kit_err T.e_SameGate T.v_NoSight_SameGate T.v_SameGate_SameGate
  | .NoSight, .FullNet => kit_err T.e_FullNet T.v_NoSight_FullNet T.v_FullNet_FullNet
  | .NoSight, .NoGate => kit_err T.e_NoGate T.v_NoSight_NoGate T.v_NoGate_NoGate
  | .NoSight, .NoNumber => kit_err T.e_NoNumber T.v_NoSight_NoNumber T.v_NoNumber_NoNumber
  | .NoSight, .NoRoad => kit_err T.e_NoRoad T.v_NoSight_NoRoad T.v_NoRoad_NoRoad
  | .NoSight, .Already => kit_err T.e_Already T.v_NoSight_Already T.v_Already_Already
  | .NoSight, .NoTime => kit_err T.e_NoTime T.v_NoSight_NoTime T.v_NoTime_NoTime
  | .NoSight, .Blind => kit_err T.e_Blind T.v_NoSight_Blind T.v_Blind_Blind
  | .NoSight, .NoCar => kit_err T.e_NoCar T.v_NoSight_NoCar T.v_NoCar_NoCar
  | .NoSight, .NoSight => kit_err T.e_NoSight T.v_NoSight_NoSight T.v_NoSight_NoSight
theorem excC (T : Txt K mg A) : ∀ c : Rf, ExcC K (c.ad A)
  | .NoName => T.i_NoName
  | .SameGate => T.i_SameGate
  | .FullNet => T.i_FullNet
  | .NoGate => T.i_NoGate
  | .NoNumber => T.i_NoNumber
  | .NoRoad => T.i_NoRoad
  | .Already => T.i_Already
  | .NoTime => T.i_NoTime
  | .Blind => T.i_Blind
  | .NoCar => T.i_NoCar
  | .NoSight => T.i_NoSight
theorem toll_err (T : Txt K mg A) : ∀ c : Rf, PySem.W.exmOne K (.ref (c.ad A)) (.ref A.C_TollError) = some true
  | .NoName => PySem.W.exm_ref T.e_TollError.b T.e_TollError.h T.e_TollError.t T.v_NoName_TollError
  | .SameGate => PySem.W.exm_ref T.e_TollError.b T.e_TollError.h T.e_TollError.t T.v_SameGate_TollError
  | .FullNet => PySem.W.exm_ref T.e_TollError.b T.e_TollError.h T.e_TollError.t T.v_FullNet_TollError
  | .NoGate => PySem.W.exm_ref T.e_TollError.b T.e_TollError.h T.e_TollError.t T.v_NoGate_TollError
  | .NoNumber => PySem.W.exm_ref T.e_TollError.b T.e_TollError.h T.e_TollError.t T.v_NoNumber_TollError
  | .NoRoad => PySem.W.exm_ref T.e_TollError.b T.e_TollError.h T.e_TollError.t T.v_NoRoad_TollError
  | .Already => PySem.W.exm_ref T.e_TollError.b T.e_TollError.h T.e_TollError.t T.v_Already_TollError
  | .NoTime => PySem.W.exm_ref T.e_TollError.b T.e_TollError.h T.e_TollError.t T.v_NoTime_TollError
  | .Blind => PySem.W.exm_ref T.e_TollError.b T.e_TollError.h T.e_TollError.t T.v_Blind_TollError
  | .NoCar => PySem.W.exm_ref T.e_TollError.b T.e_TollError.h T.e_TollError.t T.v_NoCar_TollError
  | .NoSight => PySem.W.exm_ref T.e_TollError.b T.e_TollError.h T.e_TollError.t T.v_NoSight_TollError
theorem kit_ve {D : Addr} (h : PySem.W.subIn K (.ref D) (.type "ValueError") = some true) : PySem.W.kitOne K (.ref D) (.type "ValueError") = some true := by
  unfold PySem.W.kitOne
  have ne : ¬ ((Value.ref D == Value.type "ValueError") = true) := fun y => nomatch beq_iff_eq.mp y
  rw [if_neg ne]
  have e : PySem.W.kitCls K (.ref D) (.type "ValueError") = if PySem.W.kitMeta "ValueError" = true then PySem.W.subIn K (.ref D) (.type "ValueError") else none := rfl
  rw [e, if_pos (by decide +kernel)]
  exact h
theorem value_err (T : Txt K mg A) : ∀ c : Rf, PySem.W.kitOne K (.ref (c.ad A)) (.type "ValueError") = some true
  | .NoName => kit_ve T.s_NoName
  | .SameGate => kit_ve T.s_SameGate
  | .FullNet => kit_ve T.s_FullNet
  | .NoGate => kit_ve T.s_NoGate
  | .NoNumber => kit_ve T.s_NoNumber
  | .NoRoad => kit_ve T.s_NoRoad
  | .Already => kit_ve T.s_Already
  | .NoTime => kit_ve T.s_NoTime
  | .Blind => kit_ve T.s_Blind
  | .NoCar => kit_ve T.s_NoCar
  | .NoSight => kit_ve T.s_NoSight
def spOneClass (A : Ads) : Addr → Value → Option Addr → Sp := fun a cls d vs H Q _ => ∃ c : Rf, cls = .ref (c.ad A) ∧ d = none ∧ vs = [.ref a] ∧ ∀ H', Same H H' → Q (.bl true) H'
theorem ok_l_of_one_class (T : Txt K mg A) : ∃ fd, HeldOk P w K mg base 1 A.l_of_one_class fd ["_law_e"] (spOneClass A) ∧ Binds K fd ["_law_e"] [] ∧ PySem.W.keepIn K (.ref A.l_of_one_class) = true := by
  obtain ⟨fd, F⟩ := T.F_l_of_one_class
  refine ⟨fd, ?_, F.binds (ps := ["_law_e"]) fun _ _ _ _ _ _ us hl => match us, hl with | [_], _ => rfl, F.kp⟩
  refine Fun.held F sc_l_of_one_class (fun a cls d vs H Q E h => ?_) (fun cdv A' outer s H vs Q E a oe cls d hz hf hr h => ?_)
  · obtain ⟨c, _, _, rfl, _⟩ := h
    rfl
  · obtain ⟨c, rfl, rfl, rfl, q⟩ := h
    let ea := a
    refine ⟨_, (pss_cons (ps_set (i := 1) sc_l_of_one_class.nd rfl (by first | exact Or.inl rfl | exact Or.inr rfl) (pe_lst (pa_cons (pe_callB (call_isP (a := ea) List.mem_cons_self hz hf) (by rfl) T.b_isinstance (by decide +kernel) (pa_cons (pv 0) (pa_cons (pe_glob (v := .ref A.C_NoName) rfl T.e_NoName.g rfl) pa_nil))) (pa_cons (pe_callB (call_isP (a := ea) List.mem_cons_self hz hf) (by rfl) T.b_isinstance (by decide +kernel) (pa_cons (pv 0) (pa_cons (pe_glob (v := .ref A.C_SameGate) rfl T.e_SameGate.g rfl) pa_nil))) (pa_cons (pe_callB (call_isP (a := ea) List.mem_cons_self hz hf) (by rfl) T.b_isinstance (by decide +kernel) (pa_cons (pv 0) (pa_cons (pe_glob (v := .ref A.C_FullNet) rfl T.e_FullNet.g rfl) pa_nil))) (pa_cons (pe_callB (call_isP (a := ea) List.mem_cons_self hz hf) (by rfl) T.b_isinstance (by decide +kernel) (pa_cons (pv 0) (pa_cons (pe_glob (v := .ref A.C_NoGate) rfl T.e_NoGate.g rfl) pa_nil))) pa_nil))))))
      (pss_cons (ps_set (i := 1) sc_l_of_one_class.nd rfl (by first | exact Or.inl rfl | exact Or.inr rfl) (pe_op op_cat (pv 1) (pe_lst (pa_cons (pe_callB (call_isP (a := ea) List.mem_cons_self hz hf) (by rfl) T.b_isinstance (by decide +kernel) (pa_cons (pv 0) (pa_cons (pe_glob (v := .ref A.C_NoNumber) rfl T.e_NoNumber.g rfl) pa_nil))) (pa_cons (pe_callB (call_isP (a := ea) List.mem_cons_self hz hf) (by rfl) T.b_isinstance (by decide +kernel) (pa_cons (pv 0) (pa_cons (pe_glob (v := .ref A.C_NoRoad) rfl T.e_NoRoad.g rfl) pa_nil))) (pa_cons (pe_callB (call_isP (a := ea) List.mem_cons_self hz hf) (by rfl) T.b_isinstance (by decide +kernel) (pa_cons (pv 0) (pa_cons (pe_glob (v := .ref A.C_Already) rfl T.e_Already.g rfl) pa_nil))) (pa_cons (pe_callB (call_isP (a := ea) List.mem_cons_self hz hf) (by rfl) T.b_isinstance (by decide +kernel) (pa_cons (pv 0) (pa_cons (pe_glob (v := .ref A.C_NoTime) rfl T.e_NoTime.g rfl) pa_nil))) pa_nil)))))))
      (pss_cons (ps_set (i := 1) sc_l_of_one_class.nd rfl (by first | exact Or.inl rfl | exact Or.inr rfl) (pe_op op_cat (pv 1) (pe_lst (pa_cons (pe_callB (call_isP (a := ea) List.mem_cons_self hz hf) (by rfl) T.b_isinstance (by decide +kernel) (pa_cons (pv 0) (pa_cons (pe_glob (v := .ref A.C_Blind) rfl T.e_Blind.g rfl) pa_nil))) (pa_cons (pe_callB (call_isP (a := ea) List.mem_cons_self hz hf) (by rfl) T.b_isinstance (by decide +kernel) (pa_cons (pv 0) (pa_cons (pe_glob (v := .ref A.C_NoCar) rfl T.e_NoCar.g rfl) pa_nil))) (pa_cons (pe_callB (call_isP (a := ea) List.mem_cons_self hz hf) (by rfl) T.b_isinstance (by decide +kernel) (pa_cons (pv 0) (pa_cons (pe_glob (v := .ref A.C_NoSight) rfl T.e_NoSight.g rfl) pa_nil))) pa_nil))))))
      (pss_one (ps_ret (pe_and (pe_callB (call_isP (a := ea) List.mem_cons_self hz hf) (by rfl) T.b_isinstance (by decide +kernel) (pa_cons (pv 0) (pa_cons (pe_bltn (v := .ty "ValueError") (by rfl) T.b_ValueError (by decide +kernel) rfl) pa_nil))) (pe_one (pe_cmpR op_eq (pe_bm PySem.F.plainAttrs_list PySem.F.slot_list_count PySem.F.type_list_count mt_countB (pv 1) (pa_cons pe_bl pa_nil)) pe_int (nomark _))))))))), ?_⟩
    walk_at "go"
    refine ⟨_, _, _, _, rfl, rfl, excC T c, rfl, ClsV.own _, isin T c .NoName, ?_⟩
    walk_at "go"
    refine ⟨_, _, _, _, rfl, rfl, excC T c, rfl, ClsV.own _, isin T c .SameGate, ?_⟩
    walk_at "go"
    refine ⟨_, _, _, _, rfl, rfl, excC T c, rfl, ClsV.own _, isin T c .FullNet, ?_⟩
    walk_at "go"
    refine ⟨_, _, _, _, rfl, rfl, excC T c, rfl, ClsV.own _, isin T c .NoGate, ?_⟩
    walk_at "go"
    refine ⟨(by show 4 ≤ sizeLine; decide), fun L1 n1 => ?_⟩
    have s1 : Same H (upd H L1 (.lst [.bl (decide (c = .NoName)), .bl (decide (c = .SameGate)), .bl (decide (c = .FullNet)), .bl (decide (c = .NoGate))])) := same_up n1
    have h1 : (upd H L1 (.lst [.bl (decide (c = .NoName)), .bl (decide (c = .SameGate)), .bl (decide (c = .FullNet)), .bl (decide (c = .NoGate))])) L1 = some (.lst [.bl (decide (c = .NoName)), .bl (decide (c = .SameGate)), .bl (decide (c = .FullNet)), .bl (decide (c = .NoGate))]) := upd_same
    generalize upd H L1 (.lst [.bl (decide (c = .NoName)), .bl (decide (c = .SameGate)), .bl (decide (c = .FullNet)), .bl (decide (c = .NoGate))]) = H1 at s1 h1
    walk_at "go"
    refine ⟨_, _, _, _, rfl, rfl, excC T c, rfl, ClsV.own _, isin T c .NoNumber, ?_⟩
    walk_at "go"
    refine ⟨_, _, _, _, rfl, rfl, excC T c, rfl, ClsV.own _, isin T c .NoRoad, ?_⟩
    walk_at "go"
    refine ⟨_, _, _, _, rfl, rfl, excC T c, rfl, ClsV.own _, isin T c .Already, ?_⟩
    walk_at "go"
    refine ⟨_, _, _, _, rfl, rfl, excC T c, rfl, ClsV.own _, isin T c .NoTime, ?_⟩
    walk_at "go"
    refine ⟨(by show 4 ≤ sizeLine; decide), fun L2 n2 => ?_⟩
    have s2 : Same H1 (upd H1 L2 (.lst [.bl (decide (c = .NoNumber)), .bl (decide (c = .NoRoad)), .bl (decide (c = .Already)), .bl (decide (c = .NoTime))])) := same_up n2
    have h2 : (upd H1 L2 (.lst [.bl (decide (c = .NoNumber)), .bl (decide (c = .NoRoad)), .bl (decide (c = .Already)), .bl (decide (c = .NoTime))])) L2 = some (.lst [.bl (decide (c = .NoNumber)), .bl (decide (c = .NoRoad)), .bl (decide (c = .Already)), .bl (decide (c = .NoTime))]) := upd_same
    generalize upd H1 L2 (.lst [.bl (decide (c = .NoNumber)), .bl (decide (c = .NoRoad)), .bl (decide (c = .Already)), .bl (decide (c = .NoTime))]) = H2 at s2 h2
    walk_at "go"
    refine ⟨L1, L2, _, _, rfl, rfl, s2 _ _ h1, h2, (by show 8 ≤ sizeLine; decide), fun L3 n3 => ?_⟩
    have s3 : Same H2 (upd H2 L3 (.lst [.bl (decide (c = .NoName)), .bl (decide (c = .SameGate)), .bl (decide (c = .FullNet)), .bl (decide (c = .NoGate)), .bl (decide (c = .NoNumber)), .bl (decide (c = .NoRoad)), .bl (decide (c = .Already)), .bl (decide (c = .NoTime))])) := same_up n3
    have h3 : (upd H2 L3 (.lst [.bl (decide (c = .NoName)), .bl (decide (c = .SameGate)), .bl (decide (c = .FullNet)), .bl (decide (c = .NoGate)), .bl (decide (c = .NoNumber)), .bl (decide (c = .NoRoad)), .bl (decide (c = .Already)), .bl (decide (c = .NoTime))])) L3 = some (.lst [.bl (decide (c = .NoName)), .bl (decide (c = .SameGate)), .bl (decide (c = .FullNet)), .bl (decide (c = .NoGate)), .bl (decide (c = .NoNumber)), .bl (decide (c = .NoRoad)), .bl (decide (c = .Already)), .bl (decide (c = .NoTime))]) := upd_same
    rw [show (HO.lst ([.bl (decide (c = .NoName)), .bl (decide (c = .SameGate)), .bl (decide (c = .FullNet)), .bl (decide (c = .NoGate))] ++ [.bl (decide (c = .NoNumber)), .bl (decide (c = .NoRoad)), .bl (decide (c = .Already)), .bl (decide (c = .NoTime))])) = HO.lst [.bl (decide (c = .NoName)), .bl (decide (c = .SameGate)), .bl (decide (c = .FullNet)), .bl (decide (c = .NoGate)), .bl (decide (c = .NoNumber)), .bl (decide (c = .NoRoad)), .bl (decide (c = .Already)), .bl (decide (c = .NoTime))] from rfl]
    generalize upd H2 L3 (.lst [.bl (decide (c = .NoName)), .bl (decide (c = .SameGate)), .bl (decide (c = .FullNet)), .bl (decide (c = .NoGate)), .bl (decide (c = .NoNumber)), .bl (decide (c = .NoRoad)), .bl (decide (c = .Already)), .bl (decide (c = .NoTime))]) = H3 at s3 h3
    walk_at "go"
    refine ⟨_, _, _, _, rfl, rfl, excC T c, rfl, ClsV.own _, isin T c .Blind, ?_⟩
    walk_at "go"
    refine ⟨_, _, _, _, rfl, rfl, excC T c, rfl, ClsV.own _, isin T c .NoCar, ?_⟩
    walk_at "go"
    refine ⟨_, _, _, _, rfl, rfl, excC T c, rfl, ClsV.own _, isin T c .NoSight, ?_⟩
    walk_at "go"
    refine ⟨(by show 3 ≤ sizeLine; decide), fun L4 n4 => ?_⟩
    have s4 : Same H3 (upd H3 L4 (.lst [.bl (decide (c = .Blind)), .bl (decide (c = .NoCar)), .bl (decide (c = .NoSight))])) := same_up n4
    have h4 : (upd H3 L4 (.lst [.bl (decide (c = .Blind)), .bl (decide (c = .NoCar)), .bl (decide (c = .NoSight))])) L4 = some (.lst [.bl (decide (c = .Blind)), .bl (decide (c = .NoCar)), .bl (decide (c = .NoSight))]) := upd_same
    generalize upd H3 L4 (.lst [.bl (decide (c = .Blind)), .bl (decide (c = .NoCar)), .bl (decide (c = .NoSight))]) = H4 at s4 h4
    walk_at "go"
    refine ⟨L3, L4, _, _, rfl, rfl, s4 _ _ h3, h4, (by show 11 ≤ sizeLine; decide), fun L5 n5 => ?_⟩
    have s5 : Same H4 (upd H4 L5 (.lst ((Rf.all.map fun d => decide (c = d)).map V.bl))) := same_up n5
    have h5 : (upd H4 L5 (.lst ((Rf.all.map fun d => decide (c = d)).map V.bl))) L5 = some (.lst ((Rf.all.map fun d => decide (c = d)).map V.bl)) := upd_same
    rw [show (HO.lst ([.bl (decide (c = .NoName)), .bl (decide (c = .SameGate)), .bl (decide (c = .FullNet)), .bl (decide (c = .NoGate)), .bl (decide (c = .NoNumber)), .bl (decide (c = .NoRoad)), .bl (decide (c = .Already)), .bl (decide (c = .NoTime))] ++ [.bl (decide (c = .Blind)), .bl (decide (c = .NoCar)), .bl (decide (c = .NoSight))])) = HO.lst ((Rf.all.map fun d => decide (c = d)).map V.bl) from rfl]
    generalize upd H4 L5 (.lst ((Rf.all.map fun d => decide (c = d)).map V.bl)) = H5 at s5 h5
    walk_at "go"
    refine ⟨_, _, _, _, rfl, rfl, excC T c, rfl, ClsV.ty _, value_err T c, ?_⟩
    walk_at "go"
    refine ⟨.inl ⟨rfl, _, SqL.of h5⟩, ?_⟩
    walk_at "go"
    refine ⟨L5, _, true, rfl, rfl, SqL.of h5, ?_⟩
    rw [one_of]
    walk_at "go"
    exact q _ (s1.trans (s2.trans (s3.trans (s4.trans s5))))
end
end Toll

set_option Elab.async false
set_option linter.all false
set_option maxRecDepth 100000
set_option maxHeartbeats 4000000
namespace Toll
open PySem L2
local macro_rules | `(tactic| walk_at "go1") => `(tactic| first
  | refine ⟨_, rfl, ?_⟩
  | refine ⟨rfl, ?_⟩
  | refine ⟨_, _, rfl, rfl, ?_⟩
  | refine ⟨_, _, rfl, ?_⟩
  | (with_reducible refine' ⟨log_small ?k1 ?k2, ?_⟩; (case k1 => omega); (case k2 => omega))
  | (refine' ⟨?k1, ?_⟩; (case k1 => ((with_reducible show (_ : Int) < _); omega)))
  | (refine' ⟨⟨?k1, ?k2⟩, ?_⟩; (case k1 => omega); (case k2 => omega))
  | (refine' ⟨⟨?k1, ?k2, ?k3, ?k4⟩, ?_⟩; (case k1 => omega); (case k2 => omega); (case k3 => omega); (case k4 => omega))
  | (refine' ⟨.inl ⟨?k1, ?k2⟩, ?_⟩; (case k1 => omega); (case k2 => omega))
  | (refine' ⟨.inr ⟨?k1, ?k2⟩, ?_⟩; (case k1 => omega); (case k2 => omega))
  | (refine' ⟨Evl.sz_of ?k1, ?_⟩; (case k1 => omega))
  | (refine' ⟨?k1, ?_⟩; (case k1 => ((with_reducible show (_ : Int) ≤ _); omega)))
  | refine ⟨⟨_, rfl⟩, ?_⟩
  | refine .inl ⟨_, rfl, ?_⟩ | refine .inr ⟨_, rfl, ?_⟩
  | refine iteT ?_ | refine iteF ?_)
local macro_rules | `(tactic| walk_at "go") => `(tactic| repeat (walk_at "go1"))
local macro_rules | `(tactic| walk_at "ans") => `(tactic| (intro Q' q'; walk_at "go"; (try rw [dec_int]); (try rw [dec_str]); exact q'))
local macro_rules | `(tactic| walk_at "hp") => `(tactic| first | assumption | exact upd_same | (refine' up_same ?e ?h; (case e => assumption); (case h => walk_at "hp")) | (refine' upd_at ?n ?h; (case n => walk_at "ne"); (case h => walk_at "hp")))
local macro_rules | `(tactic| walk_at "ne") => `(tactic| first | assumption | (apply Ne.symm; assumption))
local macro_rules | `(tactic| walk_at "at") => `(tactic| first | exact atI_nat (j := 0) rfl | exact atI_nat (j := 1) rfl | exact atI_nat (j := 2) rfl | exact atI_nat (j := 3) rfl | exact atI_nat (j := 4) rfl)
local macro_rules | `(tactic| walk_at "step1") => `(tactic| first
  | walk_at "go1"
  | (apply ixL_step; (case h => walk_at "hp"); (case a => walk_at "at"))
  | (apply ixT_step; (case h => walk_at "hp"); (case a => walk_at "at"))
  | (apply lenL_step; (case h => walk_at "hp")))
local macro_rules | `(tactic| walk_at "step") => `(tactic| repeat (walk_at "step1"))
section
variable {P : Program} {w : World} {K : PySem.W.Frag} {mg : Str → Option Value} {base : Heap} {A : Ads}
/-- what the def does: a method by the asking's first word -/
def eAll (W : WX) : XK := fun cls d H => ∀ σ, W cls d σ H
def dIx (K : PySem.W.Frag) (i : Int) : TE := tOp (rIxT K) (tVar 2) (tC (.int i))
def dIf (K : PySem.W.Frag) (word : Str) (t : TS) : TS := tIfS (tTest (tOp rEq (dIx K 0) (tC (.str word)))) t tNext
theorem dIf_ans {word w0 : Str} {rest : List V} {t : Addr} {σ : L2.St} {H : Hp} (hs : σ[2]? = some (some (.ref t))) (ht : H t = some (.tup (.str w0 :: rest))) : Ans (tTest (tOp rEq (dIx K 0) (tC (.str word)))) σ H (decide (w0 = word)) := by
  intro Q q
  refine ⟨_, hs, t, _, 0, .str w0, rfl, rfl, SqT.of ht, atI_nat (j := 0) rfl, rfl, _, rfl, ?_⟩
  rw [dec_str]
  exact q
theorem dIf_yes {word w0 : Str} {rest : List V} {t : Addr} {σ : L2.St} {H : Hp} {D : Ends} {u r : TS} (hs : σ[2]? = some (some (.ref t))) (ht : H t = some (.tup (.str w0 :: rest))) (e : decide (w0 = word) = true) (q : u { D with nx := r D } σ H) : tSeq (dIf K word u) r D σ H :=
  seq_if1 _ (dIf_ans hs ht) (fun _ => q) fun z => by rw [e] at z; cases z
theorem dIf_no {word w0 : Str} {rest : List V} {t : Addr} {σ : L2.St} {H : Hp} {D : Ends} {u r : TS} (hs : σ[2]? = some (some (.ref t))) (ht : H t = some (.tup (.str w0 :: rest))) (e : decide (w0 = word) = false) (q : r D σ H) : tSeq (dIf K word u) r D σ H :=
  seq_if1 _ (dIf_ans hs ht) (fun z => by rw [e] at z; cases z) fun _ => q
def spAsked (A : Ads) : Sp := fun vs H Q E => ∃ (n g r p sd t : Addr) (N : NetD) (W : List CarE) (a : A8), vs = [.ref n, .ref p, .ref t] ∧ NetAt A.C_Net H n g r N ∧ NetOk N ∧ WatchAt A.C_Watch H p n sd W ∧ W.length < 60 ∧ (∀ e ∈ W, e.ss.length < 900) ∧ H t = some (.tup a.vs) ∧ a.lists H ∧ a.fine ∧
  (∀ c, refusal8 N W a = some c → ∀ H', Same H H' → E (.ref (c.ad A)) none H') ∧
  (refusal8 N W a = none → a.able N ∧ ∀ y H', Keep (wfoot sd W) H H' → Q y H')
theorem ok_l_asked (T : Txt K mg A) : DefOk P w K mg base (L2.CX P w) 6 A.l_asked ["_law_net", "_law_watch", "_law_asking"] (spAsked A) := by
  obtain ⟨_, G_W_saw, B_W_saw, K_W_saw⟩ := ok_W_saw (P := P) (w := w) (base := base) T
  obtain ⟨_, G_W_seen, B_W_seen, K_W_seen⟩ := ok_W_seen (P := P) (w := w) (base := base) T
  obtain ⟨_, G_W_forget, B_W_forget, K_W_forget⟩ := ok_W_forget (P := P) (w := w) (base := base) T
  obtain ⟨_, G_reached, B_reached, K_reached⟩ := ok_reached (P := P) (w := w) (base := base) T
  obtain ⟨_, G_leg, B_leg, K_leg⟩ := ok_leg (P := P) (w := w) (base := base) T
  obtain ⟨_, G_guess, B_guess, K_guess⟩ := ok_guess (P := P) (w := w) (base := base) T
  obtain ⟨fd, F⟩ := T.F_l_asked
  refine ⟨fd, ?_, F.binds (ps := ["_law_net", "_law_watch", "_law_asking"]) fun _ _ _ _ _ _ us hl => match us, hl with | [_, _, _], _ => rfl, F.kp⟩
  refine F.okX sc_l_asked (fun vs H Q E h => ?_) (fun cdv A' outer s H vs Q E hr h => ?_)
  · obtain ⟨n, g, r, p, sd, t, N, W, a, rfl, _⟩ := h
    rfl
  · obtain ⟨n, g, r, p, sd, t, N, W, a, rfl, hN, nok, hW, wl, wss, ht, hls, hok, kR, kD⟩ := h
    refine ⟨_, (pss_cons (ps_if (pt_cmpR op_eq (pe_ix (r := rIxT K) ix_tup (pv 2) pe_int (fun _ _ => rfl)) pe_str (nomark _)) (pss_one (ps_ret (pe_meth (pv 1) T.c_Watch T.M_W_saw G_W_saw (hr.mono (by decide)) B_W_saw .nil (passes_call (takes_of rfl rfl rfl rfl) fun _ _ _ _ h => h) (pa_cons (pe_ix (r := rIxT K) ix_tup (pv 2) pe_int (fun _ _ => rfl)) (pa_cons (pe_ix (r := rIxT K) ix_tup (pv 2) pe_int (fun _ _ => rfl)) (pa_cons (pe_ix (r := rIxT K) ix_tup (pv 2) pe_int (fun _ _ => rfl)) pa_nil)))))) pss_nil)
      (pss_cons (ps_if (pt_cmpR op_eq (pe_ix (r := rIxT K) ix_tup (pv 2) pe_int (fun _ _ => rfl)) pe_str (nomark _)) (pss_one (ps_ret (pe_meth (pv 1) T.c_Watch T.M_W_seen G_W_seen (hr.mono (by decide)) B_W_seen .nil (passes_call (takes_of rfl rfl rfl rfl) fun _ _ _ _ h => h) (pa_cons (pe_ix (r := rIxT K) ix_tup (pv 2) pe_int (fun _ _ => rfl)) pa_nil)))) pss_nil)
      (pss_cons (ps_if (pt_cmpR op_eq (pe_ix (r := rIxT K) ix_tup (pv 2) pe_int (fun _ _ => rfl)) pe_str (nomark _)) (pss_one (ps_ret (pe_meth (pv 1) T.c_Watch T.M_W_forget G_W_forget (hr.mono (by decide)) B_W_forget .nil (passes_call (takes_of rfl rfl rfl rfl) fun _ _ _ _ h => h) (pa_cons (pe_ix (r := rIxT K) ix_tup (pv 2) pe_int (fun _ _ => rfl)) pa_nil)))) pss_nil)
      (pss_cons (ps_if (pt_cmpR op_eq (pe_ix (r := rIxT K) ix_tup (pv 2) pe_int (fun _ _ => rfl)) pe_str (nomark _)) (pss_one (ps_ret (pe_call G_reached (hr.mono (by decide)) rfl T.m_reached K_reached B_reached .nil (passes_call (takes_of rfl rfl rfl rfl) fun _ _ _ _ h => h) (pa_cons (pv 0) (pa_cons (pe_ix (r := rIxT K) ix_tup (pv 2) pe_int (fun _ _ => rfl)) (pa_cons (pe_ix (r := rIxT K) ix_tup (pv 2) pe_int (fun _ _ => rfl)) pa_nil)))))) pss_nil)
      (pss_cons (ps_if (pt_cmpR op_eq (pe_ix (r := rIxT K) ix_tup (pv 2) pe_int (fun _ _ => rfl)) pe_str (nomark _)) (pss_one (ps_ret (pe_call G_leg (hr.mono (by decide)) rfl T.m_leg K_leg B_leg .nil (passes_call (takes_of rfl rfl rfl rfl) fun _ _ _ _ h => h) (pa_cons (pv 0) (pa_cons (pe_ix (r := rIxT K) ix_tup (pv 2) pe_int (fun _ _ => rfl)) (pa_cons (pe_ix (r := rIxT K) ix_tup (pv 2) pe_int (fun _ _ => rfl)) (pa_cons (pe_ix (r := rIxT K) ix_tup (pv 2) pe_int (fun _ _ => rfl)) pa_nil))))))) pss_nil)
      (pss_one (ps_ret (pe_call G_guess (hr.mono (by decide)) rfl T.m_guess K_guess B_guess .nil (passes_call (takes_of rfl rfl rfl rfl) fun _ _ _ _ h => h) (pa_cons (pv 0) (pa_cons (pe_ix (r := rIxT K) ix_tup (pv 2) pe_int (fun _ _ => rfl)) pa_nil)))))))))), ?_⟩
    obtain ⟨dx, hob⟩ := hW.ob
    cases a with
    | saw c gt tm =>
      refine dIf_yes rfl ht (by decide +kernel) ?_
      walk_at "go"
      refine ⟨p, dx, _, rfl, hob, watchF_no _ _ (by decide +kernel) (by decide +kernel), ?_⟩
      walk_at "go"
      refine ⟨t, _, _, _, rfl, rfl, SqT.of ht, atI_nat (j := 1) rfl, ?_⟩
      walk_at "go"
      refine ⟨t, _, _, _, rfl, rfl, SqT.of ht, atI_nat (j := 2) rfl, ?_⟩
      walk_at "go"
      refine ⟨t, _, _, _, rfl, rfl, SqT.of ht, atI_nat (j := 3) rfl, ?_⟩
      obtain ⟨⟨o1, o2⟩, ⟨o3, o4⟩, o5⟩ := hok
      refine ⟨p, n, sd, g, r, N, W, c, gt, tm, rfl, hW, hN, o1, o2, o3, o4, o5, fun z H' s => kR .NoName (r8_saw0 z) H' s, fun z z1 H' s => kR .NoGate (r8_saw1 z z1) H' s, fun z z1 H' s => kR .Blind (r8_saw2 z z1) H' s, fun z z1 z2 H' s => kR .NoTime (r8_saw3 z z1 z2) H' s, fun z z1 z2 z3 => ?_⟩
      obtain ⟨_, kd⟩ := kD (r8_saw4 z z1 ⟨z2, z3⟩)
      refine ⟨fun e he _ => wss e (carOf_some he).1, fun _ => wl, fun _ H' d _ _ k => kd _ H' (k.mono fun x hx => ?_), fun e _ _ H' s => kd _ H' (Keep.of_same s), fun e he _ H' _ k => kd _ H' (k.mono fun x hx => ?_)⟩
      · rw [List.mem_singleton] at hx
        rw [hx]
        exact List.mem_cons_self ..
      · rw [List.mem_singleton] at hx
        rw [hx]
        exact List.mem_cons_of_mem _ (List.mem_map.mpr ⟨e, (carOf_some he).1, rfl⟩)
    | seen c =>
      refine dIf_no rfl ht (by decide +kernel) ?_
      refine dIf_yes rfl ht (by decide +kernel) ?_
      walk_at "go"
      refine ⟨p, dx, _, rfl, hob, watchF_no _ _ (by decide +kernel) (by decide +kernel), ?_⟩
      walk_at "go"
      refine ⟨t, _, _, _, rfl, rfl, SqT.of ht, atI_nat (j := 1) rfl, ?_⟩
      obtain ⟨o1, o2⟩ := hok
      refine ⟨p, n, sd, W, c, rfl, hW, o1, o2, fun z => kR .NoCar (r8_seen0 z) _ (Same.refl _), fun e z H' L us s _ _ _ => ?_⟩
      exact (kD (r8_seen1 z)).2 _ H' (Keep.of_same s)
    | forget c =>
      refine dIf_no rfl ht (by decide +kernel) ?_
      refine dIf_no rfl ht (by decide +kernel) ?_
      refine dIf_yes rfl ht (by decide +kernel) ?_
      walk_at "go"
      refine ⟨p, dx, _, rfl, hob, watchF_no _ _ (by decide +kernel) (by decide +kernel), ?_⟩
      walk_at "go"
      refine ⟨t, _, _, _, rfl, rfl, SqT.of ht, atI_nat (j := 1) rfl, ?_⟩
      obtain ⟨o1, o2⟩ := hok
      refine ⟨p, n, sd, W, c, rfl, hW, o1, o2, fun z => kR .NoCar (r8_forget0 z) _ (Same.refl _), fun e z H' _ k => ?_⟩
      exact (kD (r8_forget1 z)).2 _ H' (k.mono fun x hx => by rw [List.mem_singleton] at hx; rw [hx]; exact List.mem_cons_self ..)
    | reached gt l =>
      refine dIf_no rfl ht (by decide +kernel) ?_
      refine dIf_no rfl ht (by decide +kernel) ?_
      refine dIf_no rfl ht (by decide +kernel) ?_
      refine dIf_yes rfl ht (by decide +kernel) ?_
      walk_at "go"
      refine ⟨t, _, _, _, rfl, rfl, SqT.of ht, atI_nat (j := 1) rfl, ?_⟩
      walk_at "go"
      refine ⟨t, _, _, _, rfl, rfl, SqT.of ht, atI_nat (j := 2) rfl, ?_⟩
      obtain ⟨o1, o2⟩ := hok
      refine ⟨n, g, r, N, gt, l, rfl, hN, nok, o1, o2, fun z => kR .NoGate (if_pos z) _ (Same.refl _), fun z z1 => kR .NoNumber ((if_neg z).trans (if_pos z1)) _ (Same.refl _), fun z z1 => ?_⟩
      obtain ⟨⟨u, ab⟩, kd⟩ := kD ((if_neg z).trans (if_neg (by omega)))
      exact ⟨u, ab, fun H' L us rows s _ _ _ _ _ => kd _ H' (Keep.of_same s)⟩
    | leg x y l =>
      refine dIf_no rfl ht (by decide +kernel) ?_
      refine dIf_no rfl ht (by decide +kernel) ?_
      refine dIf_no rfl ht (by decide +kernel) ?_
      refine dIf_no rfl ht (by decide +kernel) ?_
      refine dIf_yes rfl ht (by decide +kernel) ?_
      walk_at "go"
      refine ⟨t, _, _, _, rfl, rfl, SqT.of ht, atI_nat (j := 1) rfl, ?_⟩
      walk_at "go"
      refine ⟨t, _, _, _, rfl, rfl, SqT.of ht, atI_nat (j := 2) rfl, ?_⟩
      walk_at "go"
      refine ⟨t, _, _, _, rfl, rfl, SqT.of ht, atI_nat (j := 3) rfl, ?_⟩
      obtain ⟨⟨o1, o2⟩, o3, o4⟩ := hok
      refine ⟨n, g, r, N, x, y, l, rfl, hN, nok, o1, o2, o3, o4, fun z => kR .NoGate (if_pos z) _ (Same.refl _), fun z z1 => kR .NoGate ((if_neg z).trans (if_pos z1)) _ (Same.refl _), fun z z1 z2 => kR .NoNumber ((if_neg z).trans ((if_neg z1).trans (if_pos z2))) _ (Same.refl _), fun z z1 z2 => ?_⟩
      obtain ⟨⟨u, ab⟩, kd⟩ := kD ((if_neg z).trans ((if_neg z1).trans (if_neg (by omega))))
      exact ⟨u, ab, fun H' s _ _ => kd _ H' (Keep.of_same s), fun H' _ _ _ _ _ s _ _ _ _ _ _ _ _ => kd _ H' (Keep.of_same s)⟩
    | guess S ss =>
      refine dIf_no rfl ht (by decide +kernel) ?_
      refine dIf_no rfl ht (by decide +kernel) ?_
      refine dIf_no rfl ht (by decide +kernel) ?_
      refine dIf_no rfl ht (by decide +kernel) ?_
      refine dIf_no rfl ht (by decide +kernel) ?_
      walk_at "go"
      refine ⟨t, _, _, _, rfl, rfl, SqT.of ht, atI_nat (j := 1) rfl, ?_⟩
      obtain ⟨o1, o2⟩ := hok
      obtain ⟨us, hS, hP⟩ := hls
      refine ⟨n, g, r, S, N, us, ss, rfl, hN, nok, hS, hP, o1, o2, fun z => kR .NoSight (if_pos z) _ (Same.refl _), fun z z1 => kR .NoGate (r8_guess1 z z1) _ (Same.refl _), fun z z1 => kR .NoTime (r8_guess2 z z1) _ (Same.refl _), fun z z1 => ?_⟩
      obtain ⟨ab, kd⟩ := kD (r8_guess3 z z1)
      exact ⟨ab, fun H' _ _ s _ _ _ => kd _ H' (Keep.of_same s), fun H' _ _ _ _ _ _ s _ _ _ _ _ _ _ _ _ _ => kd _ H' (Keep.of_same s)⟩
end
end Toll

set_option Elab.async false
set_option linter.all false
set_option maxRecDepth 100000
set_option maxHeartbeats 4000000
namespace Toll
open PySem L2
local macro_rules | `(tactic| walk_at "go1") => `(tactic| first
  | refine ⟨_, rfl, ?_⟩
  | refine ⟨rfl, ?_⟩
  | refine ⟨_, _, rfl, rfl, ?_⟩
  | refine ⟨_, _, rfl, ?_⟩
  | (with_reducible refine' ⟨log_small ?k1 ?k2, ?_⟩; (case k1 => omega); (case k2 => omega))
  | (refine' ⟨?k1, ?_⟩; (case k1 => ((with_reducible show (_ : Int) < _); omega)))
  | (refine' ⟨⟨?k1, ?k2⟩, ?_⟩; (case k1 => omega); (case k2 => omega))
  | (refine' ⟨⟨?k1, ?k2, ?k3, ?k4⟩, ?_⟩; (case k1 => omega); (case k2 => omega); (case k3 => omega); (case k4 => omega))
  | (refine' ⟨.inl ⟨?k1, ?k2⟩, ?_⟩; (case k1 => omega); (case k2 => omega))
  | (refine' ⟨.inr ⟨?k1, ?k2⟩, ?_⟩; (case k1 => omega); (case k2 => omega))
  | (refine' ⟨Evl.sz_of ?k1, ?_⟩; (case k1 => omega))
  | (refine' ⟨?k1, ?_⟩; (case k1 => ((with_reducible show (_ : Int) ≤ _); omega)))
  | refine ⟨⟨_, rfl⟩, ?_⟩
  | refine .inl ⟨_, rfl, ?_⟩ | refine .inr ⟨_, rfl, ?_⟩
  | refine iteT ?_ | refine iteF ?_)
local macro_rules | `(tactic| walk_at "go") => `(tactic| repeat (walk_at "go1"))
local macro_rules | `(tactic| walk_at "ans") => `(tactic| (intro Q' q'; walk_at "go"; (try rw [dec_int]); (try rw [dec_str]); exact q'))
local macro_rules | `(tactic| walk_at "hp") => `(tactic| first | assumption | exact upd_same | (refine' up_same ?e ?h; (case e => assumption); (case h => walk_at "hp")) | (refine' upd_at ?n ?h; (case n => walk_at "ne"); (case h => walk_at "hp")))
local macro_rules | `(tactic| walk_at "ne") => `(tactic| first | assumption | (apply Ne.symm; assumption))
local macro_rules | `(tactic| walk_at "at") => `(tactic| first | exact atI_nat (j := 0) rfl | exact atI_nat (j := 1) rfl | exact atI_nat (j := 2) rfl | exact atI_nat (j := 3) rfl | exact atI_nat (j := 4) rfl)
local macro_rules | `(tactic| walk_at "step1") => `(tactic| first
  | walk_at "go1"
  | (apply ixL_step; (case h => walk_at "hp"); (case a => walk_at "at"))
  | (apply ixT_step; (case h => walk_at "hp"); (case a => walk_at "at"))
  | (apply lenL_step; (case h => walk_at "hp")))
local macro_rules | `(tactic| walk_at "step") => `(tactic| repeat (walk_at "step1"))
section
variable {P : Program} {w : World} {K : PySem.W.Frag} {mg : Str → Option Value} {base : Heap} {A : Ads}
def tb_l_refused (K : PySem.W.Frag) (A : Ads) (W : WX) : TS := tDrop (tCallS (spAsked A) (fun σ cls d H => W cls d σ H) (tCons (tVar 0) (tCons (tVar 1) (tCons (tVar 2) tNil))))
def Rf.ask (c : Rf) : Prop := c = .NoName ∨ c = .NoGate ∨ c = .Blind ∨ c = .NoTime ∨ c = .NoCar ∨ c = .NoNumber ∨ c = .NoSight
def wK (c d : Rf) (kvs : List (Key × V)) : List (Key × V) := putK kvs (Sum.inr d.word) (V.bl (decide (c = d)))
def wanted8 (c : Rf) : List (Key × V) := wK c .NoSight (wK c .NoNumber (wK c .NoCar (wK c .NoTime (mergeK [] [((Sum.inr Rf.NoName.word : Key), V.bl (decide (c = .NoName))), (Sum.inr Rf.NoGate.word, V.bl (decide (c = .NoGate))), (Sum.inr Rf.Blind.word, V.bl (decide (c = .Blind)))]))))
theorem wanted_at {c : Rf} (h : c.ask) : valV (wanted8 c) (Sum.inr c.word : Key) = some (.bl true) := by
  rcases h with rfl | rfl | rfl | rfl | rfl | rfl | rfl <;> decide +kernel
theorem wK_len (c d : Rf) {kvs : List (Key × V)} {n : Nat} (h : kvs.length ≤ n) : (wK c d kvs).length ≤ n + 1 := Nat.le_trans (length_putK ..) (by omega)
def spRefused (A : Ads) : Sp := fun vs H Q _ => ∃ (n g r p sd t : Addr) (N : NetD) (W : List CarE) (a : A8) (c : Rf), vs = [.ref n, .ref p, .ref t, .str c.word] ∧ NetAt A.C_Net H n g r N ∧ NetOk N ∧ WatchAt A.C_Watch H p n sd W ∧ W.length < 60 ∧ (∀ e ∈ W, e.ss.length < 900) ∧ H t = some (.tup a.vs) ∧ a.lists H ∧ a.fine ∧
  refusal8 N W a = some c ∧ c.ask ∧ ∀ H', Same H H' → Q (.bl true) H'
theorem ok_l_refused (T : Txt K mg A) : DefOk P w K mg base CX0 7 A.l_refused ["_law_net", "_law_watch", "_law_asking", "_law_due"] (spRefused A) := by
  obtain ⟨_, G_l_asked, B_l_asked, K_l_asked⟩ := ok_l_asked (P := P) (w := w) (base := base) T
  obtain ⟨_, G_l_of_one_class, B_l_of_one_class, K_l_of_one_class⟩ := ok_l_of_one_class (P := P) (w := w) (mg := mg) (base := base) T
  obtain ⟨fd, F⟩ := T.F_l_refused
  refine ⟨fd, ?_, F.binds (ps := ["_law_net", "_law_watch", "_law_asking", "_law_due"]) fun _ _ _ _ _ _ us hl => match us, hl with | [_, _, _, _], _ => rfl, F.kp⟩
  refine F.ok sc_l_refused (fun vs H Q E h => ?_) (fun cdv A' outer s H vs Q E hr h => ?_)
  · obtain ⟨n, g, r, p, sd, t, N, W, a, c, rfl, _⟩ := h
    rfl
  · obtain ⟨n, g, r, p, sd, t, N, W, a, c, rfl, hN, nok, hW, wl, wss, ht, hls, hok, hc, cn, q⟩ := h
    have hu := hu_of hr
    refine ⟨_, (pss_cons (ps_try_as (i := 4) (tb := tb_l_refused K A) rfl rfl sc_l_refused.nd rfl rfl ⟨rfl, by decide, .inl T.e_TollError.g⟩ takes0 (fun W pn xe tk _ => (pss_one (ps_expr (pe_callS G_l_asked (hr.mono (by decide)) rfl T.m_l_asked K_l_asked B_l_asked (fun σ => passAt tk σ) (pa_cons (pv 0) (pa_cons (pv 1) (pa_cons (pv 2) pa_nil))))))) (fun a oe cls d pn hz hf => (pss_cons (ps_set (i := 5) sc_l_refused.nd rfl (by first | exact Or.inl rfl | exact Or.inr rfl) (pe_disp (pps_cons pe_str (pe_callB (id := "isinstance") (r := rIsP K cls d a) (call_isP (a := a) List.mem_cons_self hz hf) (by rfl) T.b_isinstance (by decide +kernel) (pa_cons (pv 4) (pa_cons (pe_glob (v := .ref A.C_NoName) rfl T.e_NoName.g rfl) pa_nil))) (pps_cons pe_str (pe_callB (id := "isinstance") (r := rIsP K cls d a) (call_isP (a := a) List.mem_cons_self hz hf) (by rfl) T.b_isinstance (by decide +kernel) (pa_cons (pv 4) (pa_cons (pe_glob (v := .ref A.C_NoGate) rfl T.e_NoGate.g rfl) pa_nil))) (pps_cons pe_str (pe_callB (id := "isinstance") (r := rIsP K cls d a) (call_isP (a := a) List.mem_cons_self hz hf) (by rfl) T.b_isinstance (by decide +kernel) (pa_cons (pv 4) (pa_cons (pe_glob (v := .ref A.C_Blind) rfl T.e_Blind.g rfl) pa_nil))) pps_nil))) (by rfl) (by rfl) (fun z => by cases z) (by decide)))
      (pss_cons (ps_dput hu (pv 5) pe_str (pe_callB (id := "isinstance") (r := rIsP K cls d a) (call_isP (a := a) List.mem_cons_self hz hf) (by rfl) T.b_isinstance (by decide +kernel) (pa_cons (pv 4) (pa_cons (pe_glob (v := .ref A.C_NoTime) rfl T.e_NoTime.g rfl) pa_nil))) rfl)
      (pss_cons (ps_dput hu (pv 5) pe_str (pe_callB (id := "isinstance") (r := rIsP K cls d a) (call_isP (a := a) List.mem_cons_self hz hf) (by rfl) T.b_isinstance (by decide +kernel) (pa_cons (pv 4) (pa_cons (pe_glob (v := .ref A.C_NoCar) rfl T.e_NoCar.g rfl) pa_nil))) rfl)
      (pss_cons (ps_dput hu (pv 5) pe_str (pe_callB (id := "isinstance") (r := rIsP K cls d a) (call_isP (a := a) List.mem_cons_self hz hf) (by rfl) T.b_isinstance (by decide +kernel) (pa_cons (pv 4) (pa_cons (pe_glob (v := .ref A.C_NoNumber) rfl T.e_NoNumber.g rfl) pa_nil))) rfl)
      (pss_cons (ps_dput hu (pv 5) pe_str (pe_callB (id := "isinstance") (r := rIsP K cls d a) (call_isP (a := a) List.mem_cons_self hz hf) (by rfl) T.b_isinstance (by decide +kernel) (pa_cons (pv 4) (pa_cons (pe_glob (v := .ref A.C_NoSight) rfl T.e_NoSight.g rfl) pa_nil))) rfl)
      (pss_one (ps_ret (pe_and (pe_dget hu (pv 5) (pv 3) (fun _ _ => rfl)) (pe_one (pe_held G_l_of_one_class List.mem_cons_self hz hf (room_mark hr (by decide) _) rfl T.m_l_of_one_class K_l_of_one_class B_l_of_one_class (pa_cons (pv 4) pa_nil)))))))))))))
      (pss_one (ps_ret pe_bl))), ?_⟩
    walk_at "go"
    refine ⟨n, g, r, p, sd, t, N, W, a, rfl, hN, nok, hW, wl, wss, ht, hls, hok, fun c' e H1 s1 => ?_, fun z => by rw [hc] at z; cases z⟩
    rw [hc] at e
    obtain rfl : c = c' := Option.some.inj e
    refine ⟨true, toll_err T c, fun _ a ha => ?_, fun z => by cases z⟩
    dsimp only [List.set]
    walk_at "go"
    intro Wd nWd
    walk_at "go"
    refine ⟨_, _, _, _, rfl, rfl, excC T c, rfl, ClsV.own _, isin T c .NoName, ?_⟩
    walk_at "go"
    refine ⟨_, _, _, _, rfl, rfl, excC T c, rfl, ClsV.own _, isin T c .NoGate, ?_⟩
    walk_at "go"
    refine ⟨_, _, _, _, rfl, rfl, excC T c, rfl, ClsV.own _, isin T c .Blind, ?_⟩
    walk_at "go"
    refine ⟨upd_same, [(Sum.inr Rf.NoName.word, V.bl (decide (c = .NoName))), (Sum.inr Rf.NoGate.word, V.bl (decide (c = .NoGate))), (Sum.inr Rf.Blind.word, V.bl (decide (c = .Blind)))], rfl, (by show 3 ≤ 15; decide), ?_⟩
    have l0 : (mergeK ([] : List (Key × V)) [((Sum.inr Rf.NoName.word : Key), V.bl (decide (c = .NoName))), (Sum.inr Rf.NoGate.word, V.bl (decide (c = .NoGate))), (Sum.inr Rf.Blind.word, V.bl (decide (c = .Blind)))]).length ≤ 3 := by
      show (putK (putK (putK ([] : List (Key × V)) (Sum.inr Rf.NoName.word) (V.bl (decide (c = .NoName)))) (Sum.inr Rf.NoGate.word) (V.bl (decide (c = .NoGate)))) (Sum.inr Rf.Blind.word) (V.bl (decide (c = .Blind)))).length ≤ 3
      exact Nat.le_trans (length_putK ..) (Nat.succ_le_succ (Nat.le_trans (length_putK ..) (Nat.succ_le_succ (length_putK ..))))
    have w0 : wanted8 c = wK c .NoSight (wK c .NoNumber (wK c .NoCar (wK c .NoTime (mergeK [] [((Sum.inr Rf.NoName.word : Key), V.bl (decide (c = .NoName))), (Sum.inr Rf.NoGate.word, V.bl (decide (c = .NoGate))), (Sum.inr Rf.Blind.word, V.bl (decide (c = .Blind)))])))) := rfl
    generalize mergeK ([] : List (Key × V)) [((Sum.inr Rf.NoName.word : Key), V.bl (decide (c = .NoName))), (Sum.inr Rf.NoGate.word, V.bl (decide (c = .NoGate))), (Sum.inr Rf.Blind.word, V.bl (decide (c = .Blind)))] = k0 at l0 w0
    have s2 : Same H1 (upd (upd H1 Wd (.dK [])) Wd (.dK k0)) := same_new (same_up nWd) nWd
    have h2 : (upd (upd H1 Wd (.dK [])) Wd (.dK k0)) Wd = some (.dK k0) := upd_same
    generalize upd (upd H1 Wd (.dK [])) Wd (.dK k0) = H2 at s2 h2
    walk_at "go"
    refine ⟨_, _, _, _, rfl, rfl, excC T c, rfl, ClsV.own _, isin T c .NoTime, ?_⟩
    walk_at "go"
    refine ⟨Wd, _, rfl, DPut.k (k := Sum.inr Rf.NoTime.word) h2 (small1000 (by omega)), ?_⟩
    have l1 := wK_len c .NoTime l0
    have s3 : Same H1 (upd H2 Wd (.dK (wK c .NoTime k0))) := same_new s2 nWd
    have h3 : (upd H2 Wd (.dK (wK c .NoTime k0))) Wd = some (.dK (wK c .NoTime k0)) := upd_same
    rw [show putK k0 (Sum.inr Rf.NoTime.word : Key) (V.bl (decide (c = .NoTime))) = wK c .NoTime k0 from rfl]
    generalize upd H2 Wd (.dK (wK c .NoTime k0)) = H3 at s3 h3
    generalize ek1 : wK c .NoTime k0 = k1 at l1 h3 w0
    walk_at "go"
    refine ⟨_, _, _, _, rfl, rfl, excC T c, rfl, ClsV.own _, isin T c .NoCar, ?_⟩
    walk_at "go"
    refine ⟨Wd, _, rfl, DPut.k (k := Sum.inr Rf.NoCar.word) h3 (small1000 (by omega)), ?_⟩
    have l2 := wK_len c .NoCar l1
    have s4 : Same H1 (upd H3 Wd (.dK (wK c .NoCar k1))) := same_new s3 nWd
    have h4 : (upd H3 Wd (.dK (wK c .NoCar k1))) Wd = some (.dK (wK c .NoCar k1)) := upd_same
    rw [show putK k1 (Sum.inr Rf.NoCar.word : Key) (V.bl (decide (c = .NoCar))) = wK c .NoCar k1 from rfl]
    generalize upd H3 Wd (.dK (wK c .NoCar k1)) = H4 at s4 h4
    generalize ek2 : wK c .NoCar k1 = k2 at l2 h4 w0
    walk_at "go"
    refine ⟨_, _, _, _, rfl, rfl, excC T c, rfl, ClsV.own _, isin T c .NoNumber, ?_⟩
    walk_at "go"
    refine ⟨Wd, _, rfl, DPut.k (k := Sum.inr Rf.NoNumber.word) h4 (small1000 (by omega)), ?_⟩
    have l3 := wK_len c .NoNumber l2
    have s5 : Same H1 (upd H4 Wd (.dK (wK c .NoNumber k2))) := same_new s4 nWd
    have h5 : (upd H4 Wd (.dK (wK c .NoNumber k2))) Wd = some (.dK (wK c .NoNumber k2)) := upd_same
    rw [show putK k2 (Sum.inr Rf.NoNumber.word : Key) (V.bl (decide (c = .NoNumber))) = wK c .NoNumber k2 from rfl]
    generalize upd H4 Wd (.dK (wK c .NoNumber k2)) = H5 at s5 h5
    generalize ek3 : wK c .NoNumber k2 = k3 at l3 h5 w0
    walk_at "go"
    refine ⟨_, _, _, _, rfl, rfl, excC T c, rfl, ClsV.own _, isin T c .NoSight, ?_⟩
    walk_at "go"
    refine ⟨Wd, _, rfl, DPut.k (k := Sum.inr Rf.NoSight.word) h5 (small1000 (by omega)), ?_⟩
    have l4 := wK_len c .NoSight l3
    have s6 : Same H1 (upd H5 Wd (.dK (wK c .NoSight k3))) := same_new s5 nWd
    have h6 : (upd H5 Wd (.dK (wK c .NoSight k3))) Wd = some (.dK (wK c .NoSight k3)) := upd_same
    rw [show putK k3 (Sum.inr Rf.NoSight.word : Key) (V.bl (decide (c = .NoSight))) = wK c .NoSight k3 from rfl]
    generalize upd H5 Wd (.dK (wK c .NoSight k3)) = H6 at s6 h6
    generalize ek4 : wK c .NoSight k3 = k4 at l4 h6 w0
    walk_at "go"
    have hd : DGet H6 Wd (.str c.word) (some (.bl true)) := by
      have := DGet.k (k := Sum.inr c.word) h6
      rw [← w0, wanted_at cn] at this
      exact this
    refine ⟨Wd, _, rfl, hd, ?_⟩
    walk_at "go"
    exact fun H' s => q _ (s1.trans (s6.trans s))
end
end Toll

set_option Elab.async false
set_option linter.all false
set_option maxRecDepth 100000
set_option maxHeartbeats 4000000
namespace Toll
open PySem L2
local macro_rules | `(tactic| walk_at "go1") => `(tactic| first
  | refine ⟨_, rfl, ?_⟩
  | refine ⟨rfl, ?_⟩
  | refine ⟨_, _, rfl, rfl, ?_⟩
  | refine ⟨_, _, rfl, ?_⟩
  | (with_reducible refine' ⟨log_small ?k1 ?k2, ?_⟩; (case k1 => omega); (case k2 => omega))
  | (refine' ⟨?k1, ?_⟩; (case k1 => ((with_reducible show (_ : Int) < _); omega)))
  | (refine' ⟨⟨?k1, ?k2⟩, ?_⟩; (case k1 => omega); (case k2 => omega))
  | (refine' ⟨⟨?k1, ?k2, ?k3, ?k4⟩, ?_⟩; (case k1 => omega); (case k2 => omega); (case k3 => omega); (case k4 => omega))
  | (refine' ⟨.inl ⟨?k1, ?k2⟩, ?_⟩; (case k1 => omega); (case k2 => omega))
  | (refine' ⟨.inr ⟨?k1, ?k2⟩, ?_⟩; (case k1 => omega); (case k2 => omega))
  | (refine' ⟨Evl.sz_of ?k1, ?_⟩; (case k1 => omega))
  | (refine' ⟨?k1, ?_⟩; (case k1 => ((with_reducible show (_ : Int) ≤ _); omega)))
  | refine ⟨⟨_, rfl⟩, ?_⟩
  | refine .inl ⟨_, rfl, ?_⟩ | refine .inr ⟨_, rfl, ?_⟩
  | refine iteT ?_ | refine iteF ?_)
local macro_rules | `(tactic| walk_at "go") => `(tactic| repeat (walk_at "go1"))
local macro_rules | `(tactic| walk_at "ans") => `(tactic| (intro Q' q'; walk_at "go"; (try rw [dec_int]); (try rw [dec_str]); exact q'))
local macro_rules | `(tactic| walk_at "hp") => `(tactic| first | assumption | exact upd_same | (refine' up_same ?e ?h; (case e => assumption); (case h => walk_at "hp")) | (refine' upd_at ?n ?h; (case n => walk_at "ne"); (case h => walk_at "hp")))
local macro_rules | `(tactic| walk_at "ne") => `(tactic| first | assumption | (apply Ne.symm; assumption))
local macro_rules | `(tactic| walk_at "at") => `(tactic| first | exact atI_nat (j := 0) rfl | exact atI_nat (j := 1) rfl | exact atI_nat (j := 2) rfl | exact atI_nat (j := 3) rfl | exact atI_nat (j := 4) rfl)
local macro_rules | `(tactic| walk_at "step1") => `(tactic| first
  | walk_at "go1"
  | (apply ixL_step; (case h => walk_at "hp"); (case a => walk_at "at"))
  | (apply ixT_step; (case h => walk_at "hp"); (case a => walk_at "at"))
  | (apply lenL_step; (case h => walk_at "hp")))
local macro_rules | `(tactic| walk_at "step") => `(tactic| repeat (walk_at "step1"))
section
variable {P : Program} {w : World} {K : PySem.W.Frag} {mg : Str → Option Value} {base : Heap} {A : Ads}
def spBad8 (A : Ads) : Sp := fun vs H Q _ => ∃ (num : Int) (Nm : Addr) (n0 n1 n2 c3 c4 c5 : Str), vs = [.int num, .ref Nm] ∧ 0 ≤ num ∧ num < 2147483648 ∧ NameOk c4 ∧ H Nm = some (.lst [.str n0, .str n1, .str n2, .str c3, .str c4, .str c5]) ∧
  ∀ (H' : Hp) (L t : Addr) (a : A8) (c : Rf), Same H H' → H' L = some (.lst [.ref t, .str c.word]) → H' t = some (.tup a.vs) → a.lists H' → K8 n0 n1 n2 c3 c5 a c → Q (.ref L) H'
theorem ok_l_bad_sight (T : Txt K mg A) : DefOk P w K mg base CX0 1 A.l_bad_sight ["_law_number", "_law_names"] (spBad8 A) := by
  obtain ⟨fd, F⟩ := T.F_l_bad_sight
  refine ⟨fd, ?_, F.binds (ps := ["_law_number", "_law_names"]) fun _ _ _ _ _ _ us hl => match us, hl with | [_, _], _ => rfl, F.kp⟩
  refine F.ok sc_l_bad_sight (fun vs H Q E h => ?_) (fun cdv A' outer s H vs Q E hr h => ?_)
  · obtain ⟨num, Nm, n0, n1, n2, c3, c4, c5, rfl, _⟩ := h
    rfl
  · obtain ⟨num, Nm, n0, n1, n2, c3, c4, c5, rfl, m0, m1, ok4, hNm, q⟩ := h
    refine ⟨_, (pss_cons (ps_set (i := 2) sc_l_bad_sight.nd rfl (by first | exact Or.inl rfl | exact Or.inr rfl) (pe_ix (r := rIxL K) ix_list (pe_lst (pa_cons (pe_op op_sub (pe_un un_neg pe_int) (pe_op op_mod (pe_op op_fdiv (pv 0) pe_int) pe_int)) (pa_cons (pe_op op_add (pe_op op_add (pe_op op_pow pe_int pe_int) pe_int) (pe_op op_mod (pe_op op_fdiv (pv 0) pe_int) pe_int)) pa_nil))) (pe_op op_mod (pv 0) pe_int) (fun _ _ => rfl)))
      (pss_cons (ps_set (i := 3) sc_l_bad_sight.nd rfl (by first | exact Or.inl rfl | exact Or.inr rfl) (pe_op op_mul (pe_op op_mod (pe_op op_fdiv (pv 0) pe_int) pe_int) pe_int))
      (pss_cons (ps_if (pt_cmpR op_eq (pe_op op_mod (pe_op op_fdiv (pv 0) pe_int) pe_int) pe_int (nomark _)) (pss_one (ps_ret (pe_lst (pa_cons (pe_tup (pa_cons pe_str (pa_cons (pe_op op_add_str (pe_ix (r := rIxL K) ix_list (pv 1) pe_int (fun _ _ => rfl)) pe_str) (pa_cons (pe_ix (r := rIxL K) ix_list (pe_lst (pa_cons (pe_ix (r := rIxL K) ix_list (pv 1) pe_int (fun _ _ => rfl)) (pa_cons (pe_ix (r := rIxL K) ix_list (pv 1) pe_int (fun _ _ => rfl)) pa_nil))) (pe_op op_mod (pv 0) pe_int) (fun _ _ => rfl)) (pa_cons (pv 2) pa_nil))))) (pa_cons pe_str pa_nil))))) pss_nil)
      (pss_cons (ps_if (pt_cmpR op_eq (pe_op op_mod (pe_op op_fdiv (pv 0) pe_int) pe_int) pe_int (nomark _)) (pss_one (ps_ret (pe_lst (pa_cons (pe_tup (pa_cons pe_str (pa_cons (pe_ix (r := rIxL K) ix_list (pv 1) pe_int (fun _ _ => rfl)) (pa_cons (pe_ix (r := rIxL K) ix_list (pv 1) pe_int (fun _ _ => rfl)) (pa_cons (pe_ix (r := rIxL K) ix_list (pe_lst (pa_cons (pv 2) (pa_cons (pv 3) pa_nil))) (pe_op op_mod (pv 0) pe_int) (fun _ _ => rfl)) pa_nil))))) (pa_cons pe_str pa_nil))))) pss_nil)
      (pss_cons (ps_if (pt_cmpR op_eq (pe_op op_mod (pe_op op_fdiv (pv 0) pe_int) pe_int) pe_int (nomark _)) (pss_one (ps_ret (pe_lst (pa_cons (pe_tup (pa_cons pe_str (pa_cons (pe_ix (r := rIxL K) ix_list (pv 1) pe_int (fun _ _ => rfl)) (pa_cons (pe_ix (r := rIxL K) ix_list (pv 1) pe_int (fun _ _ => rfl)) (pa_cons (pe_ix (r := rIxL K) ix_list (pe_lst (pa_cons (pv 2) (pa_cons (pv 3) pa_nil))) (pe_op op_mod (pv 0) pe_int) (fun _ _ => rfl)) pa_nil))))) (pa_cons pe_str pa_nil))))) pss_nil)
      (pss_one (ps_ret (pe_lst (pa_cons (pe_tup (pa_cons pe_str (pa_cons (pe_ix (r := rIxL K) ix_list (pv 1) pe_int (fun _ _ => rfl)) (pa_cons (pe_ix (r := rIxL K) ix_list (pv 1) pe_int (fun _ _ => rfl)) (pa_cons (pv 2) pa_nil))))) (pa_cons pe_str pa_nil)))))))))), ?_⟩
    have e9 : (10 : Int) ^ Int.toNat 9 = 1000000000 := by decide
    walk_at "go"
    refine ⟨(by show 2 ≤ sizeLine; decide), fun L0 x0 => ?_⟩
    walk_at "go"
    obtain ⟨k, ek, hk⟩ := mod_nat num (n := 2) (by decide)
    have ek : num % 2 = (k : Int) := ek
    obtain ⟨tm, htm, tlo, thi, tout⟩ : ∃ tm : Int, ([V.int (-1 - num / 4 % 9), V.int (10 ^ Int.toNat 9 + 1 + num / 4 % 9)] : List V)[k]? = some (.int tm) ∧ -2000000000 ≤ tm ∧ tm ≤ 2000000000 ∧ ¬ (0 ≤ tm ∧ tm ≤ 1000000000) := by
      rw [e9]
      rcases (by omega : k = 0 ∨ k = 1) with rfl | rfl <;> exact ⟨_, rfl, by omega, by omega, by omega⟩
    refine ⟨L0, _, _, .int tm, rfl, rfl, SqL.of upd_same, atI_of (j := k) ek htm, ?_⟩
    have s0 : Same H (upd H L0 (HO.lst [V.int (-1 - num / 4 % 9), V.int (10 ^ Int.toNat 9 + 1 + num / 4 % 9)])) := same_up x0
    generalize upd H L0 (HO.lst [V.int (-1 - num / 4 % 9), V.int (10 ^ Int.toNat 9 + 1 + num / 4 % 9)]) = H0 at s0
    clear htm
    have hN0 := s0 _ _ hNm
    walk_at "go"
    refine ite2 (fun b1 => ?_) (fun b1 => ?_)
    · walk_at "go"
      refine ⟨Nm, _, _, _, rfl, rfl, SqL.of hN0, atI_nat (j := 4) rfl, ?_⟩
      walk_at "go"
      have e1 : (Str.ofString "-").length = 1 := by decide +kernel
      have l4 := ok4.1
      refine ⟨Evl.sz_of (by rw [e1]; omega), ?_⟩
      walk_at "go"
      refine ⟨Nm, _, _, _, rfl, rfl, SqL.of hN0, atI_nat (j := 0) rfl, ?_⟩
      walk_at "go"
      refine ⟨Nm, _, _, _, rfl, rfl, SqL.of hN0, atI_nat (j := 2) rfl, ?_⟩
      walk_at "go"
      refine ⟨(by show 2 ≤ sizeLine; decide), fun L1 x1 => ?_⟩
      walk_at "go"
      obtain ⟨gt, hg, eg⟩ : ∃ gt : Str, ([V.str n0, V.str n2] : List V)[k]? = some (.str gt) ∧ (gt = n0 ∨ gt = n2) := by
        rcases (by omega : k = 0 ∨ k = 1) with rfl | rfl
        · exact ⟨_, rfl, .inl rfl⟩
        · exact ⟨_, rfl, .inr rfl⟩
      refine ⟨L1, _, _, .str gt, rfl, rfl, SqL.of upd_same, atI_of (j := k) ek hg, ?_⟩
      have s1 := same_up (o := HO.lst [V.str n0, V.str n2]) x1
      generalize upd H0 L1 (HO.lst [V.str n0, V.str n2]) = H1 at s1
      walk_at "go"
      refine ⟨(by show 4 ≤ sizeLine; decide), fun t xt => ?_⟩
      walk_at "go"
      refine ⟨(by show 2 ≤ sizeLine; decide), fun L xL => ?_⟩
      exact q _ L t (.saw (c4 ++ "-") gt tm) .NoName (s0.trans (s1.trans ((same_up xt).trans (same_up xL)))) upd_same (same_up xL _ _ upd_same) trivial (.s0 (bad_dash ok4) eg (abs_small tlo thi))
    walk_at "go"
    refine ite2 (fun b2 => ?_) (fun b2 => ?_)
    · walk_at "go"
      refine ⟨Nm, _, _, _, rfl, rfl, SqL.of hN0, atI_nat (j := 3) rfl, ?_⟩
      walk_at "go"
      refine ⟨Nm, _, _, _, rfl, rfl, SqL.of hN0, atI_nat (j := 2) rfl, ?_⟩
      walk_at "go"
      refine ⟨(by show 2 ≤ sizeLine; decide), fun L1 x1 => ?_⟩
      walk_at "go"
      obtain ⟨t2, ht2, t2lo, t2hi⟩ : ∃ t2 : Int, ([V.int tm, V.int (num / 2 % 2 * 7)] : List V)[k]? = some (.int t2) ∧ -2000000000 ≤ t2 ∧ t2 ≤ 2000000000 := by
        rcases (by omega : k = 0 ∨ k = 1) with rfl | rfl
        · exact ⟨_, rfl, tlo, thi⟩
        · exact ⟨_, rfl, by omega, by omega⟩
      refine ⟨L1, _, _, .int t2, rfl, rfl, SqL.of upd_same, atI_of (j := k) ek ht2, ?_⟩
      have s1 := same_up (o := HO.lst [V.int tm, V.int (num / 2 % 2 * 7)]) x1
      generalize upd H0 L1 (HO.lst [V.int tm, V.int (num / 2 % 2 * 7)]) = H1 at s1
      walk_at "go"
      refine ⟨(by show 4 ≤ sizeLine; decide), fun t xt => ?_⟩
      walk_at "go"
      refine ⟨(by show 2 ≤ sizeLine; decide), fun L xL => ?_⟩
      exact q _ L t (.saw c3 n2 t2) .NoGate (s0.trans (s1.trans ((same_up xt).trans (same_up xL)))) upd_same (same_up xL _ _ upd_same) trivial (.s1 (abs_small t2lo t2hi))
    walk_at "go"
    refine ite2 (fun b3 => ?_) (fun b3 => ?_)
    · walk_at "go"
      refine ⟨Nm, _, _, _, rfl, rfl, SqL.of hN0, atI_nat (j := 3) rfl, ?_⟩
      walk_at "go"
      refine ⟨Nm, _, _, _, rfl, rfl, SqL.of hN0, atI_nat (j := 1) rfl, ?_⟩
      walk_at "go"
      refine ⟨(by show 2 ≤ sizeLine; decide), fun L1 x1 => ?_⟩
      walk_at "go"
      obtain ⟨t2, ht2, t2lo, t2hi⟩ : ∃ t2 : Int, ([V.int tm, V.int (num / 2 % 2 * 7)] : List V)[k]? = some (.int t2) ∧ -2000000000 ≤ t2 ∧ t2 ≤ 2000000000 := by
        rcases (by omega : k = 0 ∨ k = 1) with rfl | rfl
        · exact ⟨_, rfl, tlo, thi⟩
        · exact ⟨_, rfl, by omega, by omega⟩
      refine ⟨L1, _, _, .int t2, rfl, rfl, SqL.of upd_same, atI_of (j := k) ek ht2, ?_⟩
      have s1 := same_up (o := HO.lst [V.int tm, V.int (num / 2 % 2 * 7)]) x1
      generalize upd H0 L1 (HO.lst [V.int tm, V.int (num / 2 % 2 * 7)]) = H1 at s1
      walk_at "go"
      refine ⟨(by show 4 ≤ sizeLine; decide), fun t xt => ?_⟩
      walk_at "go"
      refine ⟨(by show 2 ≤ sizeLine; decide), fun L xL => ?_⟩
      exact q _ L t (.saw c3 n1 t2) .Blind (s0.trans (s1.trans ((same_up xt).trans (same_up xL)))) upd_same (same_up xL _ _ upd_same) trivial (.s2 (abs_small t2lo t2hi))
    walk_at "go"
    refine ⟨Nm, _, _, _, rfl, rfl, SqL.of hN0, atI_nat (j := 3) rfl, ?_⟩
    walk_at "go"
    refine ⟨Nm, _, _, _, rfl, rfl, SqL.of hN0, atI_nat (j := 0) rfl, ?_⟩
    walk_at "go"
    refine ⟨(by show 4 ≤ sizeLine; decide), fun t xt => ?_⟩
    walk_at "go"
    refine ⟨(by show 2 ≤ sizeLine; decide), fun L xL => ?_⟩
    exact q _ L t (.saw c3 n0 tm) .NoTime (s0.trans ((same_up xt).trans (same_up xL))) upd_same (same_up xL _ _ upd_same) trivial (.s3 (abs_small tlo thi) tout)
end
end Toll

set_option Elab.async false
set_option linter.all false
set_option maxRecDepth 100000
set_option maxHeartbeats 4000000
namespace Toll
open PySem L2
local macro_rules | `(tactic| walk_at "go1") => `(tactic| first
  | refine ⟨_, rfl, ?_⟩
  | refine ⟨rfl, ?_⟩
  | refine ⟨_, _, rfl, rfl, ?_⟩
  | refine ⟨_, _, rfl, ?_⟩
  | (with_reducible refine' ⟨log_small ?k1 ?k2, ?_⟩; (case k1 => omega); (case k2 => omega))
  | (refine' ⟨?k1, ?_⟩; (case k1 => ((with_reducible show (_ : Int) < _); omega)))
  | (refine' ⟨⟨?k1, ?k2⟩, ?_⟩; (case k1 => omega); (case k2 => omega))
  | (refine' ⟨⟨?k1, ?k2, ?k3, ?k4⟩, ?_⟩; (case k1 => omega); (case k2 => omega); (case k3 => omega); (case k4 => omega))
  | (refine' ⟨.inl ⟨?k1, ?k2⟩, ?_⟩; (case k1 => omega); (case k2 => omega))
  | (refine' ⟨.inr ⟨?k1, ?k2⟩, ?_⟩; (case k1 => omega); (case k2 => omega))
  | (refine' ⟨Evl.sz_of ?k1, ?_⟩; (case k1 => omega))
  | (refine' ⟨?k1, ?_⟩; (case k1 => ((with_reducible show (_ : Int) ≤ _); omega)))
  | refine ⟨⟨_, rfl⟩, ?_⟩
  | refine .inl ⟨_, rfl, ?_⟩ | refine .inr ⟨_, rfl, ?_⟩
  | refine iteT ?_ | refine iteF ?_)
local macro_rules | `(tactic| walk_at "go") => `(tactic| repeat (walk_at "go1"))
local macro_rules | `(tactic| walk_at "ans") => `(tactic| (intro Q' q'; walk_at "go"; (try rw [dec_int]); (try rw [dec_str]); exact q'))
local macro_rules | `(tactic| walk_at "hp") => `(tactic| first | assumption | exact upd_same | (refine' up_same ?e ?h; (case e => assumption); (case h => walk_at "hp")) | (refine' upd_at ?n ?h; (case n => walk_at "ne"); (case h => walk_at "hp")))
local macro_rules | `(tactic| walk_at "ne") => `(tactic| first | assumption | (apply Ne.symm; assumption))
local macro_rules | `(tactic| walk_at "at") => `(tactic| first | exact atI_nat (j := 0) rfl | exact atI_nat (j := 1) rfl | exact atI_nat (j := 2) rfl | exact atI_nat (j := 3) rfl | exact atI_nat (j := 4) rfl)
local macro_rules | `(tactic| walk_at "step1") => `(tactic| first
  | walk_at "go1"
  | (apply ixL_step; (case h => walk_at "hp"); (case a => walk_at "at"))
  | (apply ixT_step; (case h => walk_at "hp"); (case a => walk_at "at"))
  | (apply lenL_step; (case h => walk_at "hp")))
local macro_rules | `(tactic| walk_at "step") => `(tactic| repeat (walk_at "step1"))
section
variable {P : Program} {w : World} {K : PySem.W.Frag} {mg : Str → Option Value} {base : Heap} {A : Ads}
theorem ok_l_bad_seen (T : Txt K mg A) : DefOk P w K mg base CX0 1 A.l_bad_seen ["_law_number", "_law_names"] (spBad8 A) := by
  obtain ⟨fd, F⟩ := T.F_l_bad_seen
  refine ⟨fd, ?_, F.binds (ps := ["_law_number", "_law_names"]) fun _ _ _ _ _ _ us hl => match us, hl with | [_, _], _ => rfl, F.kp⟩
  refine F.ok sc_l_bad_seen (fun vs H Q E h => ?_) (fun cdv A' outer s H vs Q E hr h => ?_)
  · obtain ⟨num, Nm, n0, n1, n2, c3, c4, c5, rfl, _⟩ := h
    rfl
  · obtain ⟨num, Nm, n0, n1, n2, c3, c4, c5, rfl, m0, m1, ok4, hNm, q⟩ := h
    refine ⟨_, (pss_cons (ps_set (i := 2) sc_l_bad_seen.nd rfl (by first | exact Or.inl rfl | exact Or.inr rfl) (pe_op op_add pe_int (pe_op op_mod (pv 0) pe_int)))
      (pss_cons (ps_setLc (i := 3) (own := [("_law_k", 5)]) rfl sc_l_bad_seen.nd rfl rfl (sw_true rfl rfl rfl (by decide +kernel)) (pi_range1 (by rfl) T.b_range (pa_cons (pv 2) pa_nil)) (blkOk_by (own := [("_law_k", 5)]) (N := n_l_bad_seen) (sc := defScope s_l_bad_seen) (by decide +kernel)) (fun _ _ _ _ _ => (pg_name (i := 5) sc_l_bad_seen.nd rfl (by first | exact Or.inl rfl | exact Or.inr rfl))) (fun _ _ _ _ _ => pts_nil) (fun _ _ _ _ _ => (pe_tup (pa_cons (pe_op op_mul pe_int (pv 5)) (pa_cons (pe_ix (r := rIxL K) ix_list (pv 1) (pe_op op_mod (pv 5) pe_int) (fun _ _ => rfl)) pa_nil)))))
      (pss_cons (ps_set (i := 4) sc_l_bad_seen.nd rfl (by first | exact Or.inl rfl | exact Or.inr rfl) (pe_op op_mod (pe_op op_fdiv (pv 0) pe_int) (pv 2)))
      (pss_cons (ps_if (pt_cmpR op_eq (pe_op op_mod (pe_op op_fdiv (pv 0) pe_int) pe_int) pe_int (nomark _)) (pss_one (ps_ret (pe_lst (pa_cons (pe_tup (pa_cons pe_str (pa_cons (pe_lst pa_nil) pa_nil))) (pa_cons pe_str pa_nil))))) pss_nil)
      (pss_cons (ps_if (pt_cmpR op_eq (pe_op op_mod (pe_op op_fdiv (pv 0) pe_int) pe_int) pe_int (nomark _)) (pss_cons (ps_asg (pe_tup (pa_cons (pe_ix (r := rIxL K) ix_list (pe_lst (pa_cons (pe_op op_mul pe_int (pv 4)) (pa_cons (pe_un un_neg pe_int) pa_nil))) (pe_op op_mod (pe_op op_fdiv (pv 0) pe_int) pe_int) (fun _ _ => rfl)) (pa_cons (pe_ix (r := rIxL K) ix_list (pv 1) pe_int (fun _ _ => rfl)) pa_nil))) (pg_sub (pv 3) (pv 4) set_list))
      (pss_one (ps_ret (pe_lst (pa_cons (pe_tup (pa_cons pe_str (pa_cons (pv 3) pa_nil))) (pa_cons pe_str pa_nil)))))) pss_nil)
      (pss_cons (ps_if (pt_cmpR op_eq (pe_op op_mod (pe_op op_fdiv (pv 0) pe_int) pe_int) pe_int (nomark _)) (pss_cons (ps_asg (pe_tup (pa_cons (pe_op op_sub (pe_un un_neg pe_int) (pe_op op_mod (pe_op op_fdiv (pv 0) pe_int) pe_int)) (pa_cons (pe_ix (r := rIxT K) ix_tup (pe_ix (r := rIxL K) ix_list (pv 3) pe_int (fun _ _ => rfl)) pe_int (fun _ _ => rfl)) pa_nil))) (pg_sub (pv 3) pe_int set_list))
      (pss_one (ps_ret (pe_lst (pa_cons (pe_tup (pa_cons pe_str (pa_cons (pe_op op_cat (pv 3) (pe_lst (pa_cons (pe_tup (pa_cons (pe_op op_mul pe_int (pv 2)) (pa_cons (pe_ix (r := rIxL K) ix_list (pv 1) pe_int (fun _ _ => rfl)) pa_nil))) pa_nil))) pa_nil))) (pa_cons pe_str pa_nil)))))) pss_nil)
      (pss_cons (ps_if (pt_cmpR op_eq (pe_op op_mod (pe_op op_fdiv (pv 0) pe_int) pe_int) pe_int (nomark _)) (pss_cons (ps_asg (pe_tup (pa_cons pe_int (pa_cons (pe_ix (r := rIxL K) ix_list (pv 1) pe_int (fun _ _ => rfl)) pa_nil))) (pg_sub (pv 3) pe_int set_list))
      (pss_one (ps_ret (pe_lst (pa_cons (pe_tup (pa_cons pe_str (pa_cons (pe_op op_cat (pv 3) (pe_lst (pa_cons (pe_tup (pa_cons (pe_op op_sub (pe_un un_neg pe_int) (pe_op op_mod (pe_op op_fdiv (pv 0) pe_int) pe_int)) (pa_cons (pe_ix (r := rIxL K) ix_list (pv 1) pe_int (fun _ _ => rfl)) pa_nil))) pa_nil))) pa_nil))) (pa_cons pe_str pa_nil)))))) pss_nil)
      (pss_cons (ps_if (PW.pt (pw_or (pt_cmpR op_eq (pe_op op_mod (pe_op op_fdiv (pv 0) pe_int) pe_int) pe_int (nomark _)) (pw_or1 (pt_cmpR op_eq (pv 4) pe_int (nomark _))))) (pss_cons (ps_asg (pe_tup (pa_cons (pe_op op_sub (pe_un un_neg pe_int) (pe_op op_mod (pe_op op_fdiv (pv 0) pe_int) pe_int)) (pa_cons (pe_ix (r := rIxT K) ix_tup (pe_ix (r := rIxL K) ix_list (pv 3) pe_int (fun _ _ => rfl)) pe_int (fun _ _ => rfl)) pa_nil))) (pg_sub (pv 3) pe_int set_list))
      (pss_one (ps_ret (pe_lst (pa_cons (pe_tup (pa_cons pe_str (pa_cons (pv 3) pa_nil))) (pa_cons pe_str pa_nil)))))) pss_nil)
      (pss_cons (ps_asg (pe_tup (pa_cons (pe_op op_sub (pe_op op_sub (pe_op op_mul pe_int (pv 4)) pe_int) (pe_op op_mod (pe_op op_fdiv (pv 0) pe_int) pe_int)) (pa_cons (pe_ix (r := rIxT K) ix_tup (pe_ix (r := rIxL K) ix_list (pv 3) (pv 4) (fun _ _ => rfl)) pe_int (fun _ _ => rfl)) pa_nil))) (pg_sub (pv 3) (pv 4) set_list))
      (pss_one (ps_ret (pe_lst (pa_cons (pe_tup (pa_cons pe_str (pa_cons (pv 3) pa_nil))) (pa_cons pe_str pa_nil)))))))))))))), ?_⟩
    walk_at "go"
    obtain ⟨k0, ek0, hk0⟩ := mod_nat num (n := 6) (by decide)
    have ek0 : num % 6 = (k0 : Int) := ek0
    intro D nD
    refine lc_range (lo := 0) (n := _) (fun i H' => Same H H' ∧ ∃ us, H' D = some (.lst us) ∧ Paired (SeenV H') us (rowS n0 n1 i))
      ⟨same_up nD, [], upd_same, .nil⟩ ?_ ?_
    · rintro i H1 hi ⟨s1, us, hD, hP⟩
      have hi : i < 6 := by omega
      refine ⟨rfl, ?_⟩
      walk_at "go"
      obtain ⟨m, em, hm⟩ := mod_nat (i : Int) (n := 2) (by decide)
      have em : (i : Int) % 2 = (m : Int) := em
      rw [Int.zero_add]
      obtain ⟨z, hz, ez⟩ : ∃ z : Str, ([V.str n0, V.str n1, V.str n2, V.str c3, V.str c4, V.str c5] : List V)[m]? = some (.str z) ∧ z = (if i % 2 = 0 then n0 else n1) := by
        rcases (by omega : m = 0 ∨ m = 1) with rfl | rfl
        · exact ⟨_, rfl, by rw [if_pos (by omega)]⟩
        · exact ⟨_, rfl, by rw [if_neg (by omega)]⟩
      refine ⟨Nm, _, _, .str z, rfl, rfl, SqL.of (s1 _ _ hNm), atI_of (j := m) em hz, ?_⟩
      walk_at "go"
      refine ⟨(by show 2 ≤ sizeLine; decide), fun t xt => ?_⟩
      have st : Same H1 (upd H1 t (.tup [.int (10 * (i : Int)), .str z])) := same_up xt
      have ht : (upd H1 t (.tup [.int (10 * (i : Int)), .str z])) t = some (.tup [.int (10 * (i : Int)), .str z]) := upd_same
      have hP2 := seen_same st hP
      have hD2 := st _ _ hD
      generalize upd H1 t (.tup [.int (10 * (i : Int)), .str z]) = H2 at st ht hP2 hD2
      have hlen : us.length = i := by rw [paired_len hP, rowS_len]
      refine ⟨us, hD2, Evl.sz_lt (by omega), same_new (s1.trans st) nD, _, upd_same, ?_⟩
      rw [rowS_succ, ← ez]
      exact paired_snoc ⟨t, rfl, by
        have : t ≠ D := fun y => by rw [y, hD2] at ht; cases ht
        rw [upd_ne this]
        exact ht⟩ (seen_upd hD2 hP2)
    · rintro H1 ⟨s1, us, hD, hP⟩
      have esz : (1 + num % 6).toNat = k0 + 1 := by omega
      rw [esz] at hP
      obtain ⟨at', eat, hat⟩ := mod_nat (num / 6) (n := k0 + 1) (by omega)
      have eat : num / 6 % (1 + num % 6) = (at' : Int) := by
        rw [show (1 + num % 6) = ((k0 + 1 : Nat) : Int) by omega]
        exact eat
      have hlen : us.length = k0 + 1 := by rw [paired_len hP, rowS_len]
      have hNm1 := s1 _ _ hNm
      have fin : ∀ {H2 : Hp} (X : Addr) (ss : List (Int × Str)) (c : Rf), Same H H2 → (∃ vs, H2 X = some (.lst vs) ∧ Paired (SeenV H2) vs ss) → K8 n0 n1 n2 c3 c5 (.guess X ss) c → ∀ t L, H2 t = none → (upd H2 t (.tup [.str (Str.ofString "guess"), .ref X])) L = none → Q (.ref L) (upd (upd H2 t (.tup [.str (Str.ofString "guess"), .ref X])) L (.lst [.ref t, .str c.word])) := fun {H2} X ss c s2 hX hK t L xt xL =>
        q _ L t (.guess X ss) c (s2.trans ((same_up xt).trans (same_up xL))) upd_same (same_up xL _ _ upd_same) (by
          obtain ⟨vs, h1, h2⟩ := hX
          have s3 := (same_up (o := HO.tup [.str (Str.ofString "guess"), .ref X]) xt).trans (same_up (o := HO.lst [.ref t, .str c.word]) xL)
          exact ⟨vs, s3 _ _ h1, seen_same s3 h2⟩) hK
      walk_at "go"
      refine ite2 (fun b0 => ?_) (fun b0 => ?_)
      · walk_at "go"
        refine ⟨Nat.zero_le _, fun X xX => ?_⟩
        walk_at "go"
        refine ⟨(by show 2 ≤ sizeLine; decide), fun t xt => ?_⟩
        walk_at "go"
        refine ⟨(by show 2 ≤ sizeLine; decide), fun L xL => ?_⟩
        exact fin X [] .NoSight (s1.trans (same_up xX)) ⟨[], upd_same, .nil⟩ .g0 t L xt xL
      walk_at "go"
      refine ite2 (fun b1 => ?_) (fun b1 => ?_)
      · walk_at "go"
        refine ⟨(by show 2 ≤ sizeLine; decide), fun L1 x1 => ?_⟩
        walk_at "go"
        obtain ⟨j, ej, hj⟩ := mod_nat (num / 216) (n := 2) (by decide)
        have ej : num / 216 % 2 = (j : Int) := ej
        obtain ⟨x, hx, ex⟩ : ∃ x : Int, ([V.int (10 * (num / 6 % (1 + num % 6))), V.int (-3)] : List V)[j]? = some (.int x) ∧ (x = 10 * (at' : Int) ∨ x = -3) := by
          rcases (by omega : j = 0 ∨ j = 1) with rfl | rfl
          · exact ⟨_, rfl, .inl (by rw [eat])⟩
          · exact ⟨_, rfl, .inr rfl⟩
        refine ⟨L1, _, _, .int x, rfl, rfl, SqL.of upd_same, atI_of (j := j) ej hx, ?_⟩
        have s2 := same_up (o := HO.lst [V.int (10 * (num / 6 % (1 + num % 6))), V.int (-3)]) x1
        generalize upd H1 L1 (HO.lst [V.int (10 * (num / 6 % (1 + num % 6))), V.int (-3)]) = H2 at s2
        walk_at "go"
        refine ⟨Nm, _, _, _, rfl, rfl, SqL.of (s2 _ _ hNm1), atI_nat (j := 2) rfl, ?_⟩
        walk_at "go"
        refine ⟨(by show 2 ≤ sizeLine; decide), fun t1 xt1 => ?_⟩
        have s3 : Same H2 (upd H2 t1 (.tup [.int x, .str n2])) := same_up xt1
        have h3 : (upd H2 t1 (.tup [.int x, .str n2])) t1 = some (.tup [.int x, .str n2]) := upd_same
        generalize upd H2 t1 (.tup [.int x, .str n2]) = H3 at s3 h3
        have hD3 := s3 _ _ (s2 _ _ hD)
        have hP3 := seen_same s3 (seen_same s2 hP)
        walk_at "go"
        refine ⟨D, us, _, at', rfl, rfl, hD3, ixN_of eat (by omega), ?_⟩
        have s4 : Same H (upd H3 D (.lst (us.set at' (.ref t1)))) := same_new (s1.trans (s2.trans s3)) nD
        have hD4 : (upd H3 D (.lst (us.set at' (.ref t1)))) D = some (.lst (us.set at' (.ref t1))) := upd_same
        have hP4 : Paired (SeenV (upd H3 D (.lst (us.set at' (.ref t1))))) (us.set at' (.ref t1)) ((rowS n0 n1 (k0 + 1)).set at' (x, n2)) := paired_set ⟨t1, rfl, by
          have : t1 ≠ D := fun y => by rw [y, hD3] at h3; cases h3
          rw [upd_ne this]
          exact h3⟩ at' (seen_upd hD3 hP3)
        generalize upd H3 D (.lst (us.set at' (.ref t1))) = H4 at s4 hD4 hP4
        walk_at "go"
        refine ⟨(by show 2 ≤ sizeLine; decide), fun t xt => ?_⟩
        walk_at "go"
        refine ⟨(by show 2 ≤ sizeLine; decide), fun L xL => ?_⟩
        exact fin D _ .NoGate s4 ⟨_, hD4, hP4⟩ (.g1 (set_gss (by omega) (by omega) ⟨.inr (.inr rfl), by show x ≤ _; omega, by show _ ≤ x; omega⟩) fun N lk => ref_gate lk hat x) t L xt xL
      obtain ⟨v0, hv0, t0, ev0, ht0⟩ : ∃ v0, us[0]? = some v0 ∧ SeenV H1 v0 (0, n0) := paired_get hP (by rw [rowS_get n0 n1 (by omega)]; rfl)
      subst ev0
      have ht0 : H1 t0 = some (.tup [.int 0, .str n0]) := ht0
      walk_at "go"
      refine ite2 (fun b2 => ?_) (fun b2 => ?_)
      · walk_at "go"
        refine ⟨D, us, _, _, rfl, rfl, SqL.of hD, atI_nat (j := 0) hv0, ?_⟩
        walk_at "go"
        refine ⟨t0, _, _, _, rfl, rfl, SqT.of ht0, atI_nat (j := 1) rfl, ?_⟩
        walk_at "go"
        refine ⟨(by show 2 ≤ sizeLine; decide), fun t1 xt1 => ?_⟩
        have s2 : Same H1 (upd H1 t1 (.tup [.int (-1 - num / 216 % 50), .str n0])) := same_up xt1
        have h2 : (upd H1 t1 (.tup [.int (-1 - num / 216 % 50), .str n0])) t1 = some (.tup [.int (-1 - num / 216 % 50), .str n0]) := upd_same
        generalize upd H1 t1 (.tup [.int (-1 - num / 216 % 50), .str n0]) = H2 at s2 h2
        walk_at "go"
        refine ⟨D, us, _, 0, rfl, rfl, s2 _ _ hD, ixN_of rfl (by omega), ?_⟩
        have s4 : Same H (upd H2 D (.lst (us.set 0 (.ref t1)))) := same_new (s1.trans s2) nD
        have hD4 : (upd H2 D (.lst (us.set 0 (.ref t1)))) D = some (.lst (us.set 0 (.ref t1))) := upd_same
        have hP4 : Paired (SeenV (upd H2 D (.lst (us.set 0 (.ref t1))))) (us.set 0 (.ref t1)) ((rowS n0 n1 (k0 + 1)).set 0 ((-1 - num / 216 % 50), n0)) := paired_set ⟨t1, rfl, by
          have : t1 ≠ D := fun y => by rw [y, s2 _ _ hD] at h2; cases h2
          rw [upd_ne this]
          exact h2⟩ 0 (seen_upd (s2 _ _ hD) (seen_same s2 hP))
        generalize upd H2 D (.lst (us.set 0 (.ref t1))) = H4 at s4 hD4 hP4
        walk_at "go"
        refine ⟨Nm, _, _, _, rfl, rfl, SqL.of (s4 _ _ hNm), atI_nat (j := 2) rfl, ?_⟩
        walk_at "go"
        refine ⟨(by show 2 ≤ sizeLine; decide), fun t5 x5 => ?_⟩
        have s5 : Same H4 (upd H4 t5 (.tup [.int (10 * (1 + num % 6)), .str n2])) := same_up x5
        have h5 : (upd H4 t5 (.tup [.int (10 * (1 + num % 6)), .str n2])) t5 = some (.tup [.int (10 * (1 + num % 6)), .str n2]) := upd_same
        generalize upd H4 t5 (.tup [.int (10 * (1 + num % 6)), .str n2]) = H5 at s5 h5
        walk_at "go"
        refine ⟨(by show 1 ≤ sizeLine; decide), fun L6 x6 => ?_⟩
        have s6 : Same H5 (upd H5 L6 (.lst [.ref t5])) := same_up x6
        have h6 : (upd H5 L6 (.lst [.ref t5])) L6 = some (.lst [.ref t5]) := upd_same
        generalize upd H5 L6 (.lst [.ref t5]) = H6 at s6 h6
        refine ⟨D, L6, _, _, rfl, rfl, s6 _ _ (s5 _ _ hD4), h6, Evl.sz_of (by rw [List.length_set]; simp; omega), fun X x7 => ?_⟩
        have s7 : Same H6 (upd H6 X (.lst (us.set 0 (.ref t1) ++ [.ref t5]))) := same_up x7
        have h7 : (upd H6 X (.lst (us.set 0 (.ref t1) ++ [.ref t5]))) X = some (.lst (us.set 0 (.ref t1) ++ [.ref t5])) := upd_same
        have hP7 := paired_snoc (y := ((10 * (1 + num % 6)), n2)) ⟨t5, rfl, s7 _ _ (s6 _ _ h5)⟩ (seen_same s7 (seen_same s6 (seen_same s5 hP4)))
        generalize upd H6 X (.lst (us.set 0 (.ref t1) ++ [.ref t5])) = H7 at s7 h7 hP7
        have s8 := s4.trans (s5.trans (s6.trans s7))
        walk_at "go"
        refine ⟨(by show 2 ≤ sizeLine; decide), fun t xt => ?_⟩
        walk_at "go"
        refine ⟨(by show 2 ≤ sizeLine; decide), fun L xL => ?_⟩
        exact fin X _ .NoTime s8 ⟨_, h7, hP7⟩ (.g2 (app_gss (by omega) (by omega) ⟨.inl rfl, by show (-1 - num / 216 % 50) ≤ 0; omega, by show _ ≤ (-1 - num / 216 % 50); omega⟩ ⟨.inr (.inr rfl), by show 10 * (1 + num % 6) ≤ _; omega⟩) fun N lk => ref_time0 lk (by omega) (by omega) _) t L xt xL
      walk_at "go"
      refine ite2 (fun b3 => ?_) (fun b3 => ?_)
      · walk_at "go"
        refine ⟨Nm, _, _, _, rfl, rfl, SqL.of hNm1, atI_nat (j := 2) rfl, ?_⟩
        walk_at "go"
        refine ⟨(by show 2 ≤ sizeLine; decide), fun t1 xt1 => ?_⟩
        have s2 : Same H1 (upd H1 t1 (.tup [.int 0, .str n2])) := same_up xt1
        have h2 : (upd H1 t1 (.tup [.int 0, .str n2])) t1 = some (.tup [.int 0, .str n2]) := upd_same
        generalize upd H1 t1 (.tup [.int 0, .str n2]) = H2 at s2 h2
        walk_at "go"
        refine ⟨D, us, _, 0, rfl, rfl, s2 _ _ hD, ixN_of rfl (by omega), ?_⟩
        have s4 : Same H (upd H2 D (.lst (us.set 0 (.ref t1)))) := same_new (s1.trans s2) nD
        have hD4 : (upd H2 D (.lst (us.set 0 (.ref t1)))) D = some (.lst (us.set 0 (.ref t1))) := upd_same
        have hP4 : Paired (SeenV (upd H2 D (.lst (us.set 0 (.ref t1))))) (us.set 0 (.ref t1)) ((rowS n0 n1 (k0 + 1)).set 0 (0, n2)) := paired_set ⟨t1, rfl, by
          have : t1 ≠ D := fun y => by rw [y, s2 _ _ hD] at h2; cases h2
          rw [upd_ne this]
          exact h2⟩ 0 (seen_upd (s2 _ _ hD) (seen_same s2 hP))
        generalize upd H2 D (.lst (us.set 0 (.ref t1))) = H4 at s4 hD4 hP4
        walk_at "go"
        refine ⟨Nm, _, _, _, rfl, rfl, SqL.of (s4 _ _ hNm), atI_nat (j := 1) rfl, ?_⟩
        walk_at "go"
        refine ⟨(by show 2 ≤ sizeLine; decide), fun t5 x5 => ?_⟩
        have s5 : Same H4 (upd H4 t5 (.tup [.int (-1 - num / 216 % 50), .str n1])) := same_up x5
        have h5 : (upd H4 t5 (.tup [.int (-1 - num / 216 % 50), .str n1])) t5 = some (.tup [.int (-1 - num / 216 % 50), .str n1]) := upd_same
        generalize upd H4 t5 (.tup [.int (-1 - num / 216 % 50), .str n1]) = H5 at s5 h5
        walk_at "go"
        refine ⟨(by show 1 ≤ sizeLine; decide), fun L6 x6 => ?_⟩
        have s6 : Same H5 (upd H5 L6 (.lst [.ref t5])) := same_up x6
        have h6 : (upd H5 L6 (.lst [.ref t5])) L6 = some (.lst [.ref t5]) := upd_same
        generalize upd H5 L6 (.lst [.ref t5]) = H6 at s6 h6
        refine ⟨D, L6, _, _, rfl, rfl, s6 _ _ (s5 _ _ hD4), h6, Evl.sz_of (by rw [List.length_set]; simp; omega), fun X x7 => ?_⟩
        have s7 : Same H6 (upd H6 X (.lst (us.set 0 (.ref t1) ++ [.ref t5]))) := same_up x7
        have h7 : (upd H6 X (.lst (us.set 0 (.ref t1) ++ [.ref t5]))) X = some (.lst (us.set 0 (.ref t1) ++ [.ref t5])) := upd_same
        have hP7 := paired_snoc (y := ((-1 - num / 216 % 50), n1)) ⟨t5, rfl, s7 _ _ (s6 _ _ h5)⟩ (seen_same s7 (seen_same s6 (seen_same s5 hP4)))
        generalize upd H6 X (.lst (us.set 0 (.ref t1) ++ [.ref t5])) = H7 at s7 h7 hP7
        have s8 := s4.trans (s5.trans (s6.trans s7))
        walk_at "go"
        refine ⟨(by show 2 ≤ sizeLine; decide), fun t xt => ?_⟩
        walk_at "go"
        refine ⟨(by show 2 ≤ sizeLine; decide), fun L xL => ?_⟩
        exact fin X _ .NoGate s8 ⟨_, h7, hP7⟩ (.g1 (app_gss (by omega) (by omega) ⟨.inr (.inr rfl), by show (0 : Int) ≤ 0; decide, by show (-54 : Int) ≤ 0; decide⟩ ⟨.inr (.inl rfl), by show (-1 - num / 216 % 50) ≤ _; omega⟩) fun N lk => ref_gate0 lk (by omega) _) t L xt xL
      walk_at "go"
      refine ite2 (fun b4 => ?_) (fun b4 => ?_)
      · walk_at "go"
        refine ⟨D, us, _, _, rfl, rfl, SqL.of hD, atI_nat (j := 0) hv0, ?_⟩
        walk_at "go"
        refine ⟨t0, _, _, _, rfl, rfl, SqT.of ht0, atI_nat (j := 1) rfl, ?_⟩
        walk_at "go"
        refine ⟨(by show 2 ≤ sizeLine; decide), fun t1 xt1 => ?_⟩
        have s2 : Same H1 (upd H1 t1 (.tup [.int (-1 - num / 216 % 50), .str n0])) := same_up xt1
        have h2 : (upd H1 t1 (.tup [.int (-1 - num / 216 % 50), .str n0])) t1 = some (.tup [.int (-1 - num / 216 % 50), .str n0]) := upd_same
        generalize upd H1 t1 (.tup [.int (-1 - num / 216 % 50), .str n0]) = H2 at s2 h2
        walk_at "go"
        refine ⟨D, us, _, 0, rfl, rfl, s2 _ _ hD, ixN_of rfl (by omega), ?_⟩
        have s4 : Same H (upd H2 D (.lst (us.set 0 (.ref t1)))) := same_new (s1.trans s2) nD
        have hD4 : (upd H2 D (.lst (us.set 0 (.ref t1)))) D = some (.lst (us.set 0 (.ref t1))) := upd_same
        have hP4 : Paired (SeenV (upd H2 D (.lst (us.set 0 (.ref t1))))) (us.set 0 (.ref t1)) ((rowS n0 n1 (k0 + 1)).set 0 ((-1 - num / 216 % 50), n0)) := paired_set ⟨t1, rfl, by
          have : t1 ≠ D := fun y => by rw [y, s2 _ _ hD] at h2; cases h2
          rw [upd_ne this]
          exact h2⟩ 0 (seen_upd (s2 _ _ hD) (seen_same s2 hP))
        generalize upd H2 D (.lst (us.set 0 (.ref t1))) = H4 at s4 hD4 hP4
        walk_at "go"
        refine ⟨(by show 2 ≤ sizeLine; decide), fun t xt => ?_⟩
        walk_at "go"
        refine ⟨(by show 2 ≤ sizeLine; decide), fun L xL => ?_⟩
        exact fin D _ .NoTime s4 ⟨_, hD4, hP4⟩ (.g2 (set_gss (by omega) (by omega) ⟨.inl rfl, by show (-1 - num / 216 % 50) ≤ _; omega, by show _ ≤ (-1 - num / 216 % 50); omega⟩) fun N lk => ref_time lk (by omega) n0 (.inl rfl) (by show (-1 - num / 216 % 50) < 0; omega)) t L xt xL
      walk_at "go"
      refine ite2 (fun b5 => ?_) (fun b5 => ?_)
      · walk_at "go"
        refine ⟨D, us, _, _, rfl, rfl, SqL.of hD, atI_nat (j := 0) hv0, ?_⟩
        walk_at "go"
        refine ⟨t0, _, _, _, rfl, rfl, SqT.of ht0, atI_nat (j := 1) rfl, ?_⟩
        walk_at "go"
        refine ⟨(by show 2 ≤ sizeLine; decide), fun t1 xt1 => ?_⟩
        have s2 : Same H1 (upd H1 t1 (.tup [.int (-1 - num / 216 % 50), .str n0])) := same_up xt1
        have h2 : (upd H1 t1 (.tup [.int (-1 - num / 216 % 50), .str n0])) t1 = some (.tup [.int (-1 - num / 216 % 50), .str n0]) := upd_same
        generalize upd H1 t1 (.tup [.int (-1 - num / 216 % 50), .str n0]) = H2 at s2 h2
        walk_at "go"
        refine ⟨D, us, _, 0, rfl, rfl, s2 _ _ hD, ixN_of rfl (by omega), ?_⟩
        have s4 : Same H (upd H2 D (.lst (us.set 0 (.ref t1)))) := same_new (s1.trans s2) nD
        have hD4 : (upd H2 D (.lst (us.set 0 (.ref t1)))) D = some (.lst (us.set 0 (.ref t1))) := upd_same
        have hP4 : Paired (SeenV (upd H2 D (.lst (us.set 0 (.ref t1))))) (us.set 0 (.ref t1)) ((rowS n0 n1 (k0 + 1)).set 0 ((-1 - num / 216 % 50), n0)) := paired_set ⟨t1, rfl, by
          have : t1 ≠ D := fun y => by rw [y, s2 _ _ hD] at h2; cases h2
          rw [upd_ne this]
          exact h2⟩ 0 (seen_upd (s2 _ _ hD) (seen_same s2 hP))
        generalize upd H2 D (.lst (us.set 0 (.ref t1))) = H4 at s4 hD4 hP4
        walk_at "go"
        refine ⟨(by show 2 ≤ sizeLine; decide), fun t xt => ?_⟩
        walk_at "go"
        refine ⟨(by show 2 ≤ sizeLine; decide), fun L xL => ?_⟩
        exact fin D _ .NoTime s4 ⟨_, hD4, hP4⟩ (.g2 (set_gss (by omega) (by omega) ⟨.inl rfl, by show (-1 - num / 216 % 50) ≤ _; omega, by show _ ≤ (-1 - num / 216 % 50); omega⟩) fun N lk => ref_time lk (by omega) n0 (.inl rfl) (by show (-1 - num / 216 % 50) < 0; omega)) t L xt xL
      have b5 : ¬ at' = 0 := fun z => b5 (by
        show decide (V.int (num / 6 % (1 + num % 6)) = V.int 0) = true
        rw [eat, z]
        decide)
      obtain ⟨va, hva, ta, eva, hta⟩ : ∃ v0, us[at']? = some v0 ∧ SeenV H1 v0 (10 * (at' : Int), if at' % 2 = 0 then n0 else n1) := paired_get hP (by rw [rowS_get n0 n1 hat])
      subst eva
      have hta : H1 ta = some (.tup [.int (10 * (at' : Int)), .str (if at' % 2 = 0 then n0 else n1)]) := hta
      obtain ⟨nm, enm, hnm⟩ : ∃ nm, (if at' % 2 = 0 then n0 else n1) = nm ∧ (nm = n0 ∨ nm = n1) := ⟨_, rfl, by split; exact .inl rfl; exact .inr rfl⟩
      rw [enm] at hta
      walk_at "go"
      refine ⟨D, us, _, _, rfl, rfl, SqL.of hD, atI_of (j := at') eat hva, ?_⟩
      walk_at "go"
      refine ⟨ta, _, _, _, rfl, rfl, SqT.of hta, atI_nat (j := 1) rfl, ?_⟩
      walk_at "go"
      refine ⟨(by show 2 ≤ sizeLine; decide), fun t1 xt1 => ?_⟩
      have s2 : Same H1 (upd H1 t1 (.tup [.int (10 * (num / 6 % (1 + num % 6)) - 11 - num / 216 % 5), .str nm])) := same_up xt1
      have h2 : (upd H1 t1 (.tup [.int (10 * (num / 6 % (1 + num % 6)) - 11 - num / 216 % 5), .str nm])) t1 = some (.tup [.int (10 * (num / 6 % (1 + num % 6)) - 11 - num / 216 % 5), .str nm]) := upd_same
      generalize upd H1 t1 (.tup [.int (10 * (num / 6 % (1 + num % 6)) - 11 - num / 216 % 5), .str nm]) = H2 at s2 h2
      walk_at "go"
      refine ⟨D, us, _, at', rfl, rfl, s2 _ _ hD, ixN_of eat (by omega), ?_⟩
      have s4 : Same H (upd H2 D (.lst (us.set at' (.ref t1)))) := same_new (s1.trans s2) nD
      have hD4 : (upd H2 D (.lst (us.set at' (.ref t1)))) D = some (.lst (us.set at' (.ref t1))) := upd_same
      have hP4 : Paired (SeenV (upd H2 D (.lst (us.set at' (.ref t1))))) (us.set at' (.ref t1)) ((rowS n0 n1 (k0 + 1)).set at' ((10 * (num / 6 % (1 + num % 6)) - 11 - num / 216 % 5), nm)) := paired_set ⟨t1, rfl, by
        have : t1 ≠ D := fun y => by rw [y, s2 _ _ hD] at h2; cases h2
        rw [upd_ne this]
        exact h2⟩ at' (seen_upd (s2 _ _ hD) (seen_same s2 hP))
      generalize upd H2 D (.lst (us.set at' (.ref t1))) = H4 at s4 hD4 hP4
      walk_at "go"
      refine ⟨(by show 2 ≤ sizeLine; decide), fun t xt => ?_⟩
      walk_at "go"
      refine ⟨(by show 2 ≤ sizeLine; decide), fun L xL => ?_⟩
      exact fin D _ .NoTime s4 ⟨_, hD4, hP4⟩ (.g2 (set_gss (by omega) (by omega) ⟨by rcases hnm with e | e <;> simp [e], by show (10 * (num / 6 % (1 + num % 6)) - 11 - num / 216 % 5) ≤ _; omega, by show _ ≤ (10 * (num / 6 % (1 + num % 6)) - 11 - num / 216 % 5); omega⟩) fun N lk => ref_time lk hat nm hnm (by unfold ahS; rw [if_neg b5]; omega)) t L xt xL
end
end Toll

set_option Elab.async false
set_option linter.all false
set_option maxRecDepth 100000
set_option maxHeartbeats 4000000
namespace Toll
open PySem L2
local macro_rules | `(tactic| walk_at "go1") => `(tactic| first
  | refine ⟨_, rfl, ?_⟩
  | refine ⟨rfl, ?_⟩
  | refine ⟨_, _, rfl, rfl, ?_⟩
  | refine ⟨_, _, rfl, ?_⟩
  | (with_reducible refine' ⟨log_small ?k1 ?k2, ?_⟩; (case k1 => omega); (case k2 => omega))
  | (refine' ⟨?k1, ?_⟩; (case k1 => ((with_reducible show (_ : Int) < _); omega)))
  | (refine' ⟨⟨?k1, ?k2⟩, ?_⟩; (case k1 => omega); (case k2 => omega))
  | (refine' ⟨⟨?k1, ?k2, ?k3, ?k4⟩, ?_⟩; (case k1 => omega); (case k2 => omega); (case k3 => omega); (case k4 => omega))
  | (refine' ⟨.inl ⟨?k1, ?k2⟩, ?_⟩; (case k1 => omega); (case k2 => omega))
  | (refine' ⟨.inr ⟨?k1, ?k2⟩, ?_⟩; (case k1 => omega); (case k2 => omega))
  | (refine' ⟨Evl.sz_of ?k1, ?_⟩; (case k1 => omega))
  | (refine' ⟨?k1, ?_⟩; (case k1 => ((with_reducible show (_ : Int) ≤ _); omega)))
  | refine ⟨⟨_, rfl⟩, ?_⟩
  | refine .inl ⟨_, rfl, ?_⟩ | refine .inr ⟨_, rfl, ?_⟩
  | refine iteT ?_ | refine iteF ?_)
local macro_rules | `(tactic| walk_at "go") => `(tactic| repeat (walk_at "go1"))
local macro_rules | `(tactic| walk_at "ans") => `(tactic| (intro Q' q'; walk_at "go"; (try rw [dec_int]); (try rw [dec_str]); exact q'))
local macro_rules | `(tactic| walk_at "hp") => `(tactic| first | assumption | exact upd_same | (refine' up_same ?e ?h; (case e => assumption); (case h => walk_at "hp")) | (refine' upd_at ?n ?h; (case n => walk_at "ne"); (case h => walk_at "hp")))
local macro_rules | `(tactic| walk_at "ne") => `(tactic| first | assumption | (apply Ne.symm; assumption))
local macro_rules | `(tactic| walk_at "at") => `(tactic| first | exact atI_nat (j := 0) rfl | exact atI_nat (j := 1) rfl | exact atI_nat (j := 2) rfl | exact atI_nat (j := 3) rfl | exact atI_nat (j := 4) rfl)
local macro_rules | `(tactic| walk_at "step1") => `(tactic| first
  | walk_at "go1"
  | (apply ixL_step; (case h => walk_at "hp"); (case a => walk_at "at"))
  | (apply ixT_step; (case h => walk_at "hp"); (case a => walk_at "at"))
  | (apply lenL_step; (case h => walk_at "hp")))
local macro_rules | `(tactic| walk_at "step") => `(tactic| repeat (walk_at "step1"))
section
variable {P : Program} {w : World} {K : PySem.W.Frag} {mg : Str → Option Value} {base : Heap} {A : Ads}
theorem ok_l_bad_asking (T : Txt K mg A) : DefOk P w K mg base CX0 2 A.l_bad_asking ["_law_number", "_law_names"] (spBad8 A) := by
  obtain ⟨_, G_l_bad_sight, B_l_bad_sight, K_l_bad_sight⟩ := ok_l_bad_sight (P := P) (w := w) (base := base) T
  obtain ⟨_, G_l_bad_seen, B_l_bad_seen, K_l_bad_seen⟩ := ok_l_bad_seen (P := P) (w := w) (base := base) T
  obtain ⟨fd, F⟩ := T.F_l_bad_asking
  refine ⟨fd, ?_, F.binds (ps := ["_law_number", "_law_names"]) fun _ _ _ _ _ _ us hl => match us, hl with | [_, _], _ => rfl, F.kp⟩
  refine F.ok sc_l_bad_asking (fun vs H Q E h => ?_) (fun cdv A' outer s H vs Q E hr h => ?_)
  · obtain ⟨num, Nm, n0, n1, n2, c3, c4, c5, rfl, _⟩ := h
    rfl
  · obtain ⟨num, Nm, n0, n1, n2, c3, c4, c5, rfl, m0, m1, ok4, hNm, q⟩ := h
    refine ⟨_, (pss_cons (ps_if (pt_cmpR op_lt (pe_op op_mod (pv 0) pe_int) pe_int (nomark _)) (pss_one (ps_ret (pe_call G_l_bad_sight (hr.mono (by decide)) rfl T.m_l_bad_sight K_l_bad_sight B_l_bad_sight .nil pass0 (pa_cons (pe_op op_fdiv (pv 0) pe_int) (pa_cons (pv 1) pa_nil))))) pss_nil)
      (pss_cons (ps_if (pt_cmpR op_eq (pe_op op_mod (pv 0) pe_int) pe_int (nomark _)) (pss_one (ps_ret (pe_lst (pa_cons (pe_tup (pa_cons (pe_ix (r := rIxL K) ix_list (pe_lst (pa_cons pe_str (pa_cons pe_str pa_nil))) (pe_op op_mod (pe_op op_fdiv (pv 0) pe_int) pe_int) (fun _ _ => rfl)) (pa_cons (pe_ix (r := rIxL K) ix_list (pv 1) pe_int (fun _ _ => rfl)) pa_nil))) (pa_cons pe_str pa_nil))))) pss_nil)
      (pss_cons (ps_if (pt_cmpR op_eq (pe_op op_mod (pv 0) pe_int) pe_int (nomark _)) (pss_cons (ps_set (i := 2) sc_l_bad_asking.nd rfl (by first | exact Or.inl rfl | exact Or.inr rfl) (pe_ix (r := rIxL K) ix_list (pe_lst (pa_cons (pe_op op_sub (pe_un un_neg pe_int) (pe_op op_mod (pe_op op_fdiv (pv 0) pe_int) pe_int)) (pa_cons pe_int (pa_cons pe_int pa_nil)))) (pe_op op_mod (pe_op op_fdiv (pv 0) pe_int) pe_int) (fun _ _ => rfl)))
      (pss_cons (ps_if (PW.pt (pw_and (pt_cmpR op_lt (pv 2) pe_int (nomark _)) (pw_and1 (pt_cmpR op_eq (pe_op op_mod (pe_op op_fdiv (pv 0) pe_int) pe_int) pe_int (nomark _))))) (pss_one (ps_ret (pe_lst (pa_cons (pe_tup (pa_cons pe_str (pa_cons (pe_ix (r := rIxL K) ix_list (pv 1) pe_int (fun _ _ => rfl)) (pa_cons (pv 2) pa_nil)))) (pa_cons pe_str pa_nil))))) pss_nil)
      (pss_one (ps_ret (pe_lst (pa_cons (pe_tup (pa_cons pe_str (pa_cons (pe_ix (r := rIxL K) ix_list (pv 1) pe_int (fun _ _ => rfl)) (pa_cons (pv 2) pa_nil)))) (pa_cons pe_str pa_nil))))))) pss_nil)
      (pss_cons (ps_if (pt_cmpR op_eq (pe_op op_mod (pv 0) pe_int) pe_int (nomark _)) (pss_cons (ps_set (i := 3) sc_l_bad_asking.nd rfl (by first | exact Or.inl rfl | exact Or.inr rfl) (pe_ix (r := rIxL K) ix_list (pe_lst (pa_cons (pe_lst (pa_cons (pe_ix (r := rIxL K) ix_list (pv 1) pe_int (fun _ _ => rfl)) (pa_cons (pe_ix (r := rIxL K) ix_list (pv 1) pe_int (fun _ _ => rfl)) pa_nil))) (pa_cons (pe_lst (pa_cons (pe_ix (r := rIxL K) ix_list (pv 1) pe_int (fun _ _ => rfl)) (pa_cons (pe_ix (r := rIxL K) ix_list (pv 1) pe_int (fun _ _ => rfl)) pa_nil))) (pa_cons (pe_lst (pa_cons (pe_ix (r := rIxL K) ix_list (pv 1) pe_int (fun _ _ => rfl)) (pa_cons (pe_ix (r := rIxL K) ix_list (pv 1) pe_int (fun _ _ => rfl)) pa_nil))) pa_nil)))) (pe_op op_mod (pe_op op_fdiv (pv 0) pe_int) pe_int) (fun _ _ => rfl)))
      (pss_one (ps_ret (pe_lst (pa_cons (pe_tup (pa_cons pe_str (pa_cons (pe_ix (r := rIxL K) ix_list (pv 3) pe_int (fun _ _ => rfl)) (pa_cons (pe_ix (r := rIxL K) ix_list (pv 3) pe_int (fun _ _ => rfl)) (pa_cons (pe_op op_sub (pe_un un_neg pe_int) (pe_op op_mod (pe_op op_fdiv (pv 0) pe_int) pe_int)) pa_nil))))) (pa_cons (pe_ix (r := rIxL K) ix_list (pe_lst (pa_cons pe_str (pa_cons pe_str (pa_cons pe_str pa_nil)))) (pe_op op_mod (pe_op op_fdiv (pv 0) pe_int) pe_int) (fun _ _ => rfl)) pa_nil)))))) pss_nil)
      (pss_one (ps_ret (pe_call G_l_bad_seen (hr.mono (by decide)) rfl T.m_l_bad_seen K_l_bad_seen B_l_bad_seen .nil pass0 (pa_cons (pe_op op_fdiv (pv 0) pe_int) (pa_cons (pv 1) pa_nil))))))))), ?_⟩
    walk_at "go"
    refine ite2 (fun b1 => ?_) (fun b1 => ?_)
    · walk_at "go"
      exact ⟨num / 6, Nm, n0, n1, n2, c3, c4, c5, rfl, by omega, by omega, ok4, hNm, q⟩
    walk_at "go"
    refine ite2 (fun b2 => ?_) (fun b2 => ?_)
    · walk_at "go"
      refine ⟨(by show 2 ≤ sizeLine; decide), fun L1 x1 => ?_⟩
      walk_at "go"
      obtain ⟨j, ej, hj⟩ := mod_nat (num / 6) (n := 2) (by decide)
      have ej : num / 6 % 2 = (j : Int) := ej
      obtain ⟨z, a, hz, ea, hK, hls⟩ : ∃ (z : Str) (a : A8), ([V.str (Str.ofString "seen"), V.str (Str.ofString "forget")] : List V)[j]? = some (.str z) ∧ a.vs = [.str z, .str c5] ∧ K8 n0 n1 n2 c3 c5 a .NoCar ∧ ∀ H', a.lists H' := by
        rcases (by omega : j = 0 ∨ j = 1) with rfl | rfl
        · exact ⟨_, .seen c5, rfl, rfl, .c1, fun _ => trivial⟩
        · exact ⟨_, .forget c5, rfl, rfl, .c2, fun _ => trivial⟩
      refine ⟨L1, _, _, .str z, rfl, rfl, SqL.of upd_same, atI_of (j := j) ej hz, ?_⟩
      have s1 := same_up (o := HO.lst [V.str (Str.ofString "seen"), V.str (Str.ofString "forget")]) x1
      generalize upd H L1 (HO.lst [V.str (Str.ofString "seen"), V.str (Str.ofString "forget")]) = H1 at s1
      walk_at "go"
      refine ⟨Nm, _, _, _, rfl, rfl, SqL.of (s1 _ _ hNm), atI_nat (j := 5) rfl, ?_⟩
      walk_at "go"
      refine ⟨(by show 2 ≤ sizeLine; decide), fun t xt => ?_⟩
      walk_at "go"
      refine ⟨(by show 2 ≤ sizeLine; decide), fun L xL => ?_⟩
      exact q _ L t a .NoCar (s1.trans ((same_up xt).trans (same_up xL))) upd_same (same_up xL _ _ (by rw [upd_same, ea])) (hls _) hK
    walk_at "go"
    refine ite2 (fun b3 => ?_) (fun b3 => ?_)
    · walk_at "go"
      refine ⟨(by show 3 ≤ sizeLine; decide), fun L1 x1 => ?_⟩
      walk_at "go"
      obtain ⟨j, ej, hj⟩ := mod_nat (num / 600) (n := 3) (by decide)
      have ej : num / 600 % 3 = (j : Int) := ej
      obtain ⟨l, hl, l1⟩ : ∃ l : Int, ([V.int (-1 - num / 12 % 50), V.int 0, V.int 9] : List V)[j]? = some (.int l) ∧ l ≤ 64 := by
        rcases (by omega : j = 0 ∨ j = 1 ∨ j = 2) with rfl | rfl | rfl <;> exact ⟨_, rfl, by omega⟩
      refine ⟨L1, _, _, .int l, rfl, rfl, SqL.of upd_same, atI_of (j := j) ej hl, ?_⟩
      have s1 := same_up (o := HO.lst [V.int (-1 - num / 12 % 50), V.int 0, V.int 9]) x1
      generalize upd H L1 (HO.lst [V.int (-1 - num / 12 % 50), V.int 0, V.int 9]) = H1 at s1
      have far : ∀ t L, H1 t = none → (upd H1 t (.tup [.str (Str.ofString "reached"), .str n2, .int l])) L = none → Q (.ref L) (upd (upd H1 t (.tup [.str (Str.ofString "reached"), .str n2, .int l])) L (.lst [.ref t, .str (Str.ofString "NoGate")])) := fun t L xt xL =>
        q _ L t (.reached n2 l) .NoGate (s1.trans ((same_up xt).trans (same_up xL))) upd_same (same_up xL _ _ upd_same) trivial (.r2 l1)
      walk_at "go"
      refine ite2 (fun b4 => ?_) (fun b4 => ?_)
      · have l0 : l < 0 := of_decide_eq_true b4
        walk_at "go"
        refine ite2 (fun b5 => ?_) (fun b5 => ?_)
        · walk_at "go"
          refine ⟨Nm, _, _, _, rfl, rfl, SqL.of (s1 _ _ hNm), atI_nat (j := 0) rfl, ?_⟩
          walk_at "go"
          refine ⟨(by show 3 ≤ sizeLine; decide), fun t xt => ?_⟩
          walk_at "go"
          refine ⟨(by show 2 ≤ sizeLine; decide), fun L xL => ?_⟩
          exact q _ L t (.reached n0 l) .NoNumber (s1.trans ((same_up xt).trans (same_up xL))) upd_same (same_up xL _ _ upd_same) trivial (.r1 l0)
        · walk_at "go"
          refine ⟨Nm, _, _, _, rfl, rfl, SqL.of (s1 _ _ hNm), atI_nat (j := 2) rfl, ?_⟩
          walk_at "go"
          refine ⟨(by show 3 ≤ sizeLine; decide), fun t xt => ?_⟩
          walk_at "go"
          refine ⟨(by show 2 ≤ sizeLine; decide), fun L xL => ?_⟩
          exact far t L xt xL
      · walk_at "go"
        refine ⟨Nm, _, _, _, rfl, rfl, SqL.of (s1 _ _ hNm), atI_nat (j := 2) rfl, ?_⟩
        walk_at "go"
        refine ⟨(by show 3 ≤ sizeLine; decide), fun t xt => ?_⟩
        walk_at "go"
        refine ⟨(by show 2 ≤ sizeLine; decide), fun L xL => ?_⟩
        exact far t L xt xL
    walk_at "go"
    refine ite2 (fun b6 => ?_) (fun b6 => ?_)
    · walk_at "go"
      refine ⟨Nm, _, _, _, rfl, rfl, SqL.of (id hNm), atI_nat (j := 2) rfl, ?_⟩
      walk_at "go"
      refine ⟨Nm, _, _, _, rfl, rfl, SqL.of (id hNm), atI_nat (j := 0) rfl, ?_⟩
      walk_at "go"
      refine ⟨(by show 2 ≤ sizeLine; decide), fun e1 x1 => ?_⟩
      have s1' : Same H (upd H e1 (.lst [.str n2, .str n0])) := same_up x1
      have h1 : (upd H e1 (.lst [.str n2, .str n0])) e1 = some (.lst [.str n2, .str n0]) := upd_same
      generalize upd H e1 (.lst [.str n2, .str n0]) = H1 at s1' h1
      walk_at "go"
      refine ⟨Nm, _, _, _, rfl, rfl, SqL.of (s1' _ _ hNm), atI_nat (j := 0) rfl, ?_⟩
      walk_at "go"
      refine ⟨Nm, _, _, _, rfl, rfl, SqL.of (s1' _ _ hNm), atI_nat (j := 2) rfl, ?_⟩
      walk_at "go"
      refine ⟨(by show 2 ≤ sizeLine; decide), fun e2 x2 => ?_⟩
      have s2' : Same H1 (upd H1 e2 (.lst [.str n0, .str n2])) := same_up x2
      have h2 : (upd H1 e2 (.lst [.str n0, .str n2])) e2 = some (.lst [.str n0, .str n2]) := upd_same
      generalize upd H1 e2 (.lst [.str n0, .str n2]) = H2 at s2' h2
      walk_at "go"
      refine ⟨Nm, _, _, _, rfl, rfl, SqL.of (s2' _ _ <| s1' _ _ hNm), atI_nat (j := 0) rfl, ?_⟩
      walk_at "go"
      refine ⟨Nm, _, _, _, rfl, rfl, SqL.of (s2' _ _ <| s1' _ _ hNm), atI_nat (j := 1) rfl, ?_⟩
      walk_at "go"
      refine ⟨(by show 2 ≤ sizeLine; decide), fun e3 x3 => ?_⟩
      have s3' : Same H2 (upd H2 e3 (.lst [.str n0, .str n1])) := same_up x3
      have h3 : (upd H2 e3 (.lst [.str n0, .str n1])) e3 = some (.lst [.str n0, .str n1]) := upd_same
      generalize upd H2 e3 (.lst [.str n0, .str n1]) = H3 at s3' h3
      walk_at "go"
      refine ⟨(by show 3 ≤ sizeLine; decide), fun e4 x4 => ?_⟩
      have s4' : Same H3 (upd H3 e4 (.lst [.ref e1, .ref e2, .ref e3])) := same_up x4
      have h4 : (upd H3 e4 (.lst [.ref e1, .ref e2, .ref e3])) e4 = some (.lst [.ref e1, .ref e2, .ref e3]) := upd_same
      generalize upd H3 e4 (.lst [.ref e1, .ref e2, .ref e3]) = H4 at s4' h4
      have s4 := s1'.trans (s2'.trans (s3'.trans s4'))
      replace h1 := s4' _ _ (s3' _ _ (s2' _ _ h1))
      replace h2 := s4' _ _ (s3' _ _ h2)
      replace h3 := s4' _ _ h3
      walk_at "go"
      obtain ⟨j, ej, hj⟩ := mod_nat (num / 6) (n := 3) (by decide)
      have ej : num / 6 % 3 = (j : Int) := ej
      obtain ⟨eL, p0, p1, cc, hz, hE, hw, hK⟩ : ∃ (eL : Addr) (p0 p1 : Str) (cc : Rf), ([V.ref e1, V.ref e2, V.ref e3] : List V)[j]? = some (.ref eL) ∧ H4 eL = some (.lst [.str p0, .str p1]) ∧ ([V.str (Str.ofString "NoGate"), V.str (Str.ofString "NoGate"), V.str (Str.ofString "NoNumber")] : List V)[j]? = some (.str cc.word) ∧ ∀ l : Int, l < 0 → K8 n0 n1 n2 c3 c5 (.leg p0 p1 l) cc := by
        rcases (by omega : j = 0 ∨ j = 1 ∨ j = 2) with rfl | rfl | rfl
        · exact ⟨_, _, _, .NoGate, rfl, h1, rfl, fun l h => .l1 h⟩
        · exact ⟨_, _, _, .NoGate, rfl, h2, rfl, fun l h => .l2 h⟩
        · exact ⟨_, _, _, .NoNumber, rfl, h3, rfl, fun l h => .l3 h⟩
      refine ⟨e4, _, _, .ref eL, rfl, rfl, SqL.of h4, atI_of (j := j) ej hz, ?_⟩
      walk_at "go"
      refine ⟨eL, _, _, _, rfl, rfl, SqL.of hE, atI_nat (j := 0) rfl, ?_⟩
      walk_at "go"
      refine ⟨eL, _, _, _, rfl, rfl, SqL.of hE, atI_nat (j := 1) rfl, ?_⟩
      walk_at "go"
      refine ⟨(by show 4 ≤ sizeLine; decide), fun t xt => ?_⟩
      have s5 : Same H4 (upd H4 t (.tup (A8.leg p0 p1 (-1 - num / 18 % 50)).vs)) := same_up xt
      have h5 : (upd H4 t (.tup (A8.leg p0 p1 (-1 - num / 18 % 50)).vs)) t = some (.tup (A8.leg p0 p1 (-1 - num / 18 % 50)).vs) := upd_same
      rw [show HO.tup [V.str (Str.ofString "leg"), V.str p0, V.str p1, V.int (-1 - num / 18 % 50)] = HO.tup (A8.leg p0 p1 (-1 - num / 18 % 50)).vs from rfl]
      generalize upd H4 t (.tup (A8.leg p0 p1 (-1 - num / 18 % 50)).vs) = H5 at s5 h5
      walk_at "go"
      refine ⟨(by show 3 ≤ sizeLine; decide), fun L6 x6 => ?_⟩
      walk_at "go"
      refine ⟨L6, _, _, .str cc.word, rfl, rfl, SqL.of upd_same, atI_of (j := j) ej hw, ?_⟩
      have s6 := same_up (o := HO.lst [V.str (Str.ofString "NoGate"), V.str (Str.ofString "NoGate"), V.str (Str.ofString "NoNumber")]) x6
      generalize upd H5 L6 (HO.lst [V.str (Str.ofString "NoGate"), V.str (Str.ofString "NoGate"), V.str (Str.ofString "NoNumber")]) = H6 at s6
      walk_at "go"
      refine ⟨(by show 2 ≤ sizeLine; decide), fun L xL => ?_⟩
      exact q _ L t (.leg p0 p1 (-1 - num / 18 % 50)) cc (s4.trans (s5.trans (s6.trans (same_up xL)))) upd_same (same_up xL _ _ (s6 _ _ h5)) trivial (hK _ (by omega))
    walk_at "go"
    exact ⟨num / 6, Nm, n0, n1, n2, c3, c4, c5, rfl, by omega, by omega, ok4, hNm, q⟩
end
end Toll

set_option Elab.async false
set_option linter.all false
set_option maxRecDepth 100000
set_option maxHeartbeats 4000000
namespace Toll
open PySem L2
local macro_rules | `(tactic| walk_at "go1") => `(tactic| first
  | refine ⟨_, rfl, ?_⟩
  | refine ⟨rfl, ?_⟩
  | refine ⟨_, _, rfl, rfl, ?_⟩
  | refine ⟨_, _, rfl, ?_⟩
  | (with_reducible refine' ⟨log_small ?k1 ?k2, ?_⟩; (case k1 => omega); (case k2 => omega))
  | (refine' ⟨?k1, ?_⟩; (case k1 => ((with_reducible show (_ : Int) < _); omega)))
  | (refine' ⟨⟨?k1, ?k2⟩, ?_⟩; (case k1 => omega); (case k2 => omega))
  | (refine' ⟨⟨?k1, ?k2, ?k3, ?k4⟩, ?_⟩; (case k1 => omega); (case k2 => omega); (case k3 => omega); (case k4 => omega))
  | (refine' ⟨.inl ⟨?k1, ?k2⟩, ?_⟩; (case k1 => omega); (case k2 => omega))
  | (refine' ⟨.inr ⟨?k1, ?k2⟩, ?_⟩; (case k1 => omega); (case k2 => omega))
  | (refine' ⟨Evl.sz_of ?k1, ?_⟩; (case k1 => omega))
  | (refine' ⟨?k1, ?_⟩; (case k1 => ((with_reducible show (_ : Int) ≤ _); omega)))
  | refine ⟨⟨_, rfl⟩, ?_⟩
  | refine .inl ⟨_, rfl, ?_⟩ | refine .inr ⟨_, rfl, ?_⟩
  | refine iteT ?_ | refine iteF ?_)
local macro_rules | `(tactic| walk_at "go") => `(tactic| repeat (walk_at "go1"))
local macro_rules | `(tactic| walk_at "ans") => `(tactic| (intro Q' q'; walk_at "go"; (try rw [dec_int]); (try rw [dec_str]); exact q'))
local macro_rules | `(tactic| walk_at "hp") => `(tactic| first | assumption | exact upd_same | (refine' up_same ?e ?h; (case e => assumption); (case h => walk_at "hp")) | (refine' upd_at ?n ?h; (case n => walk_at "ne"); (case h => walk_at "hp")))
local macro_rules | `(tactic| walk_at "ne") => `(tactic| first | assumption | (apply Ne.symm; assumption))
local macro_rules | `(tactic| walk_at "at") => `(tactic| first | exact atI_nat (j := 0) rfl | exact atI_nat (j := 1) rfl | exact atI_nat (j := 2) rfl | exact atI_nat (j := 3) rfl | exact atI_nat (j := 4) rfl)
local macro_rules | `(tactic| walk_at "step1") => `(tactic| first
  | walk_at "go1"
  | (apply ixL_step; (case h => walk_at "hp"); (case a => walk_at "at"))
  | (apply ixT_step; (case h => walk_at "hp"); (case a => walk_at "at"))
  | (apply lenL_step; (case h => walk_at "hp")))
local macro_rules | `(tactic| walk_at "step") => `(tactic| repeat (walk_at "step1"))
section
variable {P : Program} {w : World} {K : PySem.W.Frag} {mg : Str → Option Value} {base : Heap} {A : Ads}
def tb_l_made_good (K : PySem.W.Frag) (A : Ads) (W : WX) : TS := tDrop (tCallS (spAsked A) (fun σ cls d H => W cls d σ H) (tCons (tVar 0) (tCons (tVar 1) (tCons (tVar 2) tNil))))
theorem A8.lists.keep {S : List Addr} {H H' : Hp} {a : A8} (k : Keep S H H') (hS : ∀ x ∈ S, ∀ xs, H x ≠ some (.lst xs) ∧ H x ≠ some (.tup xs)) (h : a.lists H) : a.lists H' := by
  cases a with
  | guess X ss =>
    obtain ⟨us, h1, h2⟩ := h
    exact ⟨us, k _ _ h1 (fun m => (hS _ m _).1 h1), L2.Paired.mapP h2 fun _ _ ⟨t, e, ht⟩ => ⟨t, e, k _ _ ht fun m => (hS _ m _).2 ht⟩⟩
  | _ => exact h
theorem K8.ask {n0 n1 n2 c3 c5 : Str} {a : A8} {c : Rf} (k : K8 n0 n1 n2 c3 c5 a c) : c.ask := by cases k <;> simp [Rf.ask]
def spMade8 (A : Ads) : Sp := fun vs H Q _ => ∃ (n g r p sd t Nm : Addr) (W : List CarE) (a : A8) (c : Rf) (n0 n1 n2 c3 c4 c5 : Str), vs = [.ref n, .ref p, .ref t, .str c.word, .ref Nm] ∧ NetAt A.C_Net H n g r (base8 n0 n1) ∧ WatchAt A.C_Watch H p n sd W ∧ W.length < 50 ∧ (∀ e ∈ W, e.ss.length < 100) ∧ g ∉ wfoot sd W ∧ carOf W c5 = none ∧ H t = some (.tup a.vs) ∧ a.lists H ∧
  K8 n0 n1 n2 c3 c5 a c ∧ Like8 n0 n1 n2 (base8 n0 n1) ∧ (NameOk n0 ∧ NameOk n1 ∧ NameOk n2) ∧ NameOk c3 ∧ NameOk c5 ∧ n0 ≠ n1 ∧ H Nm = some (.lst [.str n0, .str n1, .str n2, .str c3, .str c4, .str c5]) ∧ ∀ H', Keep (g :: wfoot sd W) H H' → Q (.bl true) H'
theorem ok_l_made_good (T : Txt K mg A) : DefOk P w K mg base CX0 7 A.l_made_good ["_law_net", "_law_watch", "_law_asking", "_law_due", "_law_names"] (spMade8 A) := by
  obtain ⟨_, G_l_asked, B_l_asked, K_l_asked⟩ := ok_l_asked (P := P) (w := w) (base := base) T
  obtain ⟨_, G_W_saw, B_W_saw, K_W_saw⟩ := ok_W_saw (P := P) (w := w) (base := base) T
  obtain ⟨_, G_N_mend, B_N_mend, K_N_mend⟩ := ok_N_mend (P := P) (w := w) (base := base) T
  obtain ⟨_, G_N_gate, B_N_gate, K_N_gate⟩ := ok_N_gate (P := P) (w := w) (base := base) T
  obtain ⟨fd, F⟩ := T.F_l_made_good
  refine ⟨fd, ?_, F.binds (ps := ["_law_net", "_law_watch", "_law_asking", "_law_due", "_law_names"]) fun _ _ _ _ _ _ us hl => match us, hl with | [_, _, _, _, _], _ => rfl, F.kp⟩
  refine F.ok sc_l_made_good (fun vs H Q E h => ?_) (fun cdv A' outer s H vs Q E hr h => ?_)
  · obtain ⟨n, g, r, p, sd, t, Nm, W, a, c, n0, n1, n2, c3, c4, c5, rfl, _⟩ := h
    rfl
  · obtain ⟨n, g, r, p, sd, t, Nm, W, a, c, n0, n1, n2, c3, c4, c5, rfl, hN, hW, wl, wss, gW, h5, ht, hls, hK, lk, ok, ok3, ok5, ne01, hNm, q⟩ := h
    have hu := hu_of hr
    refine ⟨_, (C8.pss_cut (ps_if (pt_cmpR op_eq (pv 3) pe_str (nomark _)) (pss_one (ps_expr (pe_meth (pv 1) T.c_Watch T.M_W_saw G_W_saw (hr.mono (by decide)) B_W_saw .nil passF (pa_cons (pe_ix (r := rIxL K) ix_list (pv 4) pe_int (fun _ _ => rfl)) (pa_cons (pe_ix (r := rIxL K) ix_list (pv 4) pe_int (fun _ _ => rfl)) (pa_cons pe_int pa_nil)))))) pss_nil)
      (C8.pss_cut (ps_if (pt_cmpR op_eq (pv 3) pe_str (nomark _)) (pss_one (ps_expr (pe_meth (pv 0) T.c_Net T.M_N_mend G_N_mend (hr.mono (by decide)) B_N_mend .nil passF (pa_cons (pe_ix (r := rIxL K) ix_list (pv 4) pe_int (fun _ _ => rfl)) pa_nil)))) pss_nil)
      (C8.pss_cut (ps_if (pt_cmpR op_eq (pv 3) pe_str (nomark _)) (pss_one (ps_expr (pe_meth (pv 0) T.c_Net T.M_N_gate G_N_gate (hr.mono (by decide)) B_N_gate .nil passF (pa_cons (pe_ix (r := rIxL K) ix_list (pv 4) pe_int (fun _ _ => rfl)) (pa_cons pe_bl pa_nil))))) pss_nil)
      (C8.pss_cut (ps_if (pt_cmpR op_in_seq (pv 3) (pe_lst (pa_cons pe_str (pa_cons pe_str (pa_cons pe_str pa_nil)))) rfl) (pss_one (ps_try_as (i := 5) (tb := tb_l_made_good K A) rfl rfl sc_l_made_good.nd rfl rfl ⟨rfl, by decide, .inl T.e_TollError.g⟩ takes0 (fun W pn xe tk _ => (pss_one (ps_expr (pe_callS G_l_asked (hr.mono (by decide)) rfl T.m_l_asked K_l_asked B_l_asked (fun σ => passAt tk σ) (pa_cons (pv 0) (pa_cons (pv 1) (pa_cons (pv 2) pa_nil))))))) (fun a oe cls d pn hz hf => (pss_one (ps_ret (pe_and (pe_cmpR op_ne (pv 3) pe_str (nomark _)) (pe_one (pe_or (pe_callB (id := "isinstance") (r := rIsP K cls d a) (call_isP (a := a) List.mem_cons_self hz hf) (by rfl) T.b_isinstance (by decide +kernel) (pa_cons (pv 5) (pa_cons (pe_glob (v := .ref A.C_NoTime) rfl T.e_NoTime.g rfl) pa_nil))) (pe_one (pe_callB (id := "isinstance") (r := rIsP K cls d a) (call_isP (a := a) List.mem_cons_self hz hf) (by rfl) T.b_isinstance (by decide +kernel) (pa_cons (pv 5) (pa_cons (pe_glob (v := .ref A.C_NoNumber) rfl T.e_NoNumber.g rfl) pa_nil)))))))))))) pss_nil)
      (pss_one (ps_ret pe_bl)))))), ?_⟩
    obtain ⟨dn, hnb⟩ := hN.ob
    obtain ⟨dp, hpb⟩ := hW.ob
    have f0 := nameOk_fine8 ok.1
    have f1 := nameOk_fine8 ok.2.1
    have f2 := nameOk_fine8 ok.2.2
    have f3 := nameOk_fine8 ok3
    have f5 := nameOk_fine8 ok5
    have afine := hK.fine ok ok3 ok5
    have nok0 : NetOk (base8 n0 n1) := base8_ok (gs := (base8 n0 n1).gates) ⟨⟨_, List.mem_cons_self ..⟩, ⟨_, List.mem_cons_of_mem _ (List.mem_cons_self ..)⟩⟩ hN.nd ne01
    have hgt := hN.gt
    have gsd : g ≠ sd := fun z => gW (by rw [z]; exact List.mem_cons_self ..)
    rcases hK.ask with rfl | rfl | rfl | rfl | rfl | rfl | rfl
    · walk_at "go"
      refine ⟨fun σ' H' => σ' = [some (.ref n), some (.ref p), some (.ref t), some (.str Rf.NoName.word), some (.ref Nm), none] ∧ H = H', ?_, ?_⟩
      · walk_at "go"
        first | exact ⟨rfl, rfl⟩ | exact rfl
      rintro σ' H' ⟨rfl, rfl⟩
      refine ⟨fun σ' H' => σ' = [some (.ref n), some (.ref p), some (.ref t), some (.str Rf.NoName.word), some (.ref Nm), none] ∧ H = H', ?_, ?_⟩
      · walk_at "go"
        first | exact ⟨rfl, rfl⟩ | exact rfl
      rintro σ' H' ⟨rfl, rfl⟩
      refine ⟨fun σ' H' => σ' = [some (.ref n), some (.ref p), some (.ref t), some (.str Rf.NoName.word), some (.ref Nm), none] ∧ H = H', ?_, ?_⟩
      · walk_at "go"
        first | exact ⟨rfl, rfl⟩ | exact rfl
      rintro σ' H' ⟨rfl, rfl⟩
      refine ⟨fun σ' H' => σ' = [some (.ref n), some (.ref p), some (.ref t), some (.str Rf.NoName.word), some (.ref Nm), none] ∧ Same H H', ?_, ?_⟩
      · walk_at "go"
        refine ⟨(by show 3 ≤ sizeLine; decide), fun L1 x1 => ?_⟩
        walk_at "go"
        refine ⟨L1, _, rfl, .inl (SqL.of upd_same), rfl, rfl, ?_⟩
        walk_at "go"
        exact same_up x1
      rintro σ' H' ⟨rfl, s1⟩
      walk_at "go"
      exact q _ (Keep.of_same s1)
    · walk_at "go"
      refine ⟨fun σ' H' => σ' = [some (.ref n), some (.ref p), some (.ref t), some (.str Rf.NoGate.word), some (.ref Nm), none] ∧ H = H', ?_, ?_⟩
      · walk_at "go"
        first | exact ⟨rfl, rfl⟩ | exact rfl
      rintro σ' H' ⟨rfl, rfl⟩
      refine ⟨fun σ' H' => σ' = [some (.ref n), some (.ref p), some (.ref t), some (.str Rf.NoGate.word), some (.ref Nm), none] ∧ H = H', ?_, ?_⟩
      · walk_at "go"
        first | exact ⟨rfl, rfl⟩ | exact rfl
      rintro σ' H' ⟨rfl, rfl⟩
      refine ⟨fun σ' H' => σ' = [some (.ref n), some (.ref p), some (.ref t), some (.str Rf.NoGate.word), some (.ref Nm), none] ∧ NetAt A.C_Net H' n g r ⟨(base8 n0 n1).gates ++ [(n2, true)], (base8 n0 n1).roads⟩ ∧ Keep [g] H H', ?_, ?_⟩
      · walk_at "go"
        refine ⟨n, dn, _, rfl, hnb, netF_no _ _ (by decide +kernel) (by decide +kernel), ?_⟩
        walk_at "go"
        refine ⟨Nm, _, _, _, rfl, rfl, SqL.of hNm, atI_nat (j := 2) rfl, ?_⟩
        walk_at "go"
        refine ⟨n, g, r, _, n2, true, rfl, hN, f2.1, f2.2, fun z => (by rw [ok.2.2.2.2] at z; cases z), fun _ z => absurd lk.s2 z, fun _ _ z => absurd z (by show ¬ 60 ≤ 2; decide), fun _ _ _ H' hN' k' => ?_⟩
        exact ⟨rfl, hN', k'⟩
      rintro σ' H1 ⟨rfl, hN1, k1⟩
      have ngs : ∀ x o, H x = some o → o ≠ .dK (gatesK (base8 n0 n1).gates) → x ∉ [g] := fun x o hx ne m => (by
        rw [List.mem_singleton] at m
        rw [m, hgt] at hx
        exact ne (Option.some.inj hx).symm)
      have hW1 : WatchAt A.C_Watch H1 p n sd W := hW.keep k1 (ngs _ _ hpb (by intro z; cases z)) (fun x hx m => (by rw [List.mem_singleton] at m; rw [m] at hx; exact gW hx))
      have ht1 := k1 _ _ ht (ngs _ _ ht (by intro z; cases z))
      have hls1 : a.lists H1 := hls.keep k1 fun x hx xs => ⟨fun z => ngs _ _ z (by intro z; cases z) hx, fun z => ngs _ _ z (by intro z; cases z) hx⟩
      have kF : Keep (g :: wfoot sd W) H H1 := k1.mono (by simp)
      have hm : (∃ c, (n0, c) ∈ (base8 n0 n1).gates ++ [(n2, true)]) ∧ ∃ c, (n1, c) ∈ (base8 n0 n1).gates ++ [(n2, true)] := ⟨⟨true, by simp [base8]⟩, ⟨false, by simp [base8]⟩⟩
      have nok1 : NetOk ⟨(base8 n0 n1).gates ++ [(n2, true)], (base8 n0 n1).roads⟩ := base8_ok hm hN1.nd ne01
      have sapp : ∀ nm, seesOf ((base8 n0 n1).gates ++ [(n2, true)]) nm = if nm = n2 then some true else seesOf (base8 n0 n1).gates nm := fun nm => seesOf_snoc nm lk.s2
      have okay : Okay8 ⟨(base8 n0 n1).gates ++ [(n2, true)], (base8 n0 n1).roads⟩ W a := hK.gated ok3 (by show seesOf ((base8 n0 n1).gates ++ [(n2, true)]) n0 ≠ none; rw [sapp]; split; simp; rw [lk.s0]; simp) (by show seesOf ((base8 n0 n1).gates ++ [(n2, true)]) n1 ≠ none; rw [sapp]; split; simp; rw [lk.s1]; simp) (by show seesOf ((base8 n0 n1).gates ++ [(n2, true)]) n2 = some true; rw [sapp, if_pos rfl]) fun x l hl => base8_few hm ne01 x l hl
      refine ⟨fun σ' H' => σ' = [some (.ref n), some (.ref p), some (.ref t), some (.str Rf.NoGate.word), some (.ref Nm), none] ∧ Keep (g :: wfoot sd W) H H', ?_, ?_⟩
      · walk_at "go"
        refine ⟨(by show 3 ≤ sizeLine; decide), fun L1 x1 => ?_⟩
        walk_at "go"
        refine ⟨L1, _, rfl, .inl (SqL.of upd_same), rfl, rfl, ?_⟩
        have s9 := same_up (o := HO.lst [V.str (Str.ofString "NoCar"), V.str (Str.ofString "Blind"), V.str (Str.ofString "NoGate")]) x1
        generalize upd H1 L1 (HO.lst [V.str (Str.ofString "NoCar"), V.str (Str.ofString "Blind"), V.str (Str.ofString "NoGate")]) = H9 at s9
        walk_at "go"
        refine ⟨n, g, r, p, sd, t, _, W, a, rfl, hN1.same s9, nok1, hW1.same s9, by omega, fun e he => (by have := wss e he; omega), s9 _ _ ht1, hls1.same s9, afine, ?_, fun z => ?_⟩
        · intro c' e H2 s2
          have w9 : Q (.bl true) H2 := q _ (kF.trans (Keep.of_same (s9.trans s2)))
          rcases okay with ⟨x, _⟩ | x | x
          · rw [x] at e; cases e
          · rw [x] at e
            obtain rfl := Option.some.inj e
            refine ⟨true, toll_err T .NoTime, fun _ ea ha => ?_, fun z => by cases z⟩
            dsimp only [List.set]
            walk_at "go"
            refine ⟨_, _, _, _, rfl, rfl, excC T .NoTime, rfl, ClsV.own _, isin T .NoTime .NoTime, ?_⟩
            walk_at "go"
            exact w9
          · rw [x] at e
            obtain rfl := Option.some.inj e
            refine ⟨true, toll_err T .NoNumber, fun _ ea ha => ?_, fun z => by cases z⟩
            dsimp only [List.set]
            walk_at "go"
            refine ⟨_, _, _, _, rfl, rfl, excC T .NoNumber, rfl, ClsV.own _, isin T .NoNumber .NoTime, ?_⟩
            walk_at "go"
            refine ⟨_, _, _, _, rfl, rfl, excC T .NoNumber, rfl, ClsV.own _, isin T .NoNumber .NoNumber, ?_⟩
            walk_at "go"
            exact w9
        · rcases okay with ⟨_, x⟩ | x | x
          · exact ⟨x, fun y H2 k2 => ⟨rfl, (kF.trans (Keep.of_same s9)).trans (k2.mono fun b hb => List.mem_cons_of_mem _ hb)⟩⟩
          · rw [x] at z; cases z
          · rw [x] at z; cases z
      rintro σ' H' ⟨rfl, k9⟩
      walk_at "go"
      exact q _ k9
    · walk_at "go"
      refine ⟨fun σ' H' => σ' = [some (.ref n), some (.ref p), some (.ref t), some (.str Rf.Blind.word), some (.ref Nm), none] ∧ H = H', ?_, ?_⟩
      · walk_at "go"
        first | exact ⟨rfl, rfl⟩ | exact rfl
      rintro σ' H' ⟨rfl, rfl⟩
      refine ⟨fun σ' H' => σ' = [some (.ref n), some (.ref p), some (.ref t), some (.str Rf.Blind.word), some (.ref Nm), none] ∧ NetAt A.C_Net H' n g r ⟨setSees (base8 n0 n1).gates n1 true, (base8 n0 n1).roads⟩ ∧ Keep [g] H H', ?_, ?_⟩
      · walk_at "go"
        refine ⟨n, dn, _, rfl, hnb, netF_no _ _ (by decide +kernel) (by decide +kernel), ?_⟩
        walk_at "go"
        refine ⟨Nm, _, _, _, rfl, rfl, SqL.of hNm, atI_nat (j := 1) rfl, ?_⟩
        walk_at "go"
        refine ⟨n, g, r, _, n1, rfl, hN, f1.1, f1.2, fun z => (by rw [lk.s1] at z; cases z), fun z => (by rw [lk.s1] at z; cases z), fun _ H' hN' k' => ?_⟩
        exact ⟨rfl, hN', k'⟩
      rintro σ' H1 ⟨rfl, hN1, k1⟩
      have ngs : ∀ x o, H x = some o → o ≠ .dK (gatesK (base8 n0 n1).gates) → x ∉ [g] := fun x o hx ne m => (by
        rw [List.mem_singleton] at m
        rw [m, hgt] at hx
        exact ne (Option.some.inj hx).symm)
      have hW1 : WatchAt A.C_Watch H1 p n sd W := hW.keep k1 (ngs _ _ hpb (by intro z; cases z)) (fun x hx m => (by rw [List.mem_singleton] at m; rw [m] at hx; exact gW hx))
      have ht1 := k1 _ _ ht (ngs _ _ ht (by intro z; cases z))
      have hls1 : a.lists H1 := hls.keep k1 fun x hx xs => ⟨fun z => ngs _ _ z (by intro z; cases z) hx, fun z => ngs _ _ z (by intro z; cases z) hx⟩
      have kF : Keep (g :: wfoot sd W) H H1 := k1.mono (by simp)
      have gs1 : seesOf (setSees (base8 n0 n1).gates n1 true) n1 = some true := (by rw [seesOf_set, lk.s1]; simp)
      have eS : setSees (base8 n0 n1).gates n1 true = [(n0, true), (n1, true)] := by simp [setSees, base8, ne01]
      have nok1 : NetOk ⟨setSees (base8 n0 n1).gates n1 true, (base8 n0 n1).roads⟩ := base8_ok ⟨⟨true, by rw [eS]; simp⟩, ⟨true, by rw [eS]; simp⟩⟩ hN1.nd ne01
      have okay : Okay8 ⟨setSees (base8 n0 n1).gates n1 true, (base8 n0 n1).roads⟩ W a := (by
        cases hK with
        | s2 => exact saw_okay ok3 gs1)
      refine ⟨fun σ' H' => σ' = [some (.ref n), some (.ref p), some (.ref t), some (.str Rf.Blind.word), some (.ref Nm), none] ∧ H1 = H', ?_, ?_⟩
      · walk_at "go"
        first | exact ⟨rfl, rfl⟩ | exact rfl
      rintro σ' H' ⟨rfl, rfl⟩
      refine ⟨fun σ' H' => σ' = [some (.ref n), some (.ref p), some (.ref t), some (.str Rf.Blind.word), some (.ref Nm), none] ∧ Keep (g :: wfoot sd W) H H', ?_, ?_⟩
      · walk_at "go"
        refine ⟨(by show 3 ≤ sizeLine; decide), fun L1 x1 => ?_⟩
        walk_at "go"
        refine ⟨L1, _, rfl, .inl (SqL.of upd_same), rfl, rfl, ?_⟩
        have s9 := same_up (o := HO.lst [V.str (Str.ofString "NoCar"), V.str (Str.ofString "Blind"), V.str (Str.ofString "NoGate")]) x1
        generalize upd H1 L1 (HO.lst [V.str (Str.ofString "NoCar"), V.str (Str.ofString "Blind"), V.str (Str.ofString "NoGate")]) = H9 at s9
        walk_at "go"
        refine ⟨n, g, r, p, sd, t, _, W, a, rfl, hN1.same s9, nok1, hW1.same s9, by omega, fun e he => (by have := wss e he; omega), s9 _ _ ht1, hls1.same s9, afine, ?_, fun z => ?_⟩
        · intro c' e H2 s2
          have w9 : Q (.bl true) H2 := q _ (kF.trans (Keep.of_same (s9.trans s2)))
          rcases okay with ⟨x, _⟩ | x | x
          · rw [x] at e; cases e
          · rw [x] at e
            obtain rfl := Option.some.inj e
            refine ⟨true, toll_err T .NoTime, fun _ ea ha => ?_, fun z => by cases z⟩
            dsimp only [List.set]
            walk_at "go"
            refine ⟨_, _, _, _, rfl, rfl, excC T .NoTime, rfl, ClsV.own _, isin T .NoTime .NoTime, ?_⟩
            walk_at "go"
            exact w9
          · rw [x] at e
            obtain rfl := Option.some.inj e
            refine ⟨true, toll_err T .NoNumber, fun _ ea ha => ?_, fun z => by cases z⟩
            dsimp only [List.set]
            walk_at "go"
            refine ⟨_, _, _, _, rfl, rfl, excC T .NoNumber, rfl, ClsV.own _, isin T .NoNumber .NoTime, ?_⟩
            walk_at "go"
            refine ⟨_, _, _, _, rfl, rfl, excC T .NoNumber, rfl, ClsV.own _, isin T .NoNumber .NoNumber, ?_⟩
            walk_at "go"
            exact w9
        · rcases okay with ⟨_, x⟩ | x | x
          · exact ⟨x, fun y H2 k2 => ⟨rfl, (kF.trans (Keep.of_same s9)).trans (k2.mono fun b hb => List.mem_cons_of_mem _ hb)⟩⟩
          · rw [x] at z; cases z
          · rw [x] at z; cases z
      rintro σ' H' ⟨rfl, k9⟩
      walk_at "go"
      exact q _ k9
    · walk_at "go"
      refine ⟨fun σ' H' => σ' = [some (.ref n), some (.ref p), some (.ref t), some (.str Rf.NoTime.word), some (.ref Nm), none] ∧ H = H', ?_, ?_⟩
      · walk_at "go"
        first | exact ⟨rfl, rfl⟩ | exact rfl
      rintro σ' H' ⟨rfl, rfl⟩
      refine ⟨fun σ' H' => σ' = [some (.ref n), some (.ref p), some (.ref t), some (.str Rf.NoTime.word), some (.ref Nm), none] ∧ H = H', ?_, ?_⟩
      · walk_at "go"
        first | exact ⟨rfl, rfl⟩ | exact rfl
      rintro σ' H' ⟨rfl, rfl⟩
      refine ⟨fun σ' H' => σ' = [some (.ref n), some (.ref p), some (.ref t), some (.str Rf.NoTime.word), some (.ref Nm), none] ∧ H = H', ?_, ?_⟩
      · walk_at "go"
        first | exact ⟨rfl, rfl⟩ | exact rfl
      rintro σ' H' ⟨rfl, rfl⟩
      refine ⟨fun σ' H' => σ' = [some (.ref n), some (.ref p), some (.ref t), some (.str Rf.NoTime.word), some (.ref Nm), none] ∧ Same H H', ?_, ?_⟩
      · walk_at "go"
        refine ⟨(by show 3 ≤ sizeLine; decide), fun L1 x1 => ?_⟩
        walk_at "go"
        refine ⟨L1, _, rfl, .inl (SqL.of upd_same), rfl, rfl, ?_⟩
        walk_at "go"
        exact same_up x1
      rintro σ' H' ⟨rfl, s1⟩
      walk_at "go"
      exact q _ (Keep.of_same s1)
    · walk_at "go"
      refine ⟨fun σ' H' => σ' = [some (.ref n), some (.ref p), some (.ref t), some (.str Rf.NoCar.word), some (.ref Nm), none] ∧ ∃ d, H d = none ∧ WatchAt A.C_Watch H' p n sd (W ++ [⟨c5, d, [(4, n0)]⟩]) ∧ Keep [sd] H H', ?_, ?_⟩
      · walk_at "go"
        refine ⟨p, dp, _, rfl, hpb, watchF_no _ _ (by decide +kernel) (by decide +kernel), ?_⟩
        walk_at "go"
        refine ⟨Nm, _, _, _, rfl, rfl, SqL.of hNm, atI_nat (j := 5) rfl, ?_⟩
        walk_at "go"
        refine ⟨Nm, _, _, _, rfl, rfl, SqL.of hNm, atI_nat (j := 0) rfl, ?_⟩
        walk_at "go"
        refine ⟨p, n, sd, g, r, base8 n0 n1, W, c5, n0, 4, rfl, hW, hN, f5.1, f5.2, f0.1, f0.2, abs_small (by decide) (by decide), fun z => (by rw [ok5.2.2] at z; cases z), fun _ z => (by rw [lk.s0] at z; cases z), fun _ z => (by rw [lk.s0] at z; cases z), fun _ _ z => absurd (by decide) z, fun _ _ _ _ => ⟨fun e he => (by rw [h5] at he; cases he), fun _ => by omega, fun _ H' d nd w' k => ?_, fun e he => (by rw [h5] at he; cases he), fun e he => (by rw [h5] at he; cases he)⟩⟩
        exact ⟨rfl, d, nd, w', k⟩
      rintro σ' H1 ⟨rfl, d, nd, hW1, k1⟩
      have nsd : ∀ x o, H x = some o → o ≠ .dK (carsK W) → x ∉ [sd] := fun x o hx ne m => (by
        rw [List.mem_singleton] at m
        rw [m, hW.sd] at hx
        exact ne (Option.some.inj hx).symm)
      have hN1 : NetAt A.C_Net H1 n g r (base8 n0 n1) := hN.keep k1 (nsd _ _ hnb (by intro z; cases z)) (by simpa using gsd) (fun m => (by obtain ⟨us, hr, _⟩ := hN.rt; exact nsd _ _ hr (by intro z; cases z) m)) (fun x hx xs z => nsd _ _ z (by intro z; cases z) hx)
      have ht1 := k1 _ _ ht (nsd _ _ ht (by intro z; cases z))
      have hls1 : a.lists H1 := hls.keep k1 fun x hx xs => ⟨fun z => nsd _ _ z (by intro z; cases z) hx, fun z => nsd _ _ z (by intro z; cases z) hx⟩
      have kF : Keep (g :: wfoot sd W) H H1 := k1.mono fun x hx => (by rw [List.mem_singleton] at hx; rw [hx]; exact List.mem_cons_of_mem _ (List.mem_cons_self ..))
      have c51 : carOf (W ++ [⟨c5, d, [(4, n0)]⟩]) c5 = some ⟨c5, d, [(4, n0)]⟩ := (by
        have h5' := h5
        unfold carOf at h5' ⊢
        rw [List.find?_append, h5']
        simp)
      have none8 : refusal8 (base8 n0 n1) (W ++ [⟨c5, d, [(4, n0)]⟩]) a = none ∧ a.able (base8 n0 n1) := (by
        cases hK with
        | c1 => exact ⟨r8_seen1 c51, trivial⟩
        | c2 => exact ⟨r8_forget1 c51, trivial⟩)
      refine ⟨fun σ' H' => σ' = [some (.ref n), some (.ref p), some (.ref t), some (.str Rf.NoCar.word), some (.ref Nm), none] ∧ H1 = H', ?_, ?_⟩
      · walk_at "go"
        first | exact ⟨rfl, rfl⟩ | exact rfl
      rintro σ' H' ⟨rfl, rfl⟩
      refine ⟨fun σ' H' => σ' = [some (.ref n), some (.ref p), some (.ref t), some (.str Rf.NoCar.word), some (.ref Nm), none] ∧ H1 = H', ?_, ?_⟩
      · walk_at "go"
        first | exact ⟨rfl, rfl⟩ | exact rfl
      rintro σ' H' ⟨rfl, rfl⟩
      refine ⟨fun σ' H' => σ' = [some (.ref n), some (.ref p), some (.ref t), some (.str Rf.NoCar.word), some (.ref Nm), none] ∧ Keep (g :: wfoot sd W) H H', ?_, ?_⟩
      · walk_at "go"
        refine ⟨(by show 3 ≤ sizeLine; decide), fun L1 x1 => ?_⟩
        walk_at "go"
        refine ⟨L1, _, rfl, .inl (SqL.of upd_same), rfl, rfl, ?_⟩
        have s9 := same_up (o := HO.lst [V.str (Str.ofString "NoCar"), V.str (Str.ofString "Blind"), V.str (Str.ofString "NoGate")]) x1
        generalize upd H1 L1 (HO.lst [V.str (Str.ofString "NoCar"), V.str (Str.ofString "Blind"), V.str (Str.ofString "NoGate")]) = H9 at s9
        walk_at "go"
        refine ⟨n, g, r, p, sd, t, base8 n0 n1, W ++ [⟨c5, d, [(4, n0)]⟩], a, rfl, hN1.same s9, nok0, hW1.same s9, by rw [List.length_append]; simp; omega, fun e he => ?_, s9 _ _ ht1, hls1.same s9, afine, fun c' e => (by rw [none8.1] at e; cases e), fun _ => ⟨none8.2, fun y H2 k2 => ?_⟩⟩
        · rcases List.mem_append.mp he with he | he
          · have := wss e he; omega
          · rw [List.mem_singleton] at he
            rw [he]
            show 1 < 900
            decide
        · refine ⟨rfl, fun b o hb nb => k2 b o (s9 _ _ (kF b o hb nb)) fun m => nb ?_⟩
          unfold wfoot at m ⊢
          rw [List.map_append] at m
          rcases List.mem_cons.mp m with z | z
          · rw [z]; simp
          rcases List.mem_append.mp z with z | z
          · simp [z]
          · have z : b = d := by simpa using z
            rw [z, nd] at hb
            cases hb
      rintro σ' H' ⟨rfl, k9⟩
      walk_at "go"
      exact q _ k9
    · walk_at "go"
      refine ⟨fun σ' H' => σ' = [some (.ref n), some (.ref p), some (.ref t), some (.str Rf.NoNumber.word), some (.ref Nm), none] ∧ H = H', ?_, ?_⟩
      · walk_at "go"
        first | exact ⟨rfl, rfl⟩ | exact rfl
      rintro σ' H' ⟨rfl, rfl⟩
      refine ⟨fun σ' H' => σ' = [some (.ref n), some (.ref p), some (.ref t), some (.str Rf.NoNumber.word), some (.ref Nm), none] ∧ H = H', ?_, ?_⟩
      · walk_at "go"
        first | exact ⟨rfl, rfl⟩ | exact rfl
      rintro σ' H' ⟨rfl, rfl⟩
      refine ⟨fun σ' H' => σ' = [some (.ref n), some (.ref p), some (.ref t), some (.str Rf.NoNumber.word), some (.ref Nm), none] ∧ H = H', ?_, ?_⟩
      · walk_at "go"
        first | exact ⟨rfl, rfl⟩ | exact rfl
      rintro σ' H' ⟨rfl, rfl⟩
      refine ⟨fun σ' H' => σ' = [some (.ref n), some (.ref p), some (.ref t), some (.str Rf.NoNumber.word), some (.ref Nm), none] ∧ Same H H', ?_, ?_⟩
      · walk_at "go"
        refine ⟨(by show 3 ≤ sizeLine; decide), fun L1 x1 => ?_⟩
        walk_at "go"
        refine ⟨L1, _, rfl, .inl (SqL.of upd_same), rfl, rfl, ?_⟩
        walk_at "go"
        exact same_up x1
      rintro σ' H' ⟨rfl, s1⟩
      walk_at "go"
      exact q _ (Keep.of_same s1)
    · walk_at "go"
      refine ⟨fun σ' H' => σ' = [some (.ref n), some (.ref p), some (.ref t), some (.str Rf.NoSight.word), some (.ref Nm), none] ∧ H = H', ?_, ?_⟩
      · walk_at "go"
        first | exact ⟨rfl, rfl⟩ | exact rfl
      rintro σ' H' ⟨rfl, rfl⟩
      refine ⟨fun σ' H' => σ' = [some (.ref n), some (.ref p), some (.ref t), some (.str Rf.NoSight.word), some (.ref Nm), none] ∧ H = H', ?_, ?_⟩
      · walk_at "go"
        first | exact ⟨rfl, rfl⟩ | exact rfl
      rintro σ' H' ⟨rfl, rfl⟩
      refine ⟨fun σ' H' => σ' = [some (.ref n), some (.ref p), some (.ref t), some (.str Rf.NoSight.word), some (.ref Nm), none] ∧ H = H', ?_, ?_⟩
      · walk_at "go"
        first | exact ⟨rfl, rfl⟩ | exact rfl
      rintro σ' H' ⟨rfl, rfl⟩
      refine ⟨fun σ' H' => σ' = [some (.ref n), some (.ref p), some (.ref t), some (.str Rf.NoSight.word), some (.ref Nm), none] ∧ Same H H', ?_, ?_⟩
      · walk_at "go"
        refine ⟨(by show 3 ≤ sizeLine; decide), fun L1 x1 => ?_⟩
        walk_at "go"
        refine ⟨L1, _, rfl, .inl (SqL.of upd_same), rfl, rfl, ?_⟩
        walk_at "go"
        exact same_up x1
      rintro σ' H' ⟨rfl, s1⟩
      walk_at "go"
      exact q _ (Keep.of_same s1)
end
end Toll

set_option Elab.async false
set_option linter.all false
set_option maxRecDepth 100000
set_option maxHeartbeats 4000000
namespace Toll
open PySem L2
local macro_rules | `(tactic| walk_at "go1") => `(tactic| first
  | refine ⟨_, rfl, ?_⟩
  | refine ⟨rfl, ?_⟩
  | refine ⟨_, _, rfl, rfl, ?_⟩
  | refine ⟨_, _, rfl, ?_⟩
  | (with_reducible refine' ⟨log_small ?k1 ?k2, ?_⟩; (case k1 => omega); (case k2 => omega))
  | (refine' ⟨?k1, ?_⟩; (case k1 => ((with_reducible show (_ : Int) < _); omega)))
  | (refine' ⟨⟨?k1, ?k2⟩, ?_⟩; (case k1 => omega); (case k2 => omega))
  | (refine' ⟨⟨?k1, ?k2, ?k3, ?k4⟩, ?_⟩; (case k1 => omega); (case k2 => omega); (case k3 => omega); (case k4 => omega))
  | (refine' ⟨.inl ⟨?k1, ?k2⟩, ?_⟩; (case k1 => omega); (case k2 => omega))
  | (refine' ⟨.inr ⟨?k1, ?k2⟩, ?_⟩; (case k1 => omega); (case k2 => omega))
  | (refine' ⟨Evl.sz_of ?k1, ?_⟩; (case k1 => omega))
  | (refine' ⟨?k1, ?_⟩; (case k1 => ((with_reducible show (_ : Int) ≤ _); omega)))
  | refine ⟨⟨_, rfl⟩, ?_⟩
  | refine .inl ⟨_, rfl, ?_⟩ | refine .inr ⟨_, rfl, ?_⟩
  | refine iteT ?_ | refine iteF ?_)
local macro_rules | `(tactic| walk_at "go") => `(tactic| repeat (walk_at "go1"))
local macro_rules | `(tactic| walk_at "ans") => `(tactic| (intro Q' q'; walk_at "go"; (try rw [dec_int]); (try rw [dec_str]); exact q'))
local macro_rules | `(tactic| walk_at "hp") => `(tactic| first | assumption | exact upd_same | (refine' up_same ?e ?h; (case e => assumption); (case h => walk_at "hp")) | (refine' upd_at ?n ?h; (case n => walk_at "ne"); (case h => walk_at "hp")))
local macro_rules | `(tactic| walk_at "ne") => `(tactic| first | assumption | (apply Ne.symm; assumption))
local macro_rules | `(tactic| walk_at "at") => `(tactic| first | exact atI_nat (j := 0) rfl | exact atI_nat (j := 1) rfl | exact atI_nat (j := 2) rfl | exact atI_nat (j := 3) rfl | exact atI_nat (j := 4) rfl)
local macro_rules | `(tactic| walk_at "step1") => `(tactic| first
  | walk_at "go1"
  | (apply ixL_step; (case h => walk_at "hp"); (case a => walk_at "at"))
  | (apply ixT_step; (case h => walk_at "hp"); (case a => walk_at "at"))
  | (apply lenL_step; (case h => walk_at "hp")))
local macro_rules | `(tactic| walk_at "step") => `(tactic| repeat (walk_at "step1"))
section
variable {P : Program} {w : World} {K : PySem.W.Frag} {mg : Str → Option Value} {base : Heap} {A : Ads}
/-- an asking as data -/
def A8.data : A8 → List PyData
  | .saw c g t => [.str "saw", .str c, .str g, .int t]
  | .seen c => [.str "seen", .str c]
  | .forget c => [.str "forget", .str c]
  | .reached g l => [.str "reached", .str g, .int l]
  | .leg x y l => [.str "leg", .str x, .str y, .int l]
  | .guess _ ss => [.str "guess", .list (ss.map seenD1)]
theorem A8.dp {H : Hp} {a : A8} (h : a.lists H) : DpAll K H a.vs a.data := by
  cases a with
  | saw c g t => exact .cons (.str _) (.cons (.str _) (.cons (.str _) (.cons (.int _) .nil)))
  | seen c => exact .cons (.str _) (.cons (.str _) .nil)
  | forget c => exact .cons (.str _) (.cons (.str _) .nil)
  | reached g l => exact .cons (.str _) (.cons (.str _) (.cons (.int _) .nil))
  | leg x y l => exact .cons (.str _) (.cons (.str _) (.cons (.str _) (.cons (.int _) .nil)))
  | guess S ss =>
    obtain ⟨us, h1, h2⟩ := h
    exact .cons (.str _) (.cons (dp_seen (SqL.of h1) h2) .nil)
theorem okD_up {j k : Nat} {d : PyData} (h : okD j d) (hj : j ≤ k) : okD k d := ⟨h.1, Nat.le_trans h.2 hj⟩
theorem A8.dok {a : A8} (h : a.fine) : okD 4 (.list a.data) := okD_list fun d hd => by
  have w : ∀ z : Str, PyData.strOk z = true → okD 3 (.str z) := fun z hz => okD_up (okD_str hz) (by decide)
  have n : ∀ z : Int, okD 3 (.int z) := fun z => okD_up (okD_int z) (by decide)
  cases a with
  | saw c g t =>
    simp only [A8.data, List.mem_cons, List.not_mem_nil, or_false] at hd
    rcases hd with rfl | rfl | rfl | rfl
    · exact w _ (by decide +kernel)
    · exact w _ h.1.2
    · exact w _ h.2.1.2
    · exact n _
  | seen c =>
    simp only [A8.data, List.mem_cons, List.not_mem_nil, or_false] at hd
    rcases hd with rfl | rfl
    · exact w _ (by decide +kernel)
    · exact w _ h.2
  | forget c =>
    simp only [A8.data, List.mem_cons, List.not_mem_nil, or_false] at hd
    rcases hd with rfl | rfl
    · exact w _ (by decide +kernel)
    · exact w _ h.2
  | reached g l =>
    simp only [A8.data, List.mem_cons, List.not_mem_nil, or_false] at hd
    rcases hd with rfl | rfl | rfl
    · exact w _ (by decide +kernel)
    · exact w _ h.2
    · exact n _
  | leg x y l =>
    simp only [A8.data, List.mem_cons, List.not_mem_nil, or_false] at hd
    rcases hd with rfl | rfl | rfl | rfl
    · exact w _ (by decide +kernel)
    · exact w _ h.1.2
    · exact w _ h.2.2
    · exact n _
  | guess S ss =>
    simp only [A8.data, List.mem_cons, List.not_mem_nil, or_false] at hd
    rcases hd with rfl | rfl
    · exact w _ (by decide +kernel)
    · exact okD_up (seenL_ok fun q hq => (h.2 q hq).2) (by decide)
theorem A8.word (a : A8) : (∃ S ss, a = .guess S ss) ∨ ∃ w rest, a.vs = .str w :: rest ∧ w ≠ "guess" := by
  cases a with
  | guess S ss => exact .inl ⟨_, _, rfl⟩
  | saw => exact .inr ⟨_, _, rfl, by decide +kernel⟩
  | seen => exact .inr ⟨_, _, rfl, by decide +kernel⟩
  | forget => exact .inr ⟨_, _, rfl, by decide +kernel⟩
  | reached => exact .inr ⟨_, _, rfl, by decide +kernel⟩
  | leg => exact .inr ⟨_, _, rfl, by decide +kernel⟩
theorem A8.vs_len (a : A8) : 1 ≤ a.vs.length ∧ a.vs.length ≤ 4 := by cases a <;> simp [A8.vs]
def spLaw (K : PySem.W.Frag) : Sp := fun vs H Q _ => ∃ (a : Addr) (ns : List Int), vs = [.ref a] ∧ SqL K H a (ns.map V.int) ∧ ns.length ≤ 63 ∧ ∀ H', Q (.bl true) H'
theorem ok_law {f : Addr} {fd : FuncData} (F : Fun K "law" "law" s_law f fd) (T : Txt K mg A) : FnOk P w K mg base CX0 8 f fd ["_law_script"] (spLaw K) := by
  obtain ⟨_, G_l_mixed, B_l_mixed, K_l_mixed⟩ := ok_l_mixed (P := P) (w := w) (base := base) T
  obtain ⟨_, G_l_name, B_l_name, K_l_name⟩ := ok_l_name (P := P) (w := w) (base := base) T
  obtain ⟨_, G_N_init, B_N_init, K_N_init⟩ := ok_N_init (P := P) (w := w) (base := base) T
  obtain ⟨_, G_N_gate, B_N_gate, K_N_gate⟩ := ok_N_gate (P := P) (w := w) (base := base) T
  obtain ⟨_, G_N_road, B_N_road, K_N_road⟩ := ok_N_road (P := P) (w := w) (base := base) T
  obtain ⟨_, G_W_init, B_W_init, K_W_init⟩ := ok_W_init (P := P) (w := w) (base := base) T
  obtain ⟨_, G_W_saw, B_W_saw, K_W_saw⟩ := ok_W_saw (P := P) (w := w) (base := base) T
  obtain ⟨_, G_l_bad_asking, B_l_bad_asking, K_l_bad_asking⟩ := ok_l_bad_asking (P := P) (w := w) (base := base) T
  obtain ⟨_, G_l_refused, B_l_refused, K_l_refused⟩ := ok_l_refused (P := P) (w := w) (base := base) T
  obtain ⟨_, G_W_cars, B_W_cars, K_W_cars⟩ := ok_W_cars (P := P) (w := w) (base := base) T
  obtain ⟨_, G_W_seen, B_W_seen, K_W_seen⟩ := ok_W_seen (P := P) (w := w) (base := base) T
  obtain ⟨_, G_l_made_good, B_l_made_good, K_l_made_good⟩ := ok_l_made_good (P := P) (w := w) (base := base) T
  refine F.ok sc_law (fun vs H Q E h => ?_) (fun cdv A' outer s H vs Q E hr h => ?_)
  · obtain ⟨a, ns, rfl, _⟩ := h
    rfl
  · obtain ⟨a, ns, rfl, hS, hl, q⟩ := h
    have hu := hu_of hr
    refine ⟨_, (pss_cons (ps_set (i := 1) sc_law.nd rfl (by first | exact Or.inl rfl | exact Or.inr rfl) (pe_call G_l_mixed (hr.mono (by decide)) rfl T.m_l_mixed K_l_mixed B_l_mixed .nil pass0 (pa_cons (pv 0) (pa_cons pe_int pa_nil))))
      (pss_cons (ps_set (i := 2) sc_law.nd rfl (by first | exact Or.inl rfl | exact Or.inr rfl) (pe_op op_cat (pe_lc (own := [("_law_turn", 8)]) rfl sc_law.nd (pi_range1 (by rfl) T.b_range (pa_cons pe_int pa_nil)) (blkOk_by (own := [("_law_turn", 8)]) (N := n_law) (sc := defScope s_law) (by decide +kernel)) (fun _ _ _ _ _ => (pg_name (i := 8) sc_law.nd rfl (by first | exact Or.inl rfl | exact Or.inr rfl))) (fun _ _ _ _ _ => pts_nil) (fun _ _ _ _ _ => (pe_call G_l_name (hr.mono (by decide)) rfl T.m_l_name K_l_name B_l_name .nil pass0 (pa_cons (pv 1) (pa_cons (pv 8) pa_nil))))) (pe_lc (own := [("_law_turn", 8)]) rfl sc_law.nd (pi_range1 (by rfl) T.b_range (pa_cons pe_int pa_nil)) (blkOk_by (own := [("_law_turn", 8)]) (N := n_law) (sc := defScope s_law) (by decide +kernel)) (fun _ _ _ _ _ => (pg_name (i := 8) sc_law.nd rfl (by first | exact Or.inl rfl | exact Or.inr rfl))) (fun _ _ _ _ _ => pts_nil) (fun _ _ _ _ _ => (pe_call G_l_name (hr.mono (by decide)) rfl T.m_l_name K_l_name B_l_name .nil pass0 (pa_cons (pe_op op_fdiv (pv 1) pe_int) (pa_cons (pv 8) pa_nil)))))))
      (pss_cons (ps_for PassesOwn.never rfl (pi_range1 (by rfl) T.b_range (pa_cons (pe_op op_add pe_int (pe_op op_fdiv (pe_callB call_len_seq (by rfl) T.b_len PySem.boot_len (pa_cons (pv 0) pa_nil)) pe_int)) pa_nil)) (pg_name (i := 3) sc_law.nd rfl (by first | exact Or.inl rfl | exact Or.inr rfl)) (pss_cons (ps_set (i := 4) sc_law.nd rfl (by first | exact Or.inl rfl | exact Or.inr rfl) (pe_make0 T.M_Net G_N_init (hr.mono (by decide)) rfl T.g_Net B_N_init .nil pass0))
      (pss_cons (ps_expr (pe_meth (pv 4) T.c_Net T.M_N_gate G_N_gate (hr.mono (by decide)) B_N_gate .nil passF (pa_cons (pe_ix (r := rIxL K) ix_list (pv 2) pe_int (fun _ _ => rfl)) (pa_cons pe_bl pa_nil))))
      (pss_cons (ps_expr (pe_meth (pv 4) T.c_Net T.M_N_gate G_N_gate (hr.mono (by decide)) B_N_gate .nil passF (pa_cons (pe_ix (r := rIxL K) ix_list (pv 2) pe_int (fun _ _ => rfl)) (pa_cons pe_bl pa_nil))))
      (pss_cons (ps_expr (pe_meth (pv 4) T.c_Net T.M_N_road G_N_road (hr.mono (by decide)) B_N_road .nil passF (pa_cons (pe_ix (r := rIxL K) ix_list (pv 2) pe_int (fun _ _ => rfl)) (pa_cons (pe_ix (r := rIxL K) ix_list (pv 2) pe_int (fun _ _ => rfl)) (pa_cons pe_int (pa_cons pe_int pa_nil))))))
      (pss_cons (ps_expr (pe_meth (pv 4) T.c_Net T.M_N_road G_N_road (hr.mono (by decide)) B_N_road .nil passF (pa_cons (pe_ix (r := rIxL K) ix_list (pv 2) pe_int (fun _ _ => rfl)) (pa_cons (pe_ix (r := rIxL K) ix_list (pv 2) pe_int (fun _ _ => rfl)) (pa_cons pe_int (pa_cons pe_int pa_nil))))))
      (pss_cons (ps_set (i := 5) sc_law.nd rfl (by first | exact Or.inl rfl | exact Or.inr rfl) (pe_make T.M_Watch G_W_init (hr.mono (by decide)) rfl T.g_Watch B_W_init .nil pass0 (pa_cons (pv 4) pa_nil)))
      (pss_cons (ps_expr (pe_meth (pv 5) T.c_Watch T.M_W_saw G_W_saw (hr.mono (by decide)) B_W_saw .nil passF (pa_cons (pe_ix (r := rIxL K) ix_list (pv 2) pe_int (fun _ _ => rfl)) (pa_cons (pe_ix (r := rIxL K) ix_list (pv 2) pe_int (fun _ _ => rfl)) (pa_cons pe_int pa_nil)))))
      (pss_cons (ps_expr (pe_meth (pv 5) T.c_Watch T.M_W_saw G_W_saw (hr.mono (by decide)) B_W_saw .nil passF (pa_cons (pe_ix (r := rIxL K) ix_list (pv 2) pe_int (fun _ _ => rfl)) (pa_cons (pe_ix (r := rIxL K) ix_list (pv 2) pe_int (fun _ _ => rfl)) (pa_cons pe_int pa_nil)))))
      (pss_cons (ps_set (i := 6) sc_law.nd rfl (by first | exact Or.inl rfl | exact Or.inr rfl) (pe_call G_l_bad_asking (hr.mono (by decide)) rfl T.m_l_bad_asking K_l_bad_asking B_l_bad_asking .nil pass0 (pa_cons (pe_op op_fdiv (pe_call G_l_mixed (hr.mono (by decide)) rfl T.m_l_mixed K_l_mixed B_l_mixed .nil pass0 (pa_cons (pv 0) (pa_cons (pe_op op_add (pe_op op_mul pe_int (pv 3)) pe_int) pa_nil))) pe_int) (pa_cons (pv 2) pa_nil))))
      (pss_cons (ps_set (i := 7) sc_law.nd rfl (by first | exact Or.inl rfl | exact Or.inr rfl) (pe_callTy call_list_of (by rfl) T.b_list (by decide +kernel) (pa_cons (pe_ix (r := rIxL K) ix_list (pv 6) pe_int (fun _ _ => rfl)) pa_nil)))
      (C8.pss_cut (ps_if (pt_cmpR op_eq (pe_ix (r := rIxT K) ix_tup (pe_ix (r := rIxL K) ix_list (pv 6) pe_int (fun _ _ => rfl)) pe_int (fun _ _ => rfl)) pe_str (nomark _)) (pss_one (ps_asg (pe_callTy call_list_of (by rfl) T.b_list (by decide +kernel) (pa_cons (pe_ix (r := rIxT K) ix_tup (pe_ix (r := rIxL K) ix_list (pv 6) pe_int (fun _ _ => rfl)) pe_int (fun _ _ => rfl)) pa_nil)) (pg_sub (pv 7) pe_int set_list))) pss_nil)
      (pss_cons (ps_if (PW.pt (pw_or (pt_not (pt_val (pe_call G_l_refused (hr.mono (by decide)) rfl T.m_l_refused K_l_refused B_l_refused .nil pass0 (pa_cons (pv 4) (pa_cons (pv 5) (pa_cons (pe_ix (r := rIxL K) ix_list (pv 6) pe_int (fun _ _ => rfl)) (pa_cons (pe_ix (r := rIxL K) ix_list (pv 6) pe_int (fun _ _ => rfl)) pa_nil))))))) (pw_or1 (pt_not (pt_val (pe_call G_l_refused (hr.mono (by decide)) rfl T.m_l_refused K_l_refused B_l_refused .nil pass0 (pa_cons (pv 4) (pa_cons (pv 5) (pa_cons (pe_ix (r := rIxL K) ix_list (pv 6) pe_int (fun _ _ => rfl)) (pa_cons (pe_ix (r := rIxL K) ix_list (pv 6) pe_int (fun _ _ => rfl)) pa_nil)))))))))) (pss_one (ps_ret pe_bl)) pss_nil)
      (pss_cons (ps_if (PW.pt (pw_or (pt_cmpR (op_neD hr.units) (pe_callTy call_list_of (by rfl) T.b_list (by decide +kernel) (pa_cons (pe_ix (r := rIxL K) ix_list (pv 6) pe_int (fun _ _ => rfl)) pa_nil)) (pv 7) (nomark _)) (pw_or1 (pt_cmpR (op_neD hr.units) (pe_meth0 (pv 5) T.c_Watch T.M_W_cars G_W_cars (hr.mono (by decide)) B_W_cars .nil pass0) (pe_callB cr_sortedS (by rfl) T.b_sorted (by decide +kernel) (pa_cons (pe_slice sl_list (pv 2) (po_some pe_int) (po_some pe_int)) pa_nil)) (nomark _))))) (pss_one (ps_ret pe_bl)) pss_nil)
      (pss_cons (ps_if (PW.pt (pw_or (pt_cmpR (op_neD hr.units) (pe_meth (pv 5) T.c_Watch T.M_W_seen G_W_seen (hr.mono (by decide)) B_W_seen .nil passF (pa_cons (pe_ix (r := rIxL K) ix_list (pv 2) pe_int (fun _ _ => rfl)) pa_nil)) (pe_lst (pa_cons (pe_tup (pa_cons pe_int (pa_cons (pe_ix (r := rIxL K) ix_list (pv 2) pe_int (fun _ _ => rfl)) pa_nil))) pa_nil)) (nomark _)) (pw_or1 (pt_cmpR (op_neD hr.units) (pe_meth (pv 5) T.c_Watch T.M_W_seen G_W_seen (hr.mono (by decide)) B_W_seen .nil passF (pa_cons (pe_ix (r := rIxL K) ix_list (pv 2) pe_int (fun _ _ => rfl)) pa_nil)) (pe_lst (pa_cons (pe_tup (pa_cons pe_int (pa_cons (pe_ix (r := rIxL K) ix_list (pv 2) pe_int (fun _ _ => rfl)) pa_nil))) pa_nil)) (nomark _))))) (pss_one (ps_ret pe_bl)) pss_nil)
      (pss_one (ps_if (pt_not (pt_val (pe_call G_l_made_good (hr.mono (by decide)) rfl T.m_l_made_good K_l_made_good B_l_made_good .nil pass0 (pa_cons (pv 4) (pa_cons (pv 5) (pa_cons (pe_ix (r := rIxL K) ix_list (pv 6) pe_int (fun _ _ => rfl)) (pa_cons (pe_ix (r := rIxL K) ix_list (pv 6) pe_int (fun _ _ => rfl)) (pa_cons (pv 2) pa_nil)))))))) (pss_one (ps_ret pe_bl)) pss_nil)))))))))))))))))
      (pss_one (ps_ret pe_bl))))), ?_⟩
    walk_at "go"
    refine ⟨a, ns, 3, rfl, hS, by decide, by decide, ?_⟩
    have m3 := mixed_pos ns 3
    generalize mixed ns 3 = b at m3
    walk_at "go"
    intro D0 nD0
    refine lc_range (lo := 0) (n := 3) (fun i H' => Same H H' ∧ H' D0 = some (.lst ((List.range i).map fun k : Nat => V.str (nameOf b (k : Int)))))
      ⟨same_up nD0, upd_same⟩ ?_ ?_
    · rintro i H2 hi ⟨s2, hD2⟩
      refine ⟨rfl, ?_⟩
      walk_at "go"
      intro H3 s3
      refine ⟨_, s3 _ _ hD2, small1000 (by rw [List.length_map, List.length_range]; omega), same_new (s2.trans s3) nD0, ?_⟩
      rw [upd_same, List.range_succ, List.map_append, Int.zero_add]
      rfl
    rintro H1 ⟨s1, hD0⟩
    replace hD0 : H1 D0 = some (.lst [.str (nameOf b 0), .str (nameOf b 1), .str (nameOf b 2)]) := hD0
    walk_at "go"
    intro D1 nD1
    refine lc_range (lo := 0) (n := 3) (fun i H' => Same H1 H' ∧ H' D1 = some (.lst ((List.range i).map fun k : Nat => V.str (nameOf (b / 5) (k : Int)))))
      ⟨same_up nD1, upd_same⟩ ?_ ?_
    · rintro i H2 hi ⟨s2, hD2⟩
      refine ⟨rfl, ?_⟩
      walk_at "go"
      intro H3 s3
      refine ⟨_, s3 _ _ hD2, small1000 (by rw [List.length_map, List.length_range]; omega), same_new (s2.trans s3) nD1, ?_⟩
      rw [upd_same, List.range_succ, List.map_append, Int.zero_add]
      rfl
    rintro H2 ⟨s2, hD1⟩
    replace hD1 : H2 D1 = some (.lst [.str (nameOf (b / 5) 0), .str (nameOf (b / 5) 1), .str (nameOf (b / 5) 2)]) := hD1
    refine ⟨D0, D1, _, _, rfl, rfl, s2 _ _ hD0, hD1, (by show 6 ≤ sizeLine; decide), fun Nm nNm => ?_⟩
    have inj0 : ∀ s t : Int, 0 ≤ s → s < 8 → 0 ≤ t → t < 8 → s ≠ t → nameOf b s ≠ nameOf b t := fun s t h1 h2 h3 h4 h e => h (nameOf_inj8 m3.1 h1 h2 h3 h4 e)
    have inj1 : ∀ s t : Int, 0 ≤ s → s < 8 → 0 ≤ t → t < 8 → s ≠ t → nameOf (b / 5) s ≠ nameOf (b / 5) t := fun s t h1 h2 h3 h4 h e => h (nameOf_inj8 (by omega) h1 h2 h3 h4 e)
    have n01 := inj0 0 1 (by decide) (by decide) (by decide) (by decide) (by decide)
    have n02 := inj0 0 2 (by decide) (by decide) (by decide) (by decide) (by decide)
    have n12 := inj0 1 2 (by decide) (by decide) (by decide) (by decide) (by decide)
    have c34 := inj1 0 1 (by decide) (by decide) (by decide) (by decide) (by decide)
    have c35 := inj1 0 2 (by decide) (by decide) (by decide) (by decide) (by decide)
    have c45 := inj1 1 2 (by decide) (by decide) (by decide) (by decide) (by decide)
    have ok0 : NameOk (nameOf b 0) := nameOk_of (by decide) (by decide)
    have ok1 : NameOk (nameOf b 1) := nameOk_of (by decide) (by decide)
    have ok2 : NameOk (nameOf b 2) := nameOk_of (by decide) (by decide)
    have ok3 : NameOk (nameOf (b / 5) 0) := nameOk_of (by decide) (by decide)
    have ok4 : NameOk (nameOf (b / 5) 1) := nameOk_of (by decide) (by decide)
    have ok5 : NameOk (nameOf (b / 5) 2) := nameOk_of (by decide) (by decide)
    generalize nameOf b 0 = n0 at *
    generalize nameOf b 1 = n1 at *
    generalize nameOf b 2 = n2 at *
    generalize nameOf (b / 5) 0 = c3 at *
    generalize nameOf (b / 5) 1 = c4 at *
    generalize nameOf (b / 5) 2 = c5 at *
    have s3 : Same H2 (upd H2 Nm (.lst ([.str n0, .str n1, .str n2] ++ [.str c3, .str c4, .str c5]))) := same_up nNm
    have hNm : (upd H2 Nm (.lst ([.str n0, .str n1, .str n2] ++ [.str c3, .str c4, .str c5]))) Nm = some (.lst [.str n0, .str n1, .str n2, .str c3, .str c4, .str c5]) := upd_same
    generalize upd H2 Nm (.lst ([.str n0, .str n1, .str n2] ++ [.str c3, .str c4, .str c5])) = H3 at s3 hNm
    replace s3 := s1.trans (s2.trans s3)
    clear s1 s2 hD0 hD1 nD0 nD1 nNm inj0 inj1
    walk_at "go"
    refine ⟨a, _, rfl, .inl (s3.seq hS), ?_⟩
    rw [List.length_map]
    walk_at "go"
    refine for_range (lo := 0) (n := _) (fun i σ' H' => ∃ v3 v4 v5 v6 v7, σ' = [some (.ref a), some (.int b), some (.ref Nm), v3, v4, v5, v6, v7, none] ∧ Same H3 H')
      ⟨none, none, none, none, none, rfl, Same.refl _⟩ ?_ ?_
    · rintro i σ' H4 hi ⟨v3, v4, v5, v6, v7, rfl, s4⟩
      have hi : i < 22 := by omega
      walk_at "go"
      intro p dx np nd ne
      refine ⟨p, dx, rfl, upd_same, fun g r H5 ng nr hN0 k0 => ⟨rfl, ?_⟩⟩
      have sa : Same H4 (upd (upd H4 dx (.own p)) p (.ins A.C_Net dx [])) := same_new (same_up nd) np
      have s5 : Same H4 H5 := same_keep sa k0 fun x hx => by rw [List.mem_singleton] at hx; rw [hx]; exact np
      have ng4 : H4 g = none := sa.free ng
      have nr4 : H4 r = none := sa.free nr
      have hNm4 := s4 _ _ hNm
      clear k0 sa ng nr nd ne np
      have i1 : isName n0.cps.toList = true := ok0.2.2
      have i2 : isName n1.cps.toList = true := ok1.2.2
      have st : ∀ {H' : Hp}, Keep [g, r] H5 H' → H' Nm = some (.lst [.str n0, .str n1, .str n2, .str c3, .str c4, .str c5]) := fun {H'} k => k _ _ (s5 _ _ hNm4) (by
        have a1 : Nm ≠ g := ne_of_none hNm4 ng4
        have a2 : Nm ≠ r := ne_of_none hNm4 nr4
        simp [a1, a2])
      obtain ⟨dx, hob⟩ := hN0.ob
      walk_at "go"
      refine ⟨p, dx, _, rfl, hob, netF_no _ _ (by decide +kernel) (by decide +kernel), ?_⟩
      walk_at "go"
      refine ⟨Nm, _, _, _, rfl, rfl, SqL.of (st (Keep.of_same (Same.refl _))), atI_nat (j := 0) rfl, ?_⟩
      walk_at "go"
      refine ⟨p, g, r, _, n0, true, rfl, hN0, Nat.le_trans ok0.1 (by decide), ok0.2.1, fun z => (by rw [i1] at z; cases z), fun _ z => absurd (seesOf_nil _) z, fun _ _ z => absurd z (by show ¬ 60 ≤ 0; decide), fun _ _ _ H6 hN2 k2 => ?_⟩
      replace k2 : Keep [g, r] H5 H6 := k2.mono (by simp)
      obtain ⟨dx, hob⟩ := hN2.ob
      walk_at "go"
      refine ⟨p, dx, _, rfl, hob, netF_no _ _ (by decide +kernel) (by decide +kernel), ?_⟩
      walk_at "go"
      refine ⟨Nm, _, _, _, rfl, rfl, SqL.of (st k2), atI_nat (j := 1) rfl, ?_⟩
      walk_at "go"
      have se2 : seesOf ([] ++ [(n0, true)]) n1 = none := by simp [seesOf, n01]
      refine ⟨p, g, r, _, n1, false, rfl, hN2, Nat.le_trans ok1.1 (by decide), ok1.2.1, fun z => (by rw [i2] at z; cases z), fun _ z => absurd se2 z, fun _ _ z => absurd z (by show ¬ 60 ≤ 1; decide), fun _ _ _ H7 hN3 k3 => ?_⟩
      replace k3 : Keep [g, r] H5 H7 := k2.trans (k3.mono (by simp))
      clear k2 hN2 hN0
      obtain ⟨dx, hob⟩ := hN3.ob
      have e30 : seesOf [(n0, true), (n1, false)] n0 = some true := by simp [seesOf]
      have e31 : seesOf [(n0, true), (n1, false)] n1 = some false := by simp [seesOf, n01]
      replace hN3 : NetAt A.C_Net H7 p g r ⟨[(n0, true), (n1, false)], []⟩ := hN3
      walk_at "go"
      refine ⟨p, dx, _, rfl, hob, netF_no _ _ (by decide +kernel) (by decide +kernel), ?_⟩
      walk_at "go"
      refine ⟨Nm, _, _, _, rfl, rfl, SqL.of (st k3), atI_nat (j := 0) rfl, ?_⟩
      walk_at "go"
      refine ⟨Nm, _, _, _, rfl, rfl, SqL.of (st k3), atI_nat (j := 1) rfl, ?_⟩
      walk_at "go"
      refine ⟨p, g, r, _, n0, n1, 3, 4, rfl, hN3, Nat.le_trans ok0.1 (by decide), ok0.2.1, Nat.le_trans ok1.1 (by decide), ok1.2.1, fun z => ?_, fun _ _ z => absurd z n01, fun _ _ _ z => absurd (by decide) z, fun _ _ _ _ z => absurd z (by show ¬ 200 ≤ 0; decide), fun _ _ _ _ _ H8 hN4 k4 => ?_⟩
      · rw [e30, e31] at z
        rcases z with z | z <;> cases z
      replace k4 : Keep [g, r] H5 H8 := k3.trans (k4.mono (by simp))
      obtain ⟨dx, hob⟩ := hN4.ob
      walk_at "go"
      refine ⟨p, dx, _, rfl, hob, netF_no _ _ (by decide +kernel) (by decide +kernel), ?_⟩
      walk_at "go"
      refine ⟨Nm, _, _, _, rfl, rfl, SqL.of (st k4), atI_nat (j := 1) rfl, ?_⟩
      walk_at "go"
      refine ⟨Nm, _, _, _, rfl, rfl, SqL.of (st k4), atI_nat (j := 0) rfl, ?_⟩
      walk_at "go"
      refine ⟨p, g, r, _, n1, n0, 5, 6, rfl, hN4, Nat.le_trans ok1.1 (by decide), ok1.2.1, Nat.le_trans ok0.1 (by decide), ok0.2.1, fun z => ?_, fun _ _ z => absurd z.symm n01, fun _ _ _ z => absurd (by decide) z, fun _ _ _ _ z => absurd z (by show ¬ 200 ≤ 1; decide), fun _ _ _ _ _ H9 hN5 k5 => ?_⟩
      · have z : seesOf [(n0, true), (n1, false)] n1 = none ∨ seesOf [(n0, true), (n1, false)] n0 = none := z
        rw [e30, e31] at z
        rcases z with z | z <;> cases z
      replace k5 : Keep [g, r] H5 H9 := k4.trans (k5.mono (by simp))
      replace hN5 : NetAt A.C_Net H9 p g r (base8 n0 n1) := hN5
      have s49 : Same H4 H9 := same_keep s5 k5 fun x hx => by
        simp only [List.mem_cons, List.not_mem_nil, or_false] at hx
        rcases hx with rfl | rfl
        · exact ng4
        · exact nr4
      clear k3 k4 k5 hN3 hN4 hob st s5 e30 e31 se2
      walk_at "go"
      intro wp wdx nwp nwd nwe
      refine ⟨wp, wdx, p, rfl, upd_same, fun sd Ha nsd hW0 kw => ⟨rfl, ?_⟩⟩
      have sa : Same H9 (upd (upd H9 wdx (.own wp)) wp (.ins A.C_Watch wdx [])) := same_new (same_up nwd) nwp
      have s9a : Same H9 Ha := same_keep sa kw fun x hx => by rw [List.mem_singleton] at hx; rw [hx]; exact nwp
      replace nsd : H9 sd = none := sa.free nsd
      clear kw sa nwp nwd nwe
      have gsd : g ≠ sd := ne_of_none hN5.gt nsd
      have hNa := hN5.same s9a
      have lk := base8_like n01 n02 n12
      have f0 := nameOk_fine8 ok0
      have f3 := nameOk_fine8 ok3
      have f4 := nameOk_fine8 ok4
      obtain ⟨dp, hpb⟩ := hW0.ob
      have hNma := s9a _ _ (s49 _ _ hNm4)
      walk_at "go"
      refine ⟨wp, dp, _, rfl, hpb, watchF_no _ _ (by decide +kernel) (by decide +kernel), ?_⟩
      walk_at "go"
      refine ⟨Nm, _, _, _, rfl, rfl, SqL.of hNma, atI_nat (j := 3) rfl, ?_⟩
      walk_at "go"
      refine ⟨Nm, _, _, _, rfl, rfl, SqL.of hNma, atI_nat (j := 0) rfl, ?_⟩
      walk_at "go"
      refine ⟨wp, p, sd, g, r, base8 n0 n1, [], c3, n0, 1, rfl, hW0, hNa, f3.1, f3.2, f0.1, f0.2, abs_small (by decide) (by decide), fun z => (by rw [ok3.2.2] at z; cases z), fun _ z => (by rw [lk.s0] at z; cases z), fun _ z => (by rw [lk.s0] at z; cases z), fun _ _ z => absurd (by decide) z, fun _ _ _ _ => ⟨fun e he => (by cases he), fun _ => (by decide), fun _ Hb d3 nd3 hW1 kb => ?_, fun e he => (by cases he), fun e he => (by cases he)⟩⟩
      have nL : ∀ {H' : Hp} {cs : List (Key × V)} x o, H' sd = some (.dK cs) → H' x = some o → o ≠ .dK cs → x ∉ [sd] := fun {H' cs} x o hs hx ne m => (by
        rw [List.mem_singleton] at m
        rw [m, hs] at hx
        exact ne (Option.some.inj hx).symm)
      have keepN : ∀ {H' H'' : Hp} {cs : List (Key × V)}, NetAt A.C_Net H' p g r (base8 n0 n1) → H' sd = some (.dK cs) → Keep [sd] H' H'' → NetAt A.C_Net H'' p g r (base8 n0 n1) := fun {H' H'' cs} hN hs k => by
        obtain ⟨dn, hnb⟩ := hN.ob
        obtain ⟨us, hrt, _⟩ := hN.rt
        exact hN.keep k (nL _ _ hs hnb (by intro z; cases z)) (by simpa using gsd) (nL _ _ hs hrt (by intro z; cases z)) (fun x hx xs z => nL _ _ hs z (by intro z; cases z) hx)
      have hNb := keepN hNa hW0.sd kb
      have hNmb := kb _ _ hNma (nL _ _ hW0.sd hNma (by intro z; cases z))
      obtain ⟨dp, hpb⟩ := hW1.ob
      walk_at "go"
      refine ⟨wp, dp, _, rfl, hpb, watchF_no _ _ (by decide +kernel) (by decide +kernel), ?_⟩
      walk_at "go"
      refine ⟨Nm, _, _, _, rfl, rfl, SqL.of hNmb, atI_nat (j := 4) rfl, ?_⟩
      walk_at "go"
      refine ⟨Nm, _, _, _, rfl, rfl, SqL.of hNmb, atI_nat (j := 0) rfl, ?_⟩
      walk_at "go"
      have no4 : carOf ([] ++ [⟨c3, d3, [(1, n0)]⟩]) c4 = none := by simp [carOf, c34]
      refine ⟨wp, p, sd, g, r, base8 n0 n1, _, c4, n0, 2, rfl, hW1, hNb, f4.1, f4.2, f0.1, f0.2, abs_small (by decide) (by decide), fun z => (by rw [ok4.2.2] at z; cases z), fun _ z => (by rw [lk.s0] at z; cases z), fun _ z => (by rw [lk.s0] at z; cases z), fun _ _ z => absurd (by decide) z, fun _ _ _ _ => ⟨fun e he => (by rw [no4] at he; cases he), fun _ => (by show 1 < 60; decide), fun _ Hc d4 nd4 hW2 kc => ?_, fun e he => (by rw [no4] at he; cases he), fun e he => (by rw [no4] at he; cases he)⟩⟩
      have hNc := keepN hNb hW1.sd kc
      have hNmc := kc _ _ hNmb (nL _ _ hW1.sd hNmb (by intro z; cases z))
      replace hW2 : WatchAt A.C_Watch Hc wp p sd [⟨c3, d3, [(1, n0)]⟩, ⟨c4, d4, [(2, n0)]⟩] := hW2
      have sd4 : H4 sd = none := s49.free nsd
      have s4c : Same H4 Hc := same_keep (same_keep (s49.trans s9a) kb (by intro x hx; rw [List.mem_singleton] at hx; rw [hx]; exact sd4)) kc (by intro x hx; rw [List.mem_singleton] at hx; rw [hx]; exact sd4)
      have s4b : Same H4 Hb := same_keep (s49.trans s9a) kb (by intro x hx; rw [List.mem_singleton] at hx; rw [hx]; exact sd4)
      have nd3' : H4 d3 = none := (s49.trans s9a).free nd3
      have nd4' : H4 d4 = none := s4b.free nd4
      have gW : g ∉ wfoot sd [⟨c3, d3, [(1, n0)]⟩, ⟨c4, d4, [(2, n0)]⟩] := fun m => by
        have g3 : g ≠ d3 := ne_of_none hNa.gt nd3
        have g4 : g ≠ d4 := ne_of_none hNb.gt nd4
        simp [wfoot, gsd, g3, g4] at m
      have fr4 : ∀ x ∈ g :: wfoot sd [⟨c3, d3, [(1, n0)]⟩, ⟨c4, d4, [(2, n0)]⟩], H4 x = none := fun x hx => by
        simp only [wfoot, List.map_cons, List.map_nil, List.mem_cons, List.not_mem_nil, or_false] at hx
        rcases hx with rfl | rfl | rfl | rfl
        · exact ng4
        · exact sd4
        · exact nd3'
        · exact nd4'
      have nok : NetOk (base8 n0 n1) := base8_ok (gs := (base8 n0 n1).gates) ⟨⟨_, List.mem_cons_self ..⟩, ⟨_, List.mem_cons_of_mem _ (List.mem_cons_self ..)⟩⟩ hNc.nd n01
      have no5 : carOf [⟨c3, d3, [(1, n0)]⟩, ⟨c4, d4, [(2, n0)]⟩] c5 = none := by simp [carOf, c35, c45]
      clear hNb hNa hW0 hW1 kb kc hNma hNmb nL keepN hpb nd3 nd4 s4b nsd s9a s49 no4 nr4 ng4 hN5 gsd
      obtain ⟨W, eW⟩ : ∃ W : List CarE, W = [⟨c3, d3, [(1, n0)]⟩, ⟨c4, d4, [(2, n0)]⟩] := ⟨_, rfl⟩
      have wl : W.length < 50 := by rw [eW]; show 2 < 50; decide
      have wss : ∀ e ∈ W, e.ss.length < 100 := fun e he => by
        rw [eW] at he
        simp only [List.mem_cons, List.not_mem_nil, or_false] at he
        rcases he with rfl | rfl <;> (show 1 < 100; decide)
      have cars : W.map (·.car) = [c3, c4] := by rw [eW]; rfl
      have car3 : ∃ e, carOf W c3 = some e ∧ e.ss = [(1, n0)] := by rw [eW]; exact ⟨_, by simp [carOf]; rfl, rfl⟩
      have car4 : ∃ e, carOf W c4 = some e ∧ e.ss = [(2, n0)] := by rw [eW]; exact ⟨_, by simp [carOf, c34]; rfl, rfl⟩
      rw [← eW] at hW2 gW fr4 no5
      clear eW nd3' nd4' sd4
      walk_at "go"
      refine ⟨a, ns, 3 * (0 + (i : Int)) + 1, rfl, (s3.trans (s4.trans s4c)).seq hS, by omega, by omega, ?_⟩
      have m5 := mixed_pos ns (3 * (0 + (i : Int)) + 1)
      generalize mixed ns (3 * (0 + (i : Int)) + 1) = num at m5
      walk_at "go"
      refine ⟨num / 3, Nm, n0, n1, n2, c3, c4, c5, rfl, by omega, by omega, ok4, hNmc, fun Hd L t ak c sd' hL ht hls hK => ?_⟩
      have hNd := hNc.same sd'
      have hWd := hW2.same sd'
      have s4d := s4c.trans sd'
      have hNmd := sd' _ _ hNmc
      walk_at "go"
      refine ⟨L, _, _, _, rfl, rfl, SqL.of hL, atI_nat (j := 0) rfl, ?_⟩
      walk_at "go"
      refine ⟨t, _, rfl, .inr (SqT.of ht), fun Lh nLh => ?_⟩
      have se : Same Hd (upd Hd Lh (.lst ak.vs)) := same_up nLh
      have hLh : (upd Hd Lh (.lst ak.vs)) Lh = some (.lst ak.vs) := upd_same
      generalize upd Hd Lh (.lst ak.vs) = He at se hLh
      have hLe := se _ _ hL
      have hte := se _ _ ht
      have hlse := hls.same se
      walk_at "go"
      refine ⟨fun σ' H' => σ' = [some (.ref a), some (.int b), some (.ref Nm), some (.int (0 + (i : Int))), some (.ref p), some (.ref wp), some (.ref L), some (.ref Lh), none] ∧ Same Hd H' ∧ ∃ ak' : A8, ak'.data = ak.data ∧ H' Lh = some (.lst ak'.vs) ∧ ak'.lists H', ?_, ?_⟩
      · walk_at "go"
        refine ⟨L, _, _, _, rfl, rfl, SqL.of hLe, atI_nat (j := 0) rfl, ?_⟩
        walk_at "go"
        rcases ak.word with ⟨S, ss, rfl⟩ | ⟨w0, rest, ew, hw⟩
        · obtain ⟨us, hS1, hP1⟩ := hlse
          refine ⟨t, _, _, _, rfl, rfl, SqT.of hte, atI_nat (j := 0) rfl, ?_⟩
          walk_at "go"
          refine ⟨L, _, _, _, rfl, rfl, SqL.of hLe, atI_nat (j := 0) rfl, ?_⟩
          walk_at "go"
          refine ⟨t, _, _, _, rfl, rfl, SqT.of hte, atI_nat (j := 1) rfl, ?_⟩
          walk_at "go"
          refine ⟨S, _, rfl, .inl (SqL.of hS1), fun X nX => ?_⟩
          have sx : Same He (upd He X (.lst us)) := same_up nX
          have hX : (upd He X (.lst us)) X = some (.lst us) := upd_same
          generalize upd He X (.lst us) = Hx at sx hX
          walk_at "go"
          refine ⟨Lh, _, _, 1, rfl, rfl, sx _ _ hLh, ixN_of rfl (by show 1 < 2; decide), ?_⟩
          have nLX : Lh ≠ X := ne_of_none hLh nX
          refine ⟨rfl, same_new (se.trans sx) nLh, .guess X ss, rfl, upd_same, ?_⟩
          have hX' : (upd Hx Lh (.lst ((A8.guess S ss).vs.set 1 (.ref X)))) X = some (.lst us) := by rw [upd_ne nLX.symm]; exact hX
          have hP2 : Paired (SeenV (upd Hx Lh (.lst ((A8.guess S ss).vs.set 1 (.ref X))))) us ss := seen_upd (sx _ _ hLh) (seen_same sx hP1)
          exact ⟨us, hX', hP2⟩
        · rw [ew] at hte
          refine ⟨t, _, _, _, rfl, rfl, SqT.of hte, atI_nat (j := 0) rfl, ?_⟩
          walk_at "go"
          refine ite2 (fun z => absurd z (by rw [dec_str]; simpa using hw)) fun _ => ?_
          exact ⟨rfl, se, ak, rfl, hLh, hlse⟩
      rintro σ' Hf ⟨rfl, sf, ak', eD, hLf, hDf⟩
      clear hLh hLe hte hlse se
      have fin := hK.fine ⟨ok0, ok1, ok2⟩ ok3 ok5
      have ref := hK.refusal lk ok3 no5 (W := W)
      walk_at "go"
      refine ⟨L, _, _, _, rfl, rfl, SqL.of (sf _ _ hL), atI_nat (j := 0) rfl, ?_⟩
      walk_at "go"
      refine ⟨L, _, _, _, rfl, rfl, SqL.of (sf _ _ hL), atI_nat (j := 1) rfl, ?_⟩
      walk_at "go"
      refine ⟨p, g, r, wp, sd, t, base8 n0 n1, W, ak, c, rfl, hNd.same sf, nok, hWd.same sf, by omega, fun e he => (by have := wss e he; omega), sf _ _ ht, hls.same sf, fin, ref, hK.ask, fun Hg sg => ?_⟩
      have sdg := sf.trans sg
      walk_at "go"
      refine ⟨L, _, _, _, rfl, rfl, SqL.of (sdg _ _ hL), atI_nat (j := 0) rfl, ?_⟩
      walk_at "go"
      refine ⟨L, _, _, _, rfl, rfl, SqL.of (sdg _ _ hL), atI_nat (j := 1) rfl, ?_⟩
      walk_at "go"
      refine ⟨p, g, r, wp, sd, t, base8 n0 n1, W, ak, c, rfl, hNd.same sdg, nok, hWd.same sdg, by omega, fun e he => (by have := wss e he; omega), sdg _ _ ht, hls.same sdg, fin, ref, hK.ask, fun Hh sh => ?_⟩
      have sdh := sdg.trans sh
      have hDh := hDf.same (sg.trans sh)
      walk_at "go"
      have hLfh := (sg.trans sh) _ _ hLf
      refine ⟨L, _, _, _, rfl, rfl, SqL.of (sdh _ _ hL), atI_nat (j := 0) rfl, ?_⟩
      walk_at "go"
      refine ⟨t, _, rfl, .inr (SqT.of (sdh _ _ ht)), fun L2 nL2 => ?_⟩
      have si : Same Hh (upd Hh L2 (.lst ak.vs)) := same_up nL2
      have hL2 : (upd Hh L2 (.lst ak.vs)) L2 = some (.lst ak.vs) := upd_same
      generalize upd Hh L2 (.lst ak.vs) = Hi at si hL2
      have sdi := sdh.trans si
      have dok := ak.dok fin
      have dp1 : Dp K Hi (.ref L2) (.list ak.data) := .lst (SqL.of hL2) (A8.dp (hls.same sdi))
      have dp2 : Dp K Hi (.ref Lh) (.list ak.data) := by
        rw [← eD]
        exact .lst (SqL.of (si _ _ hLfh)) (A8.dp (hDh.same si))
      walk_at "go"
      refine ⟨_, _, dp1, dp2, dok.shaped (by decide), dok.shaped (by decide), ?_⟩
      rw [dok.refl]
      walk_at "go"
      have hWi := hWd.same sdi
      obtain ⟨dp, hpb⟩ := hWi.ob
      refine ⟨wp, dp, _, rfl, hpb, watchF_no _ _ (by decide +kernel) (by decide +kernel), ?_⟩
      walk_at "go"
      refine ⟨wp, p, sd, W, rfl, hWi, fun Hj Lc ys sj nLc hpm hsr hLc => ?_⟩
      have hNmj := (sdi.trans sj) _ _ hNmd
      walk_at "go"
      refine ⟨Nm, _, rfl, SqL.of hNmj, fun L3 nL3 => ?_⟩
      have sk : Same Hj (upd Hj L3 (.lst [.str c3, .str c4])) := same_up nL3
      have hL3 : (upd Hj L3 (.lst [.str c3, .str c4])) L3 = some (.lst ([c3, c4].map V.str)) := upd_same
      rw [show HO.lst (cutV [V.str n0, V.str n1, V.str n2, V.str c3, V.str c4, V.str c5] (some 3) (some 5)) = HO.lst [.str c3, .str c4] from rfl]
      generalize upd Hj L3 (.lst [.str c3, .str c4]) = Hk at sk hL3
      walk_at "go"
      refine ⟨L3, [c3, c4], rfl, SqL.of hL3, (by show 2 < 64; decide), fun zs L4 hp4 hs4 nL4 => ?_⟩
      rw [cars] at hpm
      obtain rfl := sorted_one hsr hs4 (hpm.trans hp4.symm)
      have sl : Same Hk (upd Hk L4 (.lst (ys.map V.str))) := same_up nL4
      have hL4 : (upd Hk L4 (.lst (ys.map V.str))) L4 = some (.lst (ys.map V.str)) := upd_same
      generalize upd Hk L4 (.lst (ys.map V.str)) = Hl at sl hL4
      have okY : okD 1 (.list (ys.map PyData.str)) := strs_ok fun y hy => by
        have := hpm.mem_iff.mp hy
        simp only [List.mem_cons, List.not_mem_nil, or_false] at this
        rcases this with rfl | rfl
        · exact ok3.2.1
        · exact ok4.2.1
      refine ⟨_, _, .lst (SqL.of ((sk.trans sl) _ _ hLc)) (dpAll_strs ys), .lst (SqL.of hL4) (dpAll_strs ys), okY.shaped (by decide), okY.shaped (by decide), ?_⟩
      rw [okY.refl]
      walk_at "go"
      have sdl := sdi.trans (sj.trans (sk.trans sl))
      clear hpb hWi hNmj sj nLc hLc sk hL3 sl hL4 nL3 nL4 hp4 hs4 hsr hpm okY dp1 dp2 dok hL2 nL2 hLfh hDh hLf hDf eD sg sh si sdg sdh
      have hWl := hWd.same sdl
      have hNml := sdl _ _ hNmd
      obtain ⟨dp, hpbl⟩ := hWl.ob
      refine ⟨wp, dp, _, rfl, hpbl, watchF_no _ _ (by decide +kernel) (by decide +kernel), ?_⟩
      walk_at "go"
      refine ⟨Nm, _, _, _, rfl, rfl, SqL.of hNml, atI_nat (j := 3) rfl, ?_⟩
      walk_at "go"
      obtain ⟨ec3, hec3, ssc3⟩ := car3
      refine ⟨wp, p, sd, W, c3, rfl, hWl, f3.1, f3.2, fun z => (by rw [hec3] at z; cases z), fun e he Hsc3 Lsc3 usc3 slc3 nLsc3 hLsc3 hPsc3 => ?_⟩
      rw [hec3] at he
      obtain rfl := Option.some.inj he
      rw [ssc3, List.mergeSort_singleton] at hPsc3
      walk_at "go"
      refine ⟨Nm, _, _, _, rfl, rfl, SqL.of (slc3 _ _ hNml), atI_nat (j := 0) rfl, ?_⟩
      walk_at "go"
      refine ⟨(by show 2 ≤ sizeLine; decide), fun tc3 xc3 => ?_⟩
      have smc3 : Same Hsc3 (upd Hsc3 tc3 (.tup [.int 1, .str n0])) := same_up xc3
      have htc3 : (upd Hsc3 tc3 (.tup [.int 1, .str n0])) tc3 = some (.tup [.int 1, .str n0]) := upd_same
      generalize upd Hsc3 tc3 (.tup [.int 1, .str n0]) = Htc3 at smc3 htc3
      walk_at "go"
      refine ⟨(by show 1 ≤ sizeLine; decide), fun Lc3 yc3 => ?_⟩
      have snc3 : Same Htc3 (upd Htc3 Lc3 (.lst [.ref tc3])) := same_up yc3
      have hLc3 : (upd Htc3 Lc3 (.lst [.ref tc3])) Lc3 = some (.lst [.ref tc3]) := upd_same
      generalize upd Htc3 Lc3 (.lst [.ref tc3]) = Hm at snc3 hLc3
      have okc3 : okD 2 (.list (([(1, n0)] : List (Int × Str)).map seenD1)) := seenL_ok fun q hq => (by simp at hq; rw [hq]; exact ok0.2.1)
      refine ⟨_, _, dp_seen (SqL.of ((smc3.trans snc3) _ _ hLsc3)) (seen_same (smc3.trans snc3) hPsc3), dp_seen (ss := [(1, n0)]) (SqL.of hLc3) (.cons ⟨tc3, rfl, snc3 _ _ htc3⟩ .nil), okc3.shaped (by decide), okc3.shaped (by decide), ?_⟩
      rw [okc3.refl]
      walk_at "go"
      have slm := slc3.trans (smc3.trans snc3)
      have sdm := sdl.trans slm
      have hWm := hWd.same sdm
      have hNmm := sdm _ _ hNmd
      have hpbm := slm _ _ hpbl
      refine ⟨wp, dp, _, rfl, hpbm, watchF_no _ _ (by decide +kernel) (by decide +kernel), ?_⟩
      walk_at "go"
      refine ⟨Nm, _, _, _, rfl, rfl, SqL.of hNmm, atI_nat (j := 4) rfl, ?_⟩
      walk_at "go"
      obtain ⟨ec4, hec4, ssc4⟩ := car4
      refine ⟨wp, p, sd, W, c4, rfl, hWm, f4.1, f4.2, fun z => (by rw [hec4] at z; cases z), fun e he Hsc4 Lsc4 usc4 slc4 nLsc4 hLsc4 hPsc4 => ?_⟩
      rw [hec4] at he
      obtain rfl := Option.some.inj he
      rw [ssc4, List.mergeSort_singleton] at hPsc4
      walk_at "go"
      refine ⟨Nm, _, _, _, rfl, rfl, SqL.of (slc4 _ _ hNmm), atI_nat (j := 0) rfl, ?_⟩
      walk_at "go"
      refine ⟨(by show 2 ≤ sizeLine; decide), fun tc4 xc4 => ?_⟩
      have smc4 : Same Hsc4 (upd Hsc4 tc4 (.tup [.int 2, .str n0])) := same_up xc4
      have htc4 : (upd Hsc4 tc4 (.tup [.int 2, .str n0])) tc4 = some (.tup [.int 2, .str n0]) := upd_same
      generalize upd Hsc4 tc4 (.tup [.int 2, .str n0]) = Htc4 at smc4 htc4
      walk_at "go"
      refine ⟨(by show 1 ≤ sizeLine; decide), fun Lc4 yc4 => ?_⟩
      have snc4 : Same Htc4 (upd Htc4 Lc4 (.lst [.ref tc4])) := same_up yc4
      have hLc4 : (upd Htc4 Lc4 (.lst [.ref tc4])) Lc4 = some (.lst [.ref tc4]) := upd_same
      generalize upd Htc4 Lc4 (.lst [.ref tc4]) = Hn at snc4 hLc4
      have okc4 : okD 2 (.list (([(2, n0)] : List (Int × Str)).map seenD1)) := seenL_ok fun q hq => (by simp at hq; rw [hq]; exact ok0.2.1)
      refine ⟨_, _, dp_seen (SqL.of ((smc4.trans snc4) _ _ hLsc4)) (seen_same (smc4.trans snc4) hPsc4), dp_seen (ss := [(2, n0)]) (SqL.of hLc4) (.cons ⟨tc4, rfl, snc4 _ _ htc4⟩ .nil), okc4.shaped (by decide), okc4.shaped (by decide), ?_⟩
      rw [okc4.refl]
      walk_at "go"
      have smn := slc4.trans (smc4.trans snc4)
      have sdn := sdm.trans smn
      refine ⟨L, _, _, _, rfl, rfl, SqL.of (sdn _ _ hL), atI_nat (j := 0) rfl, ?_⟩
      walk_at "go"
      refine ⟨L, _, _, _, rfl, rfl, SqL.of (sdn _ _ hL), atI_nat (j := 1) rfl, ?_⟩
      walk_at "go"
      refine ⟨p, g, r, wp, sd, t, Nm, W, ak, c, n0, n1, n2, c3, c4, c5, rfl, hNd.same sdn, hWd.same sdn, wl, wss, gW, no5, sdn _ _ ht, hls.same sdn, hK, lk, ⟨ok0, ok1, ok2⟩, ok3, ok5, n01, sdn _ _ hNmd, fun Ho ko => ?_⟩
      walk_at "go"
      exact ⟨_, _, _, _, _, rfl, s4.trans (same_keep (s4d.trans sdn) ko fr4)⟩
    · rintro σ' H4 ⟨v3, v4, v5, v6, v7, rfl, s4⟩
      walk_at "go"
      exact q _
end
end Toll

set_option Elab.async false
set_option maxRecDepth 100000
set_option maxHeartbeats 4000000
namespace Toll
open PySem L2
theorem all_mk {l : PySem.W.OpenLaw} {w : World} {K : PySem.W.Frag} {h : Heap} {mg : Str → Option Value} {fa o_Net o_Watch o_TollError o_NoName o_SameGate o_FullNet o_NoGate o_NoNumber o_NoRoad o_Already o_NoTime o_Blind o_NoCar o_NoSight f_wall f_reached f_rows_until f_least f_roads_to f_ways_by_gate f_go_on f_leg f_guess f_need_sightings f_passed_between f_is_name f_N_init f_N_gate f_N_road f_N_blind f_N_mend f_N_close f_N_reopen f_N_gates f_N_roads f_N_leaving f_N_need_gate f_N__turn_gate f_N__turn_road f_W_init f_W_saw f_W_seen f_W_cars f_W_forget f_W__need_car f_l_mixed f_l_name f_l_of_one_class f_l_asked f_l_refused f_l_bad_sight f_l_bad_seen f_l_bad_asking f_l_made_good f_law : Addr} (X : K.In h) (G : h.Ns mainGlobals mg) (hfa : mg "law" = some (.ref fa))
    {od_wall an_wall od_reached an_reached od_rows_until an_rows_until od_least an_least od_roads_to an_roads_to od_ways_by_gate an_ways_by_gate od_go_on an_go_on od_leg an_leg od_guess an_guess od_need_sightings an_need_sightings od_passed_between an_passed_between od_is_name an_is_name od_N_init an_N_init od_N_gate an_N_gate od_N_road an_N_road od_N_blind an_N_blind od_N_mend an_N_mend od_N_close an_N_close od_N_reopen an_N_reopen od_N_gates an_N_gates od_N_roads an_N_roads od_N_leaving an_N_leaving od_N_need_gate an_N_need_gate od_N__turn_gate an_N__turn_gate od_N__turn_road an_N__turn_road od_W_init an_W_init od_W_saw an_W_saw od_W_seen an_W_seen od_W_cars an_W_cars od_W_forget an_W_forget od_W__need_car an_W__need_car od_l_mixed an_l_mixed od_l_name an_l_name od_l_of_one_class an_l_of_one_class od_l_asked an_l_asked od_l_refused an_l_refused od_l_bad_sight an_l_bad_sight od_l_bad_seen an_l_bad_seen od_l_bad_asking an_l_bad_asking od_l_made_good an_l_made_good od_law an_law : Option Addr} {sl_wall sl_reached sl_rows_until sl_least sl_roads_to sl_ways_by_gate sl_go_on sl_leg sl_guess sl_need_sightings sl_passed_between sl_is_name sl_N_init sl_N_gate sl_N_road sl_N_blind sl_N_mend sl_N_close sl_N_reopen sl_N_gates sl_N_roads sl_N_leaving sl_N_need_gate sl_N__turn_gate sl_N__turn_road sl_W_init sl_W_saw sl_W_seen sl_W_cars sl_W_forget sl_W__need_car sl_l_mixed sl_l_name sl_l_of_one_class sl_l_asked sl_l_refused sl_l_bad_sight sl_l_bad_seen sl_l_bad_asking sl_l_made_good sl_law : Array (Option Value)} {oc_wall kV_wall dc_wall pm_wall cd_wall ct_wall oc_reached kV_reached dc_reached pm_reached cd_reached ct_reached oc_rows_until kV_rows_until dc_rows_until pm_rows_until cd_rows_until ct_rows_until oc_least kV_least dc_least pm_least cd_least ct_least oc_roads_to kV_roads_to dc_roads_to pm_roads_to cd_roads_to ct_roads_to oc_ways_by_gate kV_ways_by_gate dc_ways_by_gate pm_ways_by_gate cd_ways_by_gate ct_ways_by_gate oc_go_on kV_go_on dc_go_on pm_go_on cd_go_on ct_go_on oc_leg kV_leg dc_leg pm_leg cd_leg ct_leg oc_guess kV_guess dc_guess pm_guess cd_guess ct_guess oc_need_sightings kV_need_sightings dc_need_sightings pm_need_sightings cd_need_sightings ct_need_sightings oc_passed_between kV_passed_between dc_passed_between pm_passed_between cd_passed_between ct_passed_between oc_is_name kV_is_name dc_is_name pm_is_name cd_is_name ct_is_name oc_N_init kV_N_init dc_N_init pm_N_init cd_N_init ct_N_init oc_N_gate kV_N_gate dc_N_gate pm_N_gate cd_N_gate ct_N_gate oc_N_road kV_N_road dc_N_road pm_N_road cd_N_road ct_N_road oc_N_blind kV_N_blind dc_N_blind pm_N_blind cd_N_blind ct_N_blind oc_N_mend kV_N_mend dc_N_mend pm_N_mend cd_N_mend ct_N_mend oc_N_close kV_N_close dc_N_close pm_N_close cd_N_close ct_N_close oc_N_reopen kV_N_reopen dc_N_reopen pm_N_reopen cd_N_reopen ct_N_reopen oc_N_gates kV_N_gates dc_N_gates pm_N_gates cd_N_gates ct_N_gates oc_N_roads kV_N_roads dc_N_roads pm_N_roads cd_N_roads ct_N_roads oc_N_leaving kV_N_leaving dc_N_leaving pm_N_leaving cd_N_leaving ct_N_leaving oc_N_need_gate kV_N_need_gate dc_N_need_gate pm_N_need_gate cd_N_need_gate ct_N_need_gate oc_N__turn_gate kV_N__turn_gate dc_N__turn_gate pm_N__turn_gate cd_N__turn_gate ct_N__turn_gate oc_N__turn_road kV_N__turn_road dc_N__turn_road pm_N__turn_road cd_N__turn_road ct_N__turn_road oc_W_init kV_W_init dc_W_init pm_W_init cd_W_init ct_W_init oc_W_saw kV_W_saw dc_W_saw pm_W_saw cd_W_saw ct_W_saw oc_W_seen kV_W_seen dc_W_seen pm_W_seen cd_W_seen ct_W_seen oc_W_cars kV_W_cars dc_W_cars pm_W_cars cd_W_cars ct_W_cars oc_W_forget kV_W_forget dc_W_forget pm_W_forget cd_W_forget ct_W_forget oc_W__need_car kV_W__need_car dc_W__need_car pm_W__need_car cd_W__need_car ct_W__need_car oc_l_mixed kV_l_mixed dc_l_mixed pm_l_mixed cd_l_mixed ct_l_mixed oc_l_name kV_l_name dc_l_name pm_l_name cd_l_name ct_l_name oc_l_of_one_class kV_l_of_one_class dc_l_of_one_class pm_l_of_one_class cd_l_of_one_class ct_l_of_one_class oc_l_asked kV_l_asked dc_l_asked pm_l_asked cd_l_asked ct_l_asked oc_l_refused kV_l_refused dc_l_refused pm_l_refused cd_l_refused ct_l_refused oc_l_bad_sight kV_l_bad_sight dc_l_bad_sight pm_l_bad_sight cd_l_bad_sight ct_l_bad_sight oc_l_bad_seen kV_l_bad_seen dc_l_bad_seen pm_l_bad_seen cd_l_bad_seen ct_l_bad_seen oc_l_bad_asking kV_l_bad_asking dc_l_bad_asking pm_l_bad_asking cd_l_bad_asking ct_l_bad_asking oc_l_made_good kV_l_made_good dc_l_made_good pm_l_made_good cd_l_made_good ct_l_made_good oc_law kV_law dc_law pm_law cd_law ct_law : Value}
    {t_SMALL_SIGNS t_MOST_SIGNS t_NAME_SIGNS t_MOST_GATES t_MOST_ROADS t_MOST_MINUTES t_MOST_TOLL t_LAST_TIME : Tok}
    (a_Net : PySem.W.nsIn K mainGlobals "Net" = some (some (.ref o_Net)))
    (a_Watch : PySem.W.nsIn K mainGlobals "Watch" = some (some (.ref o_Watch)))
    (a_TollError : PySem.W.nsIn K mainGlobals "TollError" = some (some (.ref o_TollError)))
    (a_NoName : PySem.W.nsIn K mainGlobals "NoName" = some (some (.ref o_NoName)))
    (a_SameGate : PySem.W.nsIn K mainGlobals "SameGate" = some (some (.ref o_SameGate)))
    (a_FullNet : PySem.W.nsIn K mainGlobals "FullNet" = some (some (.ref o_FullNet)))
    (a_NoGate : PySem.W.nsIn K mainGlobals "NoGate" = some (some (.ref o_NoGate)))
    (a_NoNumber : PySem.W.nsIn K mainGlobals "NoNumber" = some (some (.ref o_NoNumber)))
    (a_NoRoad : PySem.W.nsIn K mainGlobals "NoRoad" = some (some (.ref o_NoRoad)))
    (a_Already : PySem.W.nsIn K mainGlobals "Already" = some (some (.ref o_Already)))
    (a_NoTime : PySem.W.nsIn K mainGlobals "NoTime" = some (some (.ref o_NoTime)))
    (a_Blind : PySem.W.nsIn K mainGlobals "Blind" = some (some (.ref o_Blind)))
    (a_NoCar : PySem.W.nsIn K mainGlobals "NoCar" = some (some (.ref o_NoCar)))
    (a_NoSight : PySem.W.nsIn K mainGlobals "NoSight" = some (some (.ref o_NoSight)))
    (a_wall : PySem.W.nsIn K mainGlobals "_wall" = some (some (.ref f_wall)))
    (l_wall : K.lookup f_wall = some ⟨oc_wall, od_wall, .func (PySem.W.fnOf "_wall" "_wall" (defArgs s_wall) (defBody s_wall) (defScope s_wall) .none kV_wall dc_wall pm_wall an_wall cd_wall ct_wall), sl_wall⟩) (c_wall : PySem.W.codeIn K cd_wall "_wall" = true) (k_wall : PySem.W.keepIn K (.ref f_wall) = true)
    (a_reached : PySem.W.nsIn K mainGlobals "reached" = some (some (.ref f_reached)))
    (l_reached : K.lookup f_reached = some ⟨oc_reached, od_reached, .func (PySem.W.fnOf "reached" "reached" (defArgs s_reached) (defBody s_reached) (defScope s_reached) .none kV_reached dc_reached pm_reached an_reached cd_reached ct_reached), sl_reached⟩) (c_reached : PySem.W.codeIn K cd_reached "reached" = true) (k_reached : PySem.W.keepIn K (.ref f_reached) = true)
    (a_rows_until : PySem.W.nsIn K mainGlobals "rows_until" = some (some (.ref f_rows_until)))
    (l_rows_until : K.lookup f_rows_until = some ⟨oc_rows_until, od_rows_until, .func (PySem.W.fnOf "rows_until" "rows_until" (defArgs s_rows_until) (defBody s_rows_until) (defScope s_rows_until) .none kV_rows_until dc_rows_until pm_rows_until an_rows_until cd_rows_until ct_rows_until), sl_rows_until⟩) (c_rows_until : PySem.W.codeIn K cd_rows_until "rows_until" = true) (k_rows_until : PySem.W.keepIn K (.ref f_rows_until) = true)
    (a_least : PySem.W.nsIn K mainGlobals "least" = some (some (.ref f_least)))
    (l_least : K.lookup f_least = some ⟨oc_least, od_least, .func (PySem.W.fnOf "least" "least" (defArgs s_least) (defBody s_least) (defScope s_least) .none kV_least dc_least pm_least an_least cd_least ct_least), sl_least⟩) (c_least : PySem.W.codeIn K cd_least "least" = true) (k_least : PySem.W.keepIn K (.ref f_least) = true)
    (a_roads_to : PySem.W.nsIn K mainGlobals "roads_to" = some (some (.ref f_roads_to)))
    (l_roads_to : K.lookup f_roads_to = some ⟨oc_roads_to, od_roads_to, .func (PySem.W.fnOf "roads_to" "roads_to" (defArgs s_roads_to) (defBody s_roads_to) (defScope s_roads_to) .none kV_roads_to dc_roads_to pm_roads_to an_roads_to cd_roads_to ct_roads_to), sl_roads_to⟩) (c_roads_to : PySem.W.codeIn K cd_roads_to "roads_to" = true) (k_roads_to : PySem.W.keepIn K (.ref f_roads_to) = true)
    (a_ways_by_gate : PySem.W.nsIn K mainGlobals "_ways_by_gate" = some (some (.ref f_ways_by_gate)))
    (l_ways_by_gate : K.lookup f_ways_by_gate = some ⟨oc_ways_by_gate, od_ways_by_gate, .func (PySem.W.fnOf "_ways_by_gate" "_ways_by_gate" (defArgs s_ways_by_gate) (defBody s_ways_by_gate) (defScope s_ways_by_gate) .none kV_ways_by_gate dc_ways_by_gate pm_ways_by_gate an_ways_by_gate cd_ways_by_gate ct_ways_by_gate), sl_ways_by_gate⟩) (c_ways_by_gate : PySem.W.codeIn K cd_ways_by_gate "_ways_by_gate" = true) (k_ways_by_gate : PySem.W.keepIn K (.ref f_ways_by_gate) = true)
    (a_go_on : PySem.W.nsIn K mainGlobals "_go_on" = some (some (.ref f_go_on)))
    (l_go_on : K.lookup f_go_on = some ⟨oc_go_on, od_go_on, .func (PySem.W.fnOf "_go_on" "_go_on" (defArgs s_go_on) (defBody s_go_on) (defScope s_go_on) .none kV_go_on dc_go_on pm_go_on an_go_on cd_go_on ct_go_on), sl_go_on⟩) (c_go_on : PySem.W.codeIn K cd_go_on "_go_on" = true) (k_go_on : PySem.W.keepIn K (.ref f_go_on) = true)
    (a_leg : PySem.W.nsIn K mainGlobals "leg" = some (some (.ref f_leg)))
    (l_leg : K.lookup f_leg = some ⟨oc_leg, od_leg, .func (PySem.W.fnOf "leg" "leg" (defArgs s_leg) (defBody s_leg) (defScope s_leg) .none kV_leg dc_leg pm_leg an_leg cd_leg ct_leg), sl_leg⟩) (c_leg : PySem.W.codeIn K cd_leg "leg" = true) (k_leg : PySem.W.keepIn K (.ref f_leg) = true)
    (a_guess : PySem.W.nsIn K mainGlobals "guess" = some (some (.ref f_guess)))
    (l_guess : K.lookup f_guess = some ⟨oc_guess, od_guess, .func (PySem.W.fnOf "guess" "guess" (defArgs s_guess) (defBody s_guess) (defScope s_guess) .none kV_guess dc_guess pm_guess an_guess cd_guess ct_guess), sl_guess⟩) (c_guess : PySem.W.codeIn K cd_guess "guess" = true) (k_guess : PySem.W.keepIn K (.ref f_guess) = true)
    (a_need_sightings : PySem.W.nsIn K mainGlobals "_need_sightings" = some (some (.ref f_need_sightings)))
    (l_need_sightings : K.lookup f_need_sightings = some ⟨oc_need_sightings, od_need_sightings, .func (PySem.W.fnOf "_need_sightings" "_need_sightings" (defArgs s_need_sightings) (defBody s_need_sightings) (defScope s_need_sightings) .none kV_need_sightings dc_need_sightings pm_need_sightings an_need_sightings cd_need_sightings ct_need_sightings), sl_need_sightings⟩) (c_need_sightings : PySem.W.codeIn K cd_need_sightings "_need_sightings" = true) (k_need_sightings : PySem.W.keepIn K (.ref f_need_sightings) = true)
    (a_passed_between : PySem.W.nsIn K mainGlobals "_passed_between" = some (some (.ref f_passed_between)))
    (l_passed_between : K.lookup f_passed_between = some ⟨oc_passed_between, od_passed_between, .func (PySem.W.fnOf "_passed_between" "_passed_between" (defArgs s_passed_between) (defBody s_passed_between) (defScope s_passed_between) .none kV_passed_between dc_passed_between pm_passed_between an_passed_between cd_passed_between ct_passed_between), sl_passed_between⟩) (c_passed_between : PySem.W.codeIn K cd_passed_between "_passed_between" = true) (k_passed_between : PySem.W.keepIn K (.ref f_passed_between) = true)
    (a_is_name : PySem.W.nsIn K mainGlobals "is_name" = some (some (.ref f_is_name)))
    (l_is_name : K.lookup f_is_name = some ⟨oc_is_name, od_is_name, .func (PySem.W.fnOf "is_name" "is_name" (defArgs s_is_name) (defBody s_is_name) (defScope s_is_name) .none kV_is_name dc_is_name pm_is_name an_is_name cd_is_name ct_is_name), sl_is_name⟩) (c_is_name : PySem.W.codeIn K cd_is_name "is_name" = true) (k_is_name : PySem.W.keepIn K (.ref f_is_name) = true)
    (a_N_init : PySem.W.findIn K (.ref o_Net) "__init__" = some (some (.ref f_N_init))) (i_N_init : PySem.W.isFn K (.ref f_N_init) = true)
    (l_N_init : K.lookup f_N_init = some ⟨oc_N_init, od_N_init, .func (PySem.W.fnOf "__init__" "Net.__init__" (defArgs s_N_init) (defBody s_N_init) (defScope s_N_init) .none kV_N_init dc_N_init pm_N_init an_N_init cd_N_init ct_N_init), sl_N_init⟩) (c_N_init : PySem.W.codeIn K cd_N_init "Net.__init__" = true) (k_N_init : PySem.W.keepIn K (.ref f_N_init) = true)
    (a_N_gate : PySem.W.findIn K (.ref o_Net) "gate" = some (some (.ref f_N_gate))) (i_N_gate : PySem.W.isFn K (.ref f_N_gate) = true)
    (l_N_gate : K.lookup f_N_gate = some ⟨oc_N_gate, od_N_gate, .func (PySem.W.fnOf "gate" "Net.gate" (defArgs s_N_gate) (defBody s_N_gate) (defScope s_N_gate) .none kV_N_gate dc_N_gate pm_N_gate an_N_gate cd_N_gate ct_N_gate), sl_N_gate⟩) (c_N_gate : PySem.W.codeIn K cd_N_gate "Net.gate" = true) (k_N_gate : PySem.W.keepIn K (.ref f_N_gate) = true)
    (a_N_road : PySem.W.findIn K (.ref o_Net) "road" = some (some (.ref f_N_road))) (i_N_road : PySem.W.isFn K (.ref f_N_road) = true)
    (l_N_road : K.lookup f_N_road = some ⟨oc_N_road, od_N_road, .func (PySem.W.fnOf "road" "Net.road" (defArgs s_N_road) (defBody s_N_road) (defScope s_N_road) .none kV_N_road dc_N_road pm_N_road an_N_road cd_N_road ct_N_road), sl_N_road⟩) (c_N_road : PySem.W.codeIn K cd_N_road "Net.road" = true) (k_N_road : PySem.W.keepIn K (.ref f_N_road) = true)
    (a_N_blind : PySem.W.findIn K (.ref o_Net) "blind" = some (some (.ref f_N_blind))) (i_N_blind : PySem.W.isFn K (.ref f_N_blind) = true)
    (l_N_blind : K.lookup f_N_blind = some ⟨oc_N_blind, od_N_blind, .func (PySem.W.fnOf "blind" "Net.blind" (defArgs s_N_blind) (defBody s_N_blind) (defScope s_N_blind) .none kV_N_blind dc_N_blind pm_N_blind an_N_blind cd_N_blind ct_N_blind), sl_N_blind⟩) (c_N_blind : PySem.W.codeIn K cd_N_blind "Net.blind" = true) (k_N_blind : PySem.W.keepIn K (.ref f_N_blind) = true)
    (a_N_mend : PySem.W.findIn K (.ref o_Net) "mend" = some (some (.ref f_N_mend))) (i_N_mend : PySem.W.isFn K (.ref f_N_mend) = true)
    (l_N_mend : K.lookup f_N_mend = some ⟨oc_N_mend, od_N_mend, .func (PySem.W.fnOf "mend" "Net.mend" (defArgs s_N_mend) (defBody s_N_mend) (defScope s_N_mend) .none kV_N_mend dc_N_mend pm_N_mend an_N_mend cd_N_mend ct_N_mend), sl_N_mend⟩) (c_N_mend : PySem.W.codeIn K cd_N_mend "Net.mend" = true) (k_N_mend : PySem.W.keepIn K (.ref f_N_mend) = true)
    (a_N_close : PySem.W.findIn K (.ref o_Net) "close" = some (some (.ref f_N_close))) (i_N_close : PySem.W.isFn K (.ref f_N_close) = true)
    (l_N_close : K.lookup f_N_close = some ⟨oc_N_close, od_N_close, .func (PySem.W.fnOf "close" "Net.close" (defArgs s_N_close) (defBody s_N_close) (defScope s_N_close) .none kV_N_close dc_N_close pm_N_close an_N_close cd_N_close ct_N_close), sl_N_close⟩) (c_N_close : PySem.W.codeIn K cd_N_close "Net.close" = true) (k_N_close : PySem.W.keepIn K (.ref f_N_close) = true)
    (a_N_reopen : PySem.W.findIn K (.ref o_Net) "reopen" = some (some (.ref f_N_reopen))) (i_N_reopen : PySem.W.isFn K (.ref f_N_reopen) = true)
    (l_N_reopen : K.lookup f_N_reopen = some ⟨oc_N_reopen, od_N_reopen, .func (PySem.W.fnOf "reopen" "Net.reopen" (defArgs s_N_reopen) (defBody s_N_reopen) (defScope s_N_reopen) .none kV_N_reopen dc_N_reopen pm_N_reopen an_N_reopen cd_N_reopen ct_N_reopen), sl_N_reopen⟩) (c_N_reopen : PySem.W.codeIn K cd_N_reopen "Net.reopen" = true) (k_N_reopen : PySem.W.keepIn K (.ref f_N_reopen) = true)
    (a_N_gates : PySem.W.findIn K (.ref o_Net) "gates" = some (some (.ref f_N_gates))) (i_N_gates : PySem.W.isFn K (.ref f_N_gates) = true)
    (l_N_gates : K.lookup f_N_gates = some ⟨oc_N_gates, od_N_gates, .func (PySem.W.fnOf "gates" "Net.gates" (defArgs s_N_gates) (defBody s_N_gates) (defScope s_N_gates) .none kV_N_gates dc_N_gates pm_N_gates an_N_gates cd_N_gates ct_N_gates), sl_N_gates⟩) (c_N_gates : PySem.W.codeIn K cd_N_gates "Net.gates" = true) (k_N_gates : PySem.W.keepIn K (.ref f_N_gates) = true)
    (a_N_roads : PySem.W.findIn K (.ref o_Net) "roads" = some (some (.ref f_N_roads))) (i_N_roads : PySem.W.isFn K (.ref f_N_roads) = true)
    (l_N_roads : K.lookup f_N_roads = some ⟨oc_N_roads, od_N_roads, .func (PySem.W.fnOf "roads" "Net.roads" (defArgs s_N_roads) (defBody s_N_roads) (defScope s_N_roads) .none kV_N_roads dc_N_roads pm_N_roads an_N_roads cd_N_roads ct_N_roads), sl_N_roads⟩) (c_N_roads : PySem.W.codeIn K cd_N_roads "Net.roads" = true) (k_N_roads : PySem.W.keepIn K (.ref f_N_roads) = true)
    (a_N_leaving : PySem.W.findIn K (.ref o_Net) "leaving" = some (some (.ref f_N_leaving))) (i_N_leaving : PySem.W.isFn K (.ref f_N_leaving) = true)
    (l_N_leaving : K.lookup f_N_leaving = some ⟨oc_N_leaving, od_N_leaving, .func (PySem.W.fnOf "leaving" "Net.leaving" (defArgs s_N_leaving) (defBody s_N_leaving) (defScope s_N_leaving) .none kV_N_leaving dc_N_leaving pm_N_leaving an_N_leaving cd_N_leaving ct_N_leaving), sl_N_leaving⟩) (c_N_leaving : PySem.W.codeIn K cd_N_leaving "Net.leaving" = true) (k_N_leaving : PySem.W.keepIn K (.ref f_N_leaving) = true)
    (a_N_need_gate : PySem.W.findIn K (.ref o_Net) "need_gate" = some (some (.ref f_N_need_gate))) (i_N_need_gate : PySem.W.isFn K (.ref f_N_need_gate) = true)
    (l_N_need_gate : K.lookup f_N_need_gate = some ⟨oc_N_need_gate, od_N_need_gate, .func (PySem.W.fnOf "need_gate" "Net.need_gate" (defArgs s_N_need_gate) (defBody s_N_need_gate) (defScope s_N_need_gate) .none kV_N_need_gate dc_N_need_gate pm_N_need_gate an_N_need_gate cd_N_need_gate ct_N_need_gate), sl_N_need_gate⟩) (c_N_need_gate : PySem.W.codeIn K cd_N_need_gate "Net.need_gate" = true) (k_N_need_gate : PySem.W.keepIn K (.ref f_N_need_gate) = true)
    (a_N__turn_gate : PySem.W.findIn K (.ref o_Net) "_turn_gate" = some (some (.ref f_N__turn_gate))) (i_N__turn_gate : PySem.W.isFn K (.ref f_N__turn_gate) = true)
    (l_N__turn_gate : K.lookup f_N__turn_gate = some ⟨oc_N__turn_gate, od_N__turn_gate, .func (PySem.W.fnOf "_turn_gate" "Net._turn_gate" (defArgs s_N__turn_gate) (defBody s_N__turn_gate) (defScope s_N__turn_gate) .none kV_N__turn_gate dc_N__turn_gate pm_N__turn_gate an_N__turn_gate cd_N__turn_gate ct_N__turn_gate), sl_N__turn_gate⟩) (c_N__turn_gate : PySem.W.codeIn K cd_N__turn_gate "Net._turn_gate" = true) (k_N__turn_gate : PySem.W.keepIn K (.ref f_N__turn_gate) = true)
    (a_N__turn_road : PySem.W.findIn K (.ref o_Net) "_turn_road" = some (some (.ref f_N__turn_road))) (i_N__turn_road : PySem.W.isFn K (.ref f_N__turn_road) = true)
    (l_N__turn_road : K.lookup f_N__turn_road = some ⟨oc_N__turn_road, od_N__turn_road, .func (PySem.W.fnOf "_turn_road" "Net._turn_road" (defArgs s_N__turn_road) (defBody s_N__turn_road) (defScope s_N__turn_road) .none kV_N__turn_road dc_N__turn_road pm_N__turn_road an_N__turn_road cd_N__turn_road ct_N__turn_road), sl_N__turn_road⟩) (c_N__turn_road : PySem.W.codeIn K cd_N__turn_road "Net._turn_road" = true) (k_N__turn_road : PySem.W.keepIn K (.ref f_N__turn_road) = true)
    (a_W_init : PySem.W.findIn K (.ref o_Watch) "__init__" = some (some (.ref f_W_init))) (i_W_init : PySem.W.isFn K (.ref f_W_init) = true)
    (l_W_init : K.lookup f_W_init = some ⟨oc_W_init, od_W_init, .func (PySem.W.fnOf "__init__" "Watch.__init__" (defArgs s_W_init) (defBody s_W_init) (defScope s_W_init) .none kV_W_init dc_W_init pm_W_init an_W_init cd_W_init ct_W_init), sl_W_init⟩) (c_W_init : PySem.W.codeIn K cd_W_init "Watch.__init__" = true) (k_W_init : PySem.W.keepIn K (.ref f_W_init) = true)
    (a_W_saw : PySem.W.findIn K (.ref o_Watch) "saw" = some (some (.ref f_W_saw))) (i_W_saw : PySem.W.isFn K (.ref f_W_saw) = true)
    (l_W_saw : K.lookup f_W_saw = some ⟨oc_W_saw, od_W_saw, .func (PySem.W.fnOf "saw" "Watch.saw" (defArgs s_W_saw) (defBody s_W_saw) (defScope s_W_saw) .none kV_W_saw dc_W_saw pm_W_saw an_W_saw cd_W_saw ct_W_saw), sl_W_saw⟩) (c_W_saw : PySem.W.codeIn K cd_W_saw "Watch.saw" = true) (k_W_saw : PySem.W.keepIn K (.ref f_W_saw) = true)
    (a_W_seen : PySem.W.findIn K (.ref o_Watch) "seen" = some (some (.ref f_W_seen))) (i_W_seen : PySem.W.isFn K (.ref f_W_seen) = true)
    (l_W_seen : K.lookup f_W_seen = some ⟨oc_W_seen, od_W_seen, .func (PySem.W.fnOf "seen" "Watch.seen" (defArgs s_W_seen) (defBody s_W_seen) (defScope s_W_seen) .none kV_W_seen dc_W_seen pm_W_seen an_W_seen cd_W_seen ct_W_seen), sl_W_seen⟩) (c_W_seen : PySem.W.codeIn K cd_W_seen "Watch.seen" = true) (k_W_seen : PySem.W.keepIn K (.ref f_W_seen) = true)
    (a_W_cars : PySem.W.findIn K (.ref o_Watch) "cars" = some (some (.ref f_W_cars))) (i_W_cars : PySem.W.isFn K (.ref f_W_cars) = true)
    (l_W_cars : K.lookup f_W_cars = some ⟨oc_W_cars, od_W_cars, .func (PySem.W.fnOf "cars" "Watch.cars" (defArgs s_W_cars) (defBody s_W_cars) (defScope s_W_cars) .none kV_W_cars dc_W_cars pm_W_cars an_W_cars cd_W_cars ct_W_cars), sl_W_cars⟩) (c_W_cars : PySem.W.codeIn K cd_W_cars "Watch.cars" = true) (k_W_cars : PySem.W.keepIn K (.ref f_W_cars) = true)
    (a_W_forget : PySem.W.findIn K (.ref o_Watch) "forget" = some (some (.ref f_W_forget))) (i_W_forget : PySem.W.isFn K (.ref f_W_forget) = true)
    (l_W_forget : K.lookup f_W_forget = some ⟨oc_W_forget, od_W_forget, .func (PySem.W.fnOf "forget" "Watch.forget" (defArgs s_W_forget) (defBody s_W_forget) (defScope s_W_forget) .none kV_W_forget dc_W_forget pm_W_forget an_W_forget cd_W_forget ct_W_forget), sl_W_forget⟩) (c_W_forget : PySem.W.codeIn K cd_W_forget "Watch.forget" = true) (k_W_forget : PySem.W.keepIn K (.ref f_W_forget) = true)
    (a_W__need_car : PySem.W.findIn K (.ref o_Watch) "_need_car" = some (some (.ref f_W__need_car))) (i_W__need_car : PySem.W.isFn K (.ref f_W__need_car) = true)
    (l_W__need_car : K.lookup f_W__need_car = some ⟨oc_W__need_car, od_W__need_car, .func (PySem.W.fnOf "_need_car" "Watch._need_car" (defArgs s_W__need_car) (defBody s_W__need_car) (defScope s_W__need_car) .none kV_W__need_car dc_W__need_car pm_W__need_car an_W__need_car cd_W__need_car ct_W__need_car), sl_W__need_car⟩) (c_W__need_car : PySem.W.codeIn K cd_W__need_car "Watch._need_car" = true) (k_W__need_car : PySem.W.keepIn K (.ref f_W__need_car) = true)
    (a_l_mixed : PySem.W.nsIn K mainGlobals "_law_mixed" = some (some (.ref f_l_mixed)))
    (l_l_mixed : K.lookup f_l_mixed = some ⟨oc_l_mixed, od_l_mixed, .func (PySem.W.fnOf "_law_mixed" "_law_mixed" (defArgs s_l_mixed) (defBody s_l_mixed) (defScope s_l_mixed) .none kV_l_mixed dc_l_mixed pm_l_mixed an_l_mixed cd_l_mixed ct_l_mixed), sl_l_mixed⟩) (c_l_mixed : PySem.W.codeIn K cd_l_mixed "_law_mixed" = true) (k_l_mixed : PySem.W.keepIn K (.ref f_l_mixed) = true)
    (a_l_name : PySem.W.nsIn K mainGlobals "_law_name" = some (some (.ref f_l_name)))
    (l_l_name : K.lookup f_l_name = some ⟨oc_l_name, od_l_name, .func (PySem.W.fnOf "_law_name" "_law_name" (defArgs s_l_name) (defBody s_l_name) (defScope s_l_name) .none kV_l_name dc_l_name pm_l_name an_l_name cd_l_name ct_l_name), sl_l_name⟩) (c_l_name : PySem.W.codeIn K cd_l_name "_law_name" = true) (k_l_name : PySem.W.keepIn K (.ref f_l_name) = true)
    (a_l_of_one_class : PySem.W.nsIn K mainGlobals "_law_of_one_class" = some (some (.ref f_l_of_one_class)))
    (l_l_of_one_class : K.lookup f_l_of_one_class = some ⟨oc_l_of_one_class, od_l_of_one_class, .func (PySem.W.fnOf "_law_of_one_class" "_law_of_one_class" (defArgs s_l_of_one_class) (defBody s_l_of_one_class) (defScope s_l_of_one_class) .none kV_l_of_one_class dc_l_of_one_class pm_l_of_one_class an_l_of_one_class cd_l_of_one_class ct_l_of_one_class), sl_l_of_one_class⟩) (c_l_of_one_class : PySem.W.codeIn K cd_l_of_one_class "_law_of_one_class" = true) (k_l_of_one_class : PySem.W.keepIn K (.ref f_l_of_one_class) = true)
    (a_l_asked : PySem.W.nsIn K mainGlobals "_law_asked" = some (some (.ref f_l_asked)))
    (l_l_asked : K.lookup f_l_asked = some ⟨oc_l_asked, od_l_asked, .func (PySem.W.fnOf "_law_asked" "_law_asked" (defArgs s_l_asked) (defBody s_l_asked) (defScope s_l_asked) .none kV_l_asked dc_l_asked pm_l_asked an_l_asked cd_l_asked ct_l_asked), sl_l_asked⟩) (c_l_asked : PySem.W.codeIn K cd_l_asked "_law_asked" = true) (k_l_asked : PySem.W.keepIn K (.ref f_l_asked) = true)
    (a_l_refused : PySem.W.nsIn K mainGlobals "_law_refused" = some (some (.ref f_l_refused)))
    (l_l_refused : K.lookup f_l_refused = some ⟨oc_l_refused, od_l_refused, .func (PySem.W.fnOf "_law_refused" "_law_refused" (defArgs s_l_refused) (defBody s_l_refused) (defScope s_l_refused) .none kV_l_refused dc_l_refused pm_l_refused an_l_refused cd_l_refused ct_l_refused), sl_l_refused⟩) (c_l_refused : PySem.W.codeIn K cd_l_refused "_law_refused" = true) (k_l_refused : PySem.W.keepIn K (.ref f_l_refused) = true)
    (a_l_bad_sight : PySem.W.nsIn K mainGlobals "_law_bad_sight" = some (some (.ref f_l_bad_sight)))
    (l_l_bad_sight : K.lookup f_l_bad_sight = some ⟨oc_l_bad_sight, od_l_bad_sight, .func (PySem.W.fnOf "_law_bad_sight" "_law_bad_sight" (defArgs s_l_bad_sight) (defBody s_l_bad_sight) (defScope s_l_bad_sight) .none kV_l_bad_sight dc_l_bad_sight pm_l_bad_sight an_l_bad_sight cd_l_bad_sight ct_l_bad_sight), sl_l_bad_sight⟩) (c_l_bad_sight : PySem.W.codeIn K cd_l_bad_sight "_law_bad_sight" = true) (k_l_bad_sight : PySem.W.keepIn K (.ref f_l_bad_sight) = true)
    (a_l_bad_seen : PySem.W.nsIn K mainGlobals "_law_bad_seen" = some (some (.ref f_l_bad_seen)))
    (l_l_bad_seen : K.lookup f_l_bad_seen = some ⟨oc_l_bad_seen, od_l_bad_seen, .func (PySem.W.fnOf "_law_bad_seen" "_law_bad_seen" (defArgs s_l_bad_seen) (defBody s_l_bad_seen) (defScope s_l_bad_seen) .none kV_l_bad_seen dc_l_bad_seen pm_l_bad_seen an_l_bad_seen cd_l_bad_seen ct_l_bad_seen), sl_l_bad_seen⟩) (c_l_bad_seen : PySem.W.codeIn K cd_l_bad_seen "_law_bad_seen" = true) (k_l_bad_seen : PySem.W.keepIn K (.ref f_l_bad_seen) = true)
    (a_l_bad_asking : PySem.W.nsIn K mainGlobals "_law_bad_asking" = some (some (.ref f_l_bad_asking)))
    (l_l_bad_asking : K.lookup f_l_bad_asking = some ⟨oc_l_bad_asking, od_l_bad_asking, .func (PySem.W.fnOf "_law_bad_asking" "_law_bad_asking" (defArgs s_l_bad_asking) (defBody s_l_bad_asking) (defScope s_l_bad_asking) .none kV_l_bad_asking dc_l_bad_asking pm_l_bad_asking an_l_bad_asking cd_l_bad_asking ct_l_bad_asking), sl_l_bad_asking⟩) (c_l_bad_asking : PySem.W.codeIn K cd_l_bad_asking "_law_bad_asking" = true) (k_l_bad_asking : PySem.W.keepIn K (.ref f_l_bad_asking) = true)
    (a_l_made_good : PySem.W.nsIn K mainGlobals "_law_made_good" = some (some (.ref f_l_made_good)))
    (l_l_made_good : K.lookup f_l_made_good = some ⟨oc_l_made_good, od_l_made_good, .func (PySem.W.fnOf "_law_made_good" "_law_made_good" (defArgs s_l_made_good) (defBody s_l_made_good) (defScope s_l_made_good) .none kV_l_made_good dc_l_made_good pm_l_made_good an_l_made_good cd_l_made_good ct_l_made_good), sl_l_made_good⟩) (c_l_made_good : PySem.W.codeIn K cd_l_made_good "_law_made_good" = true) (k_l_made_good : PySem.W.keepIn K (.ref f_l_made_good) = true)
    (a_law : PySem.W.nsIn K mainGlobals "law" = some (some (.ref f_law)))
    (l_law : K.lookup f_law = some ⟨oc_law, od_law, .func (PySem.W.fnOf "law" "law" (defArgs s_law) (defBody s_law) (defScope s_law) .none kV_law dc_law pm_law an_law cd_law ct_law), sl_law⟩) (c_law : PySem.W.codeIn K cd_law "law" = true) (k_law : PySem.W.keepIn K (.ref f_law) = true)
    (pg_Net : PySem.W.plainGet K o_Net Str.empty = true) (hd_Net : PySem.W.hasDictIn K o_Net = true) (po_Net : PySem.W.plainOver K o_Net = true) (sa_Net : PySem.W.findIn K (.ref o_Net) "__setattr__" = some (some (.builtin "object.__setattr__"))) (mk_Net : PySem.W.makesIn K o_Net = true) (kc_Net : PySem.W.keepIn K (.ref o_Net) = true)
    (na_Net__gates : PySem.W.findIn K (.ref o_Net) "_gates" = some none)
    (na_Net__roads : PySem.W.findIn K (.ref o_Net) "_roads" = some none)
    (pg_Watch : PySem.W.plainGet K o_Watch Str.empty = true) (hd_Watch : PySem.W.hasDictIn K o_Watch = true) (po_Watch : PySem.W.plainOver K o_Watch = true) (sa_Watch : PySem.W.findIn K (.ref o_Watch) "__setattr__" = some (some (.builtin "object.__setattr__"))) (mk_Watch : PySem.W.makesIn K o_Watch = true) (kc_Watch : PySem.W.keepIn K (.ref o_Watch) = true)
    (na_Watch__sightings : PySem.W.findIn K (.ref o_Watch) "_sightings" = some none)
    (na_Watch_net : PySem.W.findIn K (.ref o_Watch) "net" = some none)
    (xi_TollError : PySem.W.excIn K o_TollError [.type "ValueError", .type "Exception", .type "BaseException", .type "object"] "ValueError.__new__" = true) (ke_TollError : PySem.W.keepIn K (.ref o_TollError) = true) (be_TollError : PySem.W.subIn K (.ref o_TollError) (.type "BaseException") = some true) (te_TollError : PySem.W.typeIn K (.ref o_TollError) = some (.type "type")) (he_TollError : PySem.W.hasDictIn K o_TollError = true) (ie_TollError : PySem.W.isClsIn K o_TollError = true)
    (xi_NoName : PySem.W.excIn K o_NoName [.type "ValueError", .type "Exception", .type "BaseException", .type "object"] "ValueError.__new__" = true) (ke_NoName : PySem.W.keepIn K (.ref o_NoName) = true) (be_NoName : PySem.W.subIn K (.ref o_NoName) (.type "BaseException") = some true) (te_NoName : PySem.W.typeIn K (.ref o_NoName) = some (.type "type")) (he_NoName : PySem.W.hasDictIn K o_NoName = true) (ie_NoName : PySem.W.isClsIn K o_NoName = true)
    (xi_SameGate : PySem.W.excIn K o_SameGate [.type "ValueError", .type "Exception", .type "BaseException", .type "object"] "ValueError.__new__" = true) (ke_SameGate : PySem.W.keepIn K (.ref o_SameGate) = true) (be_SameGate : PySem.W.subIn K (.ref o_SameGate) (.type "BaseException") = some true) (te_SameGate : PySem.W.typeIn K (.ref o_SameGate) = some (.type "type")) (he_SameGate : PySem.W.hasDictIn K o_SameGate = true) (ie_SameGate : PySem.W.isClsIn K o_SameGate = true)
    (xi_FullNet : PySem.W.excIn K o_FullNet [.type "ValueError", .type "Exception", .type "BaseException", .type "object"] "ValueError.__new__" = true) (ke_FullNet : PySem.W.keepIn K (.ref o_FullNet) = true) (be_FullNet : PySem.W.subIn K (.ref o_FullNet) (.type "BaseException") = some true) (te_FullNet : PySem.W.typeIn K (.ref o_FullNet) = some (.type "type")) (he_FullNet : PySem.W.hasDictIn K o_FullNet = true) (ie_FullNet : PySem.W.isClsIn K o_FullNet = true)
    (xi_NoGate : PySem.W.excIn K o_NoGate [.type "ValueError", .type "Exception", .type "BaseException", .type "object"] "ValueError.__new__" = true) (ke_NoGate : PySem.W.keepIn K (.ref o_NoGate) = true) (be_NoGate : PySem.W.subIn K (.ref o_NoGate) (.type "BaseException") = some true) (te_NoGate : PySem.W.typeIn K (.ref o_NoGate) = some (.type "type")) (he_NoGate : PySem.W.hasDictIn K o_NoGate = true) (ie_NoGate : PySem.W.isClsIn K o_NoGate = true)
    (xi_NoNumber : PySem.W.excIn K o_NoNumber [.type "ValueError", .type "Exception", .type "BaseException", .type "object"] "ValueError.__new__" = true) (ke_NoNumber : PySem.W.keepIn K (.ref o_NoNumber) = true) (be_NoNumber : PySem.W.subIn K (.ref o_NoNumber) (.type "BaseException") = some true) (te_NoNumber : PySem.W.typeIn K (.ref o_NoNumber) = some (.type "type")) (he_NoNumber : PySem.W.hasDictIn K o_NoNumber = true) (ie_NoNumber : PySem.W.isClsIn K o_NoNumber = true)
    (xi_NoRoad : PySem.W.excIn K o_NoRoad [.type "ValueError", .type "Exception", .type "BaseException", .type "object"] "ValueError.__new__" = true) (ke_NoRoad : PySem.W.keepIn K (.ref o_NoRoad) = true) (be_NoRoad : PySem.W.subIn K (.ref o_NoRoad) (.type "BaseException") = some true) (te_NoRoad : PySem.W.typeIn K (.ref o_NoRoad) = some (.type "type")) (he_NoRoad : PySem.W.hasDictIn K o_NoRoad = true) (ie_NoRoad : PySem.W.isClsIn K o_NoRoad = true)
    (xi_Already : PySem.W.excIn K o_Already [.type "ValueError", .type "Exception", .type "BaseException", .type "object"] "ValueError.__new__" = true) (ke_Already : PySem.W.keepIn K (.ref o_Already) = true) (be_Already : PySem.W.subIn K (.ref o_Already) (.type "BaseException") = some true) (te_Already : PySem.W.typeIn K (.ref o_Already) = some (.type "type")) (he_Already : PySem.W.hasDictIn K o_Already = true) (ie_Already : PySem.W.isClsIn K o_Already = true)
    (xi_NoTime : PySem.W.excIn K o_NoTime [.type "ValueError", .type "Exception", .type "BaseException", .type "object"] "ValueError.__new__" = true) (ke_NoTime : PySem.W.keepIn K (.ref o_NoTime) = true) (be_NoTime : PySem.W.subIn K (.ref o_NoTime) (.type "BaseException") = some true) (te_NoTime : PySem.W.typeIn K (.ref o_NoTime) = some (.type "type")) (he_NoTime : PySem.W.hasDictIn K o_NoTime = true) (ie_NoTime : PySem.W.isClsIn K o_NoTime = true)
    (xi_Blind : PySem.W.excIn K o_Blind [.type "ValueError", .type "Exception", .type "BaseException", .type "object"] "ValueError.__new__" = true) (ke_Blind : PySem.W.keepIn K (.ref o_Blind) = true) (be_Blind : PySem.W.subIn K (.ref o_Blind) (.type "BaseException") = some true) (te_Blind : PySem.W.typeIn K (.ref o_Blind) = some (.type "type")) (he_Blind : PySem.W.hasDictIn K o_Blind = true) (ie_Blind : PySem.W.isClsIn K o_Blind = true)
    (xi_NoCar : PySem.W.excIn K o_NoCar [.type "ValueError", .type "Exception", .type "BaseException", .type "object"] "ValueError.__new__" = true) (ke_NoCar : PySem.W.keepIn K (.ref o_NoCar) = true) (be_NoCar : PySem.W.subIn K (.ref o_NoCar) (.type "BaseException") = some true) (te_NoCar : PySem.W.typeIn K (.ref o_NoCar) = some (.type "type")) (he_NoCar : PySem.W.hasDictIn K o_NoCar = true) (ie_NoCar : PySem.W.isClsIn K o_NoCar = true)
    (xi_NoSight : PySem.W.excIn K o_NoSight [.type "ValueError", .type "Exception", .type "BaseException", .type "object"] "ValueError.__new__" = true) (ke_NoSight : PySem.W.keepIn K (.ref o_NoSight) = true) (be_NoSight : PySem.W.subIn K (.ref o_NoSight) (.type "BaseException") = some true) (te_NoSight : PySem.W.typeIn K (.ref o_NoSight) = some (.type "type")) (he_NoSight : PySem.W.hasDictIn K o_NoSight = true) (ie_NoSight : PySem.W.isClsIn K o_NoSight = true)
    (xn : PySem.W.specialIn K (.builtin "object.__class__") "__get__" = some (some (.builtin "getset_descriptor.__get__"))) (xt : PySem.W.takesIn K (.builtin "object.__class__") = some true)
    (xg_TollError : PySem.W.findIn K (.ref o_TollError) "__getattribute__" = some (some (.builtin "BaseException.__getattribute__"))) (xk_TollError : PySem.W.findIn K (.ref o_TollError) "__getattr__" = some none) (xa_TollError : PySem.W.findIn K (.ref o_TollError) "__class__" = some (some (.builtin "object.__class__"))) (xm_TollError : PySem.W.mroIn K o_TollError (.type "object") = some true) (sv_TollError : PySem.W.subIn K (.ref o_TollError) (.type "ValueError") = some true)
    (xg_NoName : PySem.W.findIn K (.ref o_NoName) "__getattribute__" = some (some (.builtin "BaseException.__getattribute__"))) (xk_NoName : PySem.W.findIn K (.ref o_NoName) "__getattr__" = some none) (xa_NoName : PySem.W.findIn K (.ref o_NoName) "__class__" = some (some (.builtin "object.__class__"))) (xm_NoName : PySem.W.mroIn K o_NoName (.type "object") = some true) (sv_NoName : PySem.W.subIn K (.ref o_NoName) (.type "ValueError") = some true)
    (xg_SameGate : PySem.W.findIn K (.ref o_SameGate) "__getattribute__" = some (some (.builtin "BaseException.__getattribute__"))) (xk_SameGate : PySem.W.findIn K (.ref o_SameGate) "__getattr__" = some none) (xa_SameGate : PySem.W.findIn K (.ref o_SameGate) "__class__" = some (some (.builtin "object.__class__"))) (xm_SameGate : PySem.W.mroIn K o_SameGate (.type "object") = some true) (sv_SameGate : PySem.W.subIn K (.ref o_SameGate) (.type "ValueError") = some true)
    (xg_FullNet : PySem.W.findIn K (.ref o_FullNet) "__getattribute__" = some (some (.builtin "BaseException.__getattribute__"))) (xk_FullNet : PySem.W.findIn K (.ref o_FullNet) "__getattr__" = some none) (xa_FullNet : PySem.W.findIn K (.ref o_FullNet) "__class__" = some (some (.builtin "object.__class__"))) (xm_FullNet : PySem.W.mroIn K o_FullNet (.type "object") = some true) (sv_FullNet : PySem.W.subIn K (.ref o_FullNet) (.type "ValueError") = some true)
    (xg_NoGate : PySem.W.findIn K (.ref o_NoGate) "__getattribute__" = some (some (.builtin "BaseException.__getattribute__"))) (xk_NoGate : PySem.W.findIn K (.ref o_NoGate) "__getattr__" = some none) (xa_NoGate : PySem.W.findIn K (.ref o_NoGate) "__class__" = some (some (.builtin "object.__class__"))) (xm_NoGate : PySem.W.mroIn K o_NoGate (.type "object") = some true) (sv_NoGate : PySem.W.subIn K (.ref o_NoGate) (.type "ValueError") = some true)
    (xg_NoNumber : PySem.W.findIn K (.ref o_NoNumber) "__getattribute__" = some (some (.builtin "BaseException.__getattribute__"))) (xk_NoNumber : PySem.W.findIn K (.ref o_NoNumber) "__getattr__" = some none) (xa_NoNumber : PySem.W.findIn K (.ref o_NoNumber) "__class__" = some (some (.builtin "object.__class__"))) (xm_NoNumber : PySem.W.mroIn K o_NoNumber (.type "object") = some true) (sv_NoNumber : PySem.W.subIn K (.ref o_NoNumber) (.type "ValueError") = some true)
    (xg_NoRoad : PySem.W.findIn K (.ref o_NoRoad) "__getattribute__" = some (some (.builtin "BaseException.__getattribute__"))) (xk_NoRoad : PySem.W.findIn K (.ref o_NoRoad) "__getattr__" = some none) (xa_NoRoad : PySem.W.findIn K (.ref o_NoRoad) "__class__" = some (some (.builtin "object.__class__"))) (xm_NoRoad : PySem.W.mroIn K o_NoRoad (.type "object") = some true) (sv_NoRoad : PySem.W.subIn K (.ref o_NoRoad) (.type "ValueError") = some true)
    (xg_Already : PySem.W.findIn K (.ref o_Already) "__getattribute__" = some (some (.builtin "BaseException.__getattribute__"))) (xk_Already : PySem.W.findIn K (.ref o_Already) "__getattr__" = some none) (xa_Already : PySem.W.findIn K (.ref o_Already) "__class__" = some (some (.builtin "object.__class__"))) (xm_Already : PySem.W.mroIn K o_Already (.type "object") = some true) (sv_Already : PySem.W.subIn K (.ref o_Already) (.type "ValueError") = some true)
    (xg_NoTime : PySem.W.findIn K (.ref o_NoTime) "__getattribute__" = some (some (.builtin "BaseException.__getattribute__"))) (xk_NoTime : PySem.W.findIn K (.ref o_NoTime) "__getattr__" = some none) (xa_NoTime : PySem.W.findIn K (.ref o_NoTime) "__class__" = some (some (.builtin "object.__class__"))) (xm_NoTime : PySem.W.mroIn K o_NoTime (.type "object") = some true) (sv_NoTime : PySem.W.subIn K (.ref o_NoTime) (.type "ValueError") = some true)
    (xg_Blind : PySem.W.findIn K (.ref o_Blind) "__getattribute__" = some (some (.builtin "BaseException.__getattribute__"))) (xk_Blind : PySem.W.findIn K (.ref o_Blind) "__getattr__" = some none) (xa_Blind : PySem.W.findIn K (.ref o_Blind) "__class__" = some (some (.builtin "object.__class__"))) (xm_Blind : PySem.W.mroIn K o_Blind (.type "object") = some true) (sv_Blind : PySem.W.subIn K (.ref o_Blind) (.type "ValueError") = some true)
    (xg_NoCar : PySem.W.findIn K (.ref o_NoCar) "__getattribute__" = some (some (.builtin "BaseException.__getattribute__"))) (xk_NoCar : PySem.W.findIn K (.ref o_NoCar) "__getattr__" = some none) (xa_NoCar : PySem.W.findIn K (.ref o_NoCar) "__class__" = some (some (.builtin "object.__class__"))) (xm_NoCar : PySem.W.mroIn K o_NoCar (.type "object") = some true) (sv_NoCar : PySem.W.subIn K (.ref o_NoCar) (.type "ValueError") = some true)
    (xg_NoSight : PySem.W.findIn K (.ref o_NoSight) "__getattribute__" = some (some (.builtin "BaseException.__getattribute__"))) (xk_NoSight : PySem.W.findIn K (.ref o_NoSight) "__getattr__" = some none) (xa_NoSight : PySem.W.findIn K (.ref o_NoSight) "__class__" = some (some (.builtin "object.__class__"))) (xm_NoSight : PySem.W.mroIn K o_NoSight (.type "object") = some true) (sv_NoSight : PySem.W.subIn K (.ref o_NoSight) (.type "ValueError") = some true)
    (v_TollError_TollError : PySem.W.subIn K (.ref o_TollError) (.ref o_TollError) = some true)
    (v_TollError_NoName : PySem.W.subIn K (.ref o_TollError) (.ref o_NoName) = some false)
    (v_TollError_SameGate : PySem.W.subIn K (.ref o_TollError) (.ref o_SameGate) = some false)
    (v_TollError_FullNet : PySem.W.subIn K (.ref o_TollError) (.ref o_FullNet) = some false)
    (v_TollError_NoGate : PySem.W.subIn K (.ref o_TollError) (.ref o_NoGate) = some false)
    (v_TollError_NoNumber : PySem.W.subIn K (.ref o_TollError) (.ref o_NoNumber) = some false)
    (v_TollError_NoRoad : PySem.W.subIn K (.ref o_TollError) (.ref o_NoRoad) = some false)
    (v_TollError_Already : PySem.W.subIn K (.ref o_TollError) (.ref o_Already) = some false)
    (v_TollError_NoTime : PySem.W.subIn K (.ref o_TollError) (.ref o_NoTime) = some false)
    (v_TollError_Blind : PySem.W.subIn K (.ref o_TollError) (.ref o_Blind) = some false)
    (v_TollError_NoCar : PySem.W.subIn K (.ref o_TollError) (.ref o_NoCar) = some false)
    (v_TollError_NoSight : PySem.W.subIn K (.ref o_TollError) (.ref o_NoSight) = some false)
    (v_NoName_TollError : PySem.W.subIn K (.ref o_NoName) (.ref o_TollError) = some true)
    (v_NoName_NoName : PySem.W.subIn K (.ref o_NoName) (.ref o_NoName) = some true)
    (v_NoName_SameGate : PySem.W.subIn K (.ref o_NoName) (.ref o_SameGate) = some false)
    (v_NoName_FullNet : PySem.W.subIn K (.ref o_NoName) (.ref o_FullNet) = some false)
    (v_NoName_NoGate : PySem.W.subIn K (.ref o_NoName) (.ref o_NoGate) = some false)
    (v_NoName_NoNumber : PySem.W.subIn K (.ref o_NoName) (.ref o_NoNumber) = some false)
    (v_NoName_NoRoad : PySem.W.subIn K (.ref o_NoName) (.ref o_NoRoad) = some false)
    (v_NoName_Already : PySem.W.subIn K (.ref o_NoName) (.ref o_Already) = some false)
    (v_NoName_NoTime : PySem.W.subIn K (.ref o_NoName) (.ref o_NoTime) = some false)
    (v_NoName_Blind : PySem.W.subIn K (.ref o_NoName) (.ref o_Blind) = some false)
    (v_NoName_NoCar : PySem.W.subIn K (.ref o_NoName) (.ref o_NoCar) = some false)
    (v_NoName_NoSight : PySem.W.subIn K (.ref o_NoName) (.ref o_NoSight) = some false)
    (v_SameGate_TollError : PySem.W.subIn K (.ref o_SameGate) (.ref o_TollError) = some true)
    (v_SameGate_NoName : PySem.W.subIn K (.ref o_SameGate) (.ref o_NoName) = some false)
    (v_SameGate_SameGate : PySem.W.subIn K (.ref o_SameGate) (.ref o_SameGate) = some true)
    (v_SameGate_FullNet : PySem.W.subIn K (.ref o_SameGate) (.ref o_FullNet) = some false)
    (v_SameGate_NoGate : PySem.W.subIn K (.ref o_SameGate) (.ref o_NoGate) = some false)
    (v_SameGate_NoNumber : PySem.W.subIn K (.ref o_SameGate) (.ref o_NoNumber) = some false)
    (v_SameGate_NoRoad : PySem.W.subIn K (.ref o_SameGate) (.ref o_NoRoad) = some false)
    (v_SameGate_Already : PySem.W.subIn K (.ref o_SameGate) (.ref o_Already) = some false)
    (v_SameGate_NoTime : PySem.W.subIn K (.ref o_SameGate) (.ref o_NoTime) = some false)
    (v_SameGate_Blind : PySem.W.subIn K (.ref o_SameGate) (.ref o_Blind) = some false)
    (v_SameGate_NoCar : PySem.W.subIn K (.ref o_SameGate) (.ref o_NoCar) = some false)
    (v_SameGate_NoSight : PySem.W.subIn K (.ref o_SameGate) (.ref o_NoSight) = some false)
    (v_FullNet_TollError : PySem.W.subIn K (.ref o_FullNet) (.ref o_TollError) = some true)
    (v_FullNet_NoName : PySem.W.subIn K (.ref o_FullNet) (.ref o_NoName) = some false)
    (v_FullNet_SameGate : PySem.W.subIn K (.ref o_FullNet) (.ref o_SameGate) = some false)
    (v_FullNet_FullNet : PySem.W.subIn K (.ref o_FullNet) (.ref o_FullNet) = some true)
    (v_FullNet_NoGate : PySem.W.subIn K (.ref o_FullNet) (.ref o_NoGate) = some false)
    (v_FullNet_NoNumber : PySem.W.subIn K (.ref o_FullNet) (.ref o_NoNumber) = some false)
    (v_FullNet_NoRoad : PySem.W.subIn K (.ref o_FullNet) (.ref o_NoRoad) = some false)
    (v_FullNet_Already : PySem.W.subIn K (.ref o_FullNet) (.ref o_Already) = some false)
    (v_FullNet_NoTime : PySem.W.subIn K (.ref o_FullNet) (.ref o_NoTime) = some false)
    (v_FullNet_Blind : PySem.W.subIn K (.ref o_FullNet) (.ref o_Blind) = some false)
    (v_FullNet_NoCar : PySem.W.subIn K (.ref o_FullNet) (.ref o_NoCar) = some false)
    (v_FullNet_NoSight : PySem.W.subIn K (.ref o_FullNet) (.ref o_NoSight) = some false)
    (v_NoGate_TollError : PySem.W.subIn K (.ref o_NoGate) (.ref o_TollError) = some true)
    (v_NoGate_NoName : PySem.W.subIn K (.ref o_NoGate) (.ref o_NoName) = some false)
    (v_NoGate_SameGate : PySem.W.subIn K (.ref o_NoGate) (.ref o_SameGate) = some false)
    (v_NoGate_FullNet : PySem.W.subIn K (.ref o_NoGate) (.ref o_FullNet) = some false)
    (v_NoGate_NoGate : PySem.W.subIn K (.ref o_NoGate) (.ref o_NoGate) = some true)
    (v_NoGate_NoNumber : PySem.W.subIn K (.ref o_NoGate) (.ref o_NoNumber) = some false)
    (v_NoGate_NoRoad : PySem.W.subIn K (.ref o_NoGate) (.ref o_NoRoad) = some false)
    (v_NoGate_Already : PySem.W.subIn K (.ref o_NoGate) (.ref o_Already) = some false)
    (v_NoGate_NoTime : PySem.W.subIn K (.ref o_NoGate) (.ref o_NoTime) = some false)
    (v_NoGate_Blind : PySem.W.subIn K (.ref o_NoGate) (.ref o_Blind) = some false)
    (v_NoGate_NoCar : PySem.W.subIn K (.ref o_NoGate) (.ref o_NoCar) = some false)
    (v_NoGate_NoSight : PySem.W.subIn K (.ref o_NoGate) (.ref o_NoSight) = some false)
    (v_NoNumber_TollError : PySem.W.subIn K (.ref o_NoNumber) (.ref o_TollError) = some true)
    (v_NoNumber_NoName : PySem.W.subIn K (.ref o_NoNumber) (.ref o_NoName) = some false)
    (v_NoNumber_SameGate : PySem.W.subIn K (.ref o_NoNumber) (.ref o_SameGate) = some false)
    (v_NoNumber_FullNet : PySem.W.subIn K (.ref o_NoNumber) (.ref o_FullNet) = some false)
    (v_NoNumber_NoGate : PySem.W.subIn K (.ref o_NoNumber) (.ref o_NoGate) = some false)
    (v_NoNumber_NoNumber : PySem.W.subIn K (.ref o_NoNumber) (.ref o_NoNumber) = some true)
    (v_NoNumber_NoRoad : PySem.W.subIn K (.ref o_NoNumber) (.ref o_NoRoad) = some false)
    (v_NoNumber_Already : PySem.W.subIn K (.ref o_NoNumber) (.ref o_Already) = some false)
    (v_NoNumber_NoTime : PySem.W.subIn K (.ref o_NoNumber) (.ref o_NoTime) = some false)
    (v_NoNumber_Blind : PySem.W.subIn K (.ref o_NoNumber) (.ref o_Blind) = some false)
    (v_NoNumber_NoCar : PySem.W.subIn K (.ref o_NoNumber) (.ref o_NoCar) = some false)
    (v_NoNumber_NoSight : PySem.W.subIn K (.ref o_NoNumber) (.ref o_NoSight) = some false)
    (v_NoRoad_TollError : PySem.W.subIn K (.ref o_NoRoad) (.ref o_TollError) = some true)
    (v_NoRoad_NoName : PySem.W.subIn K (.ref o_NoRoad) (.ref o_NoName) = some false)
    (v_NoRoad_SameGate : PySem.W.subIn K (.ref o_NoRoad) (.ref o_SameGate) = some false)
    (v_NoRoad_FullNet : PySem.W.subIn K (.ref o_NoRoad) (.ref o_FullNet) = some false)
    (v_NoRoad_NoGate : PySem.W.subIn K (.ref o_NoRoad) (.ref o_NoGate) = some false)
    (v_NoRoad_NoNumber : PySem.W.subIn K (.ref o_NoRoad) (.ref o_NoNumber) = some false)
    (v_NoRoad_NoRoad : PySem.W.subIn K (.ref o_NoRoad) (.ref o_NoRoad) = some true)
    (v_NoRoad_Already : PySem.W.subIn K (.ref o_NoRoad) (.ref o_Already) = some false)
    (v_NoRoad_NoTime : PySem.W.subIn K (.ref o_NoRoad) (.ref o_NoTime) = some false)
    (v_NoRoad_Blind : PySem.W.subIn K (.ref o_NoRoad) (.ref o_Blind) = some false)
    (v_NoRoad_NoCar : PySem.W.subIn K (.ref o_NoRoad) (.ref o_NoCar) = some false)
    (v_NoRoad_NoSight : PySem.W.subIn K (.ref o_NoRoad) (.ref o_NoSight) = some false)
    (v_Already_TollError : PySem.W.subIn K (.ref o_Already) (.ref o_TollError) = some true)
    (v_Already_NoName : PySem.W.subIn K (.ref o_Already) (.ref o_NoName) = some false)
    (v_Already_SameGate : PySem.W.subIn K (.ref o_Already) (.ref o_SameGate) = some false)
    (v_Already_FullNet : PySem.W.subIn K (.ref o_Already) (.ref o_FullNet) = some false)
    (v_Already_NoGate : PySem.W.subIn K (.ref o_Already) (.ref o_NoGate) = some false)
    (v_Already_NoNumber : PySem.W.subIn K (.ref o_Already) (.ref o_NoNumber) = some false)
    (v_Already_NoRoad : PySem.W.subIn K (.ref o_Already) (.ref o_NoRoad) = some false)
    (v_Already_Already : PySem.W.subIn K (.ref o_Already) (.ref o_Already) = some true)
    (v_Already_NoTime : PySem.W.subIn K (.ref o_Already) (.ref o_NoTime) = some false)
    (v_Already_Blind : PySem.W.subIn K (.ref o_Already) (.ref o_Blind) = some false)
    (v_Already_NoCar : PySem.W.subIn K (.ref o_Already) (.ref o_NoCar) = some false)
    (v_Already_NoSight : PySem.W.subIn K (.ref o_Already) (.ref o_NoSight) = some false)
    (v_NoTime_TollError : PySem.W.subIn K (.ref o_NoTime) (.ref o_TollError) = some true)
    (v_NoTime_NoName : PySem.W.subIn K (.ref o_NoTime) (.ref o_NoName) = some false)
    (v_NoTime_SameGate : PySem.W.subIn K (.ref o_NoTime) (.ref o_SameGate) = some false)
    (v_NoTime_FullNet : PySem.W.subIn K (.ref o_NoTime) (.ref o_FullNet) = some false)
    (v_NoTime_NoGate : PySem.W.subIn K (.ref o_NoTime) (.ref o_NoGate) = some false)
    (v_NoTime_NoNumber : PySem.W.subIn K (.ref o_NoTime) (.ref o_NoNumber) = some false)
    (v_NoTime_NoRoad : PySem.W.subIn K (.ref o_NoTime) (.ref o_NoRoad) = some false)
    (v_NoTime_Already : PySem.W.subIn K (.ref o_NoTime) (.ref o_Already) = some false)
    (v_NoTime_NoTime : PySem.W.subIn K (.ref o_NoTime) (.ref o_NoTime) = some true)
    (v_NoTime_Blind : PySem.W.subIn K (.ref o_NoTime) (.ref o_Blind) = some false)
    (v_NoTime_NoCar : PySem.W.subIn K (.ref o_NoTime) (.ref o_NoCar) = some false)
    (v_NoTime_NoSight : PySem.W.subIn K (.ref o_NoTime) (.ref o_NoSight) = some false)
    (v_Blind_TollError : PySem.W.subIn K (.ref o_Blind) (.ref o_TollError) = some true)
    (v_Blind_NoName : PySem.W.subIn K (.ref o_Blind) (.ref o_NoName) = some false)
    (v_Blind_SameGate : PySem.W.subIn K (.ref o_Blind) (.ref o_SameGate) = some false)
    (v_Blind_FullNet : PySem.W.subIn K (.ref o_Blind) (.ref o_FullNet) = some false)
    (v_Blind_NoGate : PySem.W.subIn K (.ref o_Blind) (.ref o_NoGate) = some false)
    (v_Blind_NoNumber : PySem.W.subIn K (.ref o_Blind) (.ref o_NoNumber) = some false)
    (v_Blind_NoRoad : PySem.W.subIn K (.ref o_Blind) (.ref o_NoRoad) = some false)
    (v_Blind_Already : PySem.W.subIn K (.ref o_Blind) (.ref o_Already) = some false)
    (v_Blind_NoTime : PySem.W.subIn K (.ref o_Blind) (.ref o_NoTime) = some false)
    (v_Blind_Blind : PySem.W.subIn K (.ref o_Blind) (.ref o_Blind) = some true)
    (v_Blind_NoCar : PySem.W.subIn K (.ref o_Blind) (.ref o_NoCar) = some false)
    (v_Blind_NoSight : PySem.W.subIn K (.ref o_Blind) (.ref o_NoSight) = some false)
    (v_NoCar_TollError : PySem.W.subIn K (.ref o_NoCar) (.ref o_TollError) = some true)
    (v_NoCar_NoName : PySem.W.subIn K (.ref o_NoCar) (.ref o_NoName) = some false)
    (v_NoCar_SameGate : PySem.W.subIn K (.ref o_NoCar) (.ref o_SameGate) = some false)
    (v_NoCar_FullNet : PySem.W.subIn K (.ref o_NoCar) (.ref o_FullNet) = some false)
    (v_NoCar_NoGate : PySem.W.subIn K (.ref o_NoCar) (.ref o_NoGate) = some false)
    (v_NoCar_NoNumber : PySem.W.subIn K (.ref o_NoCar) (.ref o_NoNumber) = some false)
    (v_NoCar_NoRoad : PySem.W.subIn K (.ref o_NoCar) (.ref o_NoRoad) = some false)
    (v_NoCar_Already : PySem.W.subIn K (.ref o_NoCar) (.ref o_Already) = some false)
    (v_NoCar_NoTime : PySem.W.subIn K (.ref o_NoCar) (.ref o_NoTime) = some false)
    (v_NoCar_Blind : PySem.W.subIn K (.ref o_NoCar) (.ref o_Blind) = some false)
    (v_NoCar_NoCar : PySem.W.subIn K (.ref o_NoCar) (.ref o_NoCar) = some true)
    (v_NoCar_NoSight : PySem.W.subIn K (.ref o_NoCar) (.ref o_NoSight) = some false)
    (v_NoSight_TollError : PySem.W.subIn K (.ref o_NoSight) (.ref o_TollError) = some true)
    (v_NoSight_NoName : PySem.W.subIn K (.ref o_NoSight) (.ref o_NoName) = some false)
    (v_NoSight_SameGate : PySem.W.subIn K (.ref o_NoSight) (.ref o_SameGate) = some false)
    (v_NoSight_FullNet : PySem.W.subIn K (.ref o_NoSight) (.ref o_FullNet) = some false)
    (v_NoSight_NoGate : PySem.W.subIn K (.ref o_NoSight) (.ref o_NoGate) = some false)
    (v_NoSight_NoNumber : PySem.W.subIn K (.ref o_NoSight) (.ref o_NoNumber) = some false)
    (v_NoSight_NoRoad : PySem.W.subIn K (.ref o_NoSight) (.ref o_NoRoad) = some false)
    (v_NoSight_Already : PySem.W.subIn K (.ref o_NoSight) (.ref o_Already) = some false)
    (v_NoSight_NoTime : PySem.W.subIn K (.ref o_NoSight) (.ref o_NoTime) = some false)
    (v_NoSight_Blind : PySem.W.subIn K (.ref o_NoSight) (.ref o_Blind) = some false)
    (v_NoSight_NoCar : PySem.W.subIn K (.ref o_NoSight) (.ref o_NoCar) = some false)
    (v_NoSight_NoSight : PySem.W.subIn K (.ref o_NoSight) (.ref o_NoSight) = some true)
    (u_SMALL_SIGNS : PySem.W.nsIn K mainGlobals "SMALL_SIGNS" = some (some (.str k_SMALL_SIGNS t_SMALL_SIGNS)))
    (u_MOST_SIGNS : PySem.W.nsIn K mainGlobals "MOST_SIGNS" = some (some (.int 8 t_MOST_SIGNS)))
    (u_NAME_SIGNS : PySem.W.nsIn K mainGlobals "NAME_SIGNS" = some (some (.str k_NAME_SIGNS t_NAME_SIGNS)))
    (u_MOST_GATES : PySem.W.nsIn K mainGlobals "MOST_GATES" = some (some (.int 60 t_MOST_GATES)))
    (u_MOST_ROADS : PySem.W.nsIn K mainGlobals "MOST_ROADS" = some (some (.int 200 t_MOST_ROADS)))
    (u_MOST_MINUTES : PySem.W.nsIn K mainGlobals "MOST_MINUTES" = some (some (.int 1000000 t_MOST_MINUTES)))
    (u_MOST_TOLL : PySem.W.nsIn K mainGlobals "MOST_TOLL" = some (some (.int 1000000 t_MOST_TOLL)))
    (u_LAST_TIME : PySem.W.nsIn K mainGlobals "LAST_TIME" = some (some (.int 1000000000 t_LAST_TIME)))
    (z_range : PySem.W.nsIn K mainGlobals "range" = some none)
    (z_len : PySem.W.nsIn K mainGlobals "len" = some none)
    (z_enumerate : PySem.W.nsIn K mainGlobals "enumerate" = some none)
    (z_all : PySem.W.nsIn K mainGlobals "all" = some none)
    (z_list : PySem.W.nsIn K mainGlobals "list" = some none)
    (z_dict : PySem.W.nsIn K mainGlobals "dict" = some none)
    (z_sorted : PySem.W.nsIn K mainGlobals "sorted" = some none)
    (z_str : PySem.W.nsIn K mainGlobals "str" = some none)
    (z_int : PySem.W.nsIn K mainGlobals "int" = some none)
    (z_isinstance : PySem.W.nsIn K mainGlobals "isinstance" = some none)
    (z_ValueError : PySem.W.nsIn K mainGlobals "ValueError" = some none)
    (y_heappop : PySem.W.nsIn K mainGlobals "heappop" = some (some (.builtin "_heapq.heappop")))
    (y_heappush : PySem.W.nsIn K mainGlobals "heappush" = some (some (.builtin "_heapq.heappush"))) :
    ∃ fd : FuncData, (∀ (s : Shared) (v : Value), BindsTo s fd ⟨[v], []⟩ [("_law_script", v)]) ∧ ∀ base : Heap, K.In base → base.Ns mainGlobals mg → FnOk l.prog w K mg base CX0 8 fa fd ["_law_script"] (spLaw K) := by
  have e := hfa.symm.trans (PySem.W.mg_of X G a_law)
  cases e
  let A : Ads := { wall := f_wall, reached := f_reached, rows_until := f_rows_until, least := f_least, roads_to := f_roads_to, ways_by_gate := f_ways_by_gate, go_on := f_go_on, leg := f_leg, guess := f_guess, need_sightings := f_need_sightings, passed_between := f_passed_between, is_name := f_is_name, N_init := f_N_init, N_gate := f_N_gate, N_road := f_N_road, N_blind := f_N_blind, N_mend := f_N_mend, N_close := f_N_close, N_reopen := f_N_reopen, N_gates := f_N_gates, N_roads := f_N_roads, N_leaving := f_N_leaving, N_need_gate := f_N_need_gate, N__turn_gate := f_N__turn_gate, N__turn_road := f_N__turn_road, W_init := f_W_init, W_saw := f_W_saw, W_seen := f_W_seen, W_cars := f_W_cars, W_forget := f_W_forget, W__need_car := f_W__need_car, l_mixed := f_l_mixed, l_name := f_l_name, l_of_one_class := f_l_of_one_class, l_asked := f_l_asked, l_refused := f_l_refused, l_bad_sight := f_l_bad_sight, l_bad_seen := f_l_bad_seen, l_bad_asking := f_l_bad_asking, l_made_good := f_l_made_good, law := fa, C_Net := o_Net, C_Watch := o_Watch, C_TollError := o_TollError, C_NoName := o_NoName, C_SameGate := o_SameGate, C_FullNet := o_FullNet, C_NoGate := o_NoGate, C_NoNumber := o_NoNumber, C_NoRoad := o_NoRoad, C_Already := o_Already, C_NoTime := o_NoTime, C_Blind := o_Blind, C_NoCar := o_NoCar, C_NoSight := o_NoSight, tSMALL_SIGNS := t_SMALL_SIGNS, tMOST_SIGNS := t_MOST_SIGNS, tNAME_SIGNS := t_NAME_SIGNS, tMOST_GATES := t_MOST_GATES, tMOST_ROADS := t_MOST_ROADS, tMOST_MINUTES := t_MOST_MINUTES, tMOST_TOLL := t_MOST_TOLL, tLAST_TIME := t_LAST_TIME }
  have T : Txt K mg A :=
    { m_wall := PySem.W.mg_of X G a_wall
      F_wall := ⟨_, fun_mk (st := s_wall) l_wall c_wall k_wall⟩
      m_reached := PySem.W.mg_of X G a_reached
      F_reached := ⟨_, fun_mk (st := s_reached) l_reached c_reached k_reached⟩
      m_rows_until := PySem.W.mg_of X G a_rows_until
      F_rows_until := ⟨_, fun_mk (st := s_rows_until) l_rows_until c_rows_until k_rows_until⟩
      m_least := PySem.W.mg_of X G a_least
      F_least := ⟨_, fun_mk (st := s_least) l_least c_least k_least⟩
      m_roads_to := PySem.W.mg_of X G a_roads_to
      F_roads_to := ⟨_, fun_mk (st := s_roads_to) l_roads_to c_roads_to k_roads_to⟩
      m_ways_by_gate := PySem.W.mg_of X G a_ways_by_gate
      F_ways_by_gate := ⟨_, fun_mk (st := s_ways_by_gate) l_ways_by_gate c_ways_by_gate k_ways_by_gate⟩
      m_go_on := PySem.W.mg_of X G a_go_on
      F_go_on := ⟨_, fun_mk (st := s_go_on) l_go_on c_go_on k_go_on⟩
      m_leg := PySem.W.mg_of X G a_leg
      F_leg := ⟨_, fun_mk (st := s_leg) l_leg c_leg k_leg⟩
      m_guess := PySem.W.mg_of X G a_guess
      F_guess := ⟨_, fun_mk (st := s_guess) l_guess c_guess k_guess⟩
      m_need_sightings := PySem.W.mg_of X G a_need_sightings
      F_need_sightings := ⟨_, fun_mk (st := s_need_sightings) l_need_sightings c_need_sightings k_need_sightings⟩
      m_passed_between := PySem.W.mg_of X G a_passed_between
      F_passed_between := ⟨_, fun_mk (st := s_passed_between) l_passed_between c_passed_between k_passed_between⟩
      m_is_name := PySem.W.mg_of X G a_is_name
      F_is_name := ⟨_, fun_mk (st := s_is_name) l_is_name c_is_name k_is_name⟩
      M_N_init := ⟨a_N_init, i_N_init, k_N_init⟩
      F_N_init := ⟨_, fun_mk (st := s_N_init) l_N_init c_N_init k_N_init⟩
      M_N_gate := ⟨a_N_gate, i_N_gate, k_N_gate⟩
      F_N_gate := ⟨_, fun_mk (st := s_N_gate) l_N_gate c_N_gate k_N_gate⟩
      M_N_road := ⟨a_N_road, i_N_road, k_N_road⟩
      F_N_road := ⟨_, fun_mk (st := s_N_road) l_N_road c_N_road k_N_road⟩
      M_N_blind := ⟨a_N_blind, i_N_blind, k_N_blind⟩
      F_N_blind := ⟨_, fun_mk (st := s_N_blind) l_N_blind c_N_blind k_N_blind⟩
      M_N_mend := ⟨a_N_mend, i_N_mend, k_N_mend⟩
      F_N_mend := ⟨_, fun_mk (st := s_N_mend) l_N_mend c_N_mend k_N_mend⟩
      M_N_close := ⟨a_N_close, i_N_close, k_N_close⟩
      F_N_close := ⟨_, fun_mk (st := s_N_close) l_N_close c_N_close k_N_close⟩
      M_N_reopen := ⟨a_N_reopen, i_N_reopen, k_N_reopen⟩
      F_N_reopen := ⟨_, fun_mk (st := s_N_reopen) l_N_reopen c_N_reopen k_N_reopen⟩
      M_N_gates := ⟨a_N_gates, i_N_gates, k_N_gates⟩
      F_N_gates := ⟨_, fun_mk (st := s_N_gates) l_N_gates c_N_gates k_N_gates⟩
      M_N_roads := ⟨a_N_roads, i_N_roads, k_N_roads⟩
      F_N_roads := ⟨_, fun_mk (st := s_N_roads) l_N_roads c_N_roads k_N_roads⟩
      M_N_leaving := ⟨a_N_leaving, i_N_leaving, k_N_leaving⟩
      F_N_leaving := ⟨_, fun_mk (st := s_N_leaving) l_N_leaving c_N_leaving k_N_leaving⟩
      M_N_need_gate := ⟨a_N_need_gate, i_N_need_gate, k_N_need_gate⟩
      F_N_need_gate := ⟨_, fun_mk (st := s_N_need_gate) l_N_need_gate c_N_need_gate k_N_need_gate⟩
      M_N__turn_gate := ⟨a_N__turn_gate, i_N__turn_gate, k_N__turn_gate⟩
      F_N__turn_gate := ⟨_, fun_mk (st := s_N__turn_gate) l_N__turn_gate c_N__turn_gate k_N__turn_gate⟩
      M_N__turn_road := ⟨a_N__turn_road, i_N__turn_road, k_N__turn_road⟩
      F_N__turn_road := ⟨_, fun_mk (st := s_N__turn_road) l_N__turn_road c_N__turn_road k_N__turn_road⟩
      M_W_init := ⟨a_W_init, i_W_init, k_W_init⟩
      F_W_init := ⟨_, fun_mk (st := s_W_init) l_W_init c_W_init k_W_init⟩
      M_W_saw := ⟨a_W_saw, i_W_saw, k_W_saw⟩
      F_W_saw := ⟨_, fun_mk (st := s_W_saw) l_W_saw c_W_saw k_W_saw⟩
      M_W_seen := ⟨a_W_seen, i_W_seen, k_W_seen⟩
      F_W_seen := ⟨_, fun_mk (st := s_W_seen) l_W_seen c_W_seen k_W_seen⟩
      M_W_cars := ⟨a_W_cars, i_W_cars, k_W_cars⟩
      F_W_cars := ⟨_, fun_mk (st := s_W_cars) l_W_cars c_W_cars k_W_cars⟩
      M_W_forget := ⟨a_W_forget, i_W_forget, k_W_forget⟩
      F_W_forget := ⟨_, fun_mk (st := s_W_forget) l_W_forget c_W_forget k_W_forget⟩
      M_W__need_car := ⟨a_W__need_car, i_W__need_car, k_W__need_car⟩
      F_W__need_car := ⟨_, fun_mk (st := s_W__need_car) l_W__need_car c_W__need_car k_W__need_car⟩
      m_l_mixed := PySem.W.mg_of X G a_l_mixed
      F_l_mixed := ⟨_, fun_mk (st := s_l_mixed) l_l_mixed c_l_mixed k_l_mixed⟩
      m_l_name := PySem.W.mg_of X G a_l_name
      F_l_name := ⟨_, fun_mk (st := s_l_name) l_l_name c_l_name k_l_name⟩
      m_l_of_one_class := PySem.W.mg_of X G a_l_of_one_class
      F_l_of_one_class := ⟨_, fun_mk (st := s_l_of_one_class) l_l_of_one_class c_l_of_one_class k_l_of_one_class⟩
      m_l_asked := PySem.W.mg_of X G a_l_asked
      F_l_asked := ⟨_, fun_mk (st := s_l_asked) l_l_asked c_l_asked k_l_asked⟩
      m_l_refused := PySem.W.mg_of X G a_l_refused
      F_l_refused := ⟨_, fun_mk (st := s_l_refused) l_l_refused c_l_refused k_l_refused⟩
      m_l_bad_sight := PySem.W.mg_of X G a_l_bad_sight
      F_l_bad_sight := ⟨_, fun_mk (st := s_l_bad_sight) l_l_bad_sight c_l_bad_sight k_l_bad_sight⟩
      m_l_bad_seen := PySem.W.mg_of X G a_l_bad_seen
      F_l_bad_seen := ⟨_, fun_mk (st := s_l_bad_seen) l_l_bad_seen c_l_bad_seen k_l_bad_seen⟩
      m_l_bad_asking := PySem.W.mg_of X G a_l_bad_asking
      F_l_bad_asking := ⟨_, fun_mk (st := s_l_bad_asking) l_l_bad_asking c_l_bad_asking k_l_bad_asking⟩
      m_l_made_good := PySem.W.mg_of X G a_l_made_good
      F_l_made_good := ⟨_, fun_mk (st := s_l_made_good) l_l_made_good c_l_made_good k_l_made_good⟩
      m_law := PySem.W.mg_of X G a_law
      F_law := ⟨_, fun_mk (st := s_law) l_law c_law k_law⟩
      g_Net := PySem.W.mg_of X G a_Net
      c_Net := ⟨pg_Net, hd_Net, po_Net, sa_Net⟩
      M_Net := ⟨mk_Net, a_N_init, i_N_init, kc_Net⟩
      na_Net__gates := na_Net__gates
      na_Net__roads := na_Net__roads
      g_Watch := PySem.W.mg_of X G a_Watch
      c_Watch := ⟨pg_Watch, hd_Watch, po_Watch, sa_Watch⟩
      M_Watch := ⟨mk_Watch, a_W_init, i_W_init, kc_Watch⟩
      na_Watch__sightings := na_Watch__sightings
      na_Watch_net := na_Watch_net
      e_TollError := ⟨PySem.W.mg_of X G a_TollError, xi_TollError, ke_TollError, be_TollError, te_TollError, he_TollError, ie_TollError⟩
      v_TollError_TollError := v_TollError_TollError
      v_TollError_NoName := v_TollError_NoName
      v_TollError_SameGate := v_TollError_SameGate
      v_TollError_FullNet := v_TollError_FullNet
      v_TollError_NoGate := v_TollError_NoGate
      v_TollError_NoNumber := v_TollError_NoNumber
      v_TollError_NoRoad := v_TollError_NoRoad
      v_TollError_Already := v_TollError_Already
      v_TollError_NoTime := v_TollError_NoTime
      v_TollError_Blind := v_TollError_Blind
      v_TollError_NoCar := v_TollError_NoCar
      v_TollError_NoSight := v_TollError_NoSight
      i_TollError := ⟨xg_TollError, xk_TollError, be_TollError, he_TollError, xa_TollError, xn, xt, xm_TollError⟩
      s_TollError := sv_TollError
      e_NoName := ⟨PySem.W.mg_of X G a_NoName, xi_NoName, ke_NoName, be_NoName, te_NoName, he_NoName, ie_NoName⟩
      v_NoName_TollError := v_NoName_TollError
      v_NoName_NoName := v_NoName_NoName
      v_NoName_SameGate := v_NoName_SameGate
      v_NoName_FullNet := v_NoName_FullNet
      v_NoName_NoGate := v_NoName_NoGate
      v_NoName_NoNumber := v_NoName_NoNumber
      v_NoName_NoRoad := v_NoName_NoRoad
      v_NoName_Already := v_NoName_Already
      v_NoName_NoTime := v_NoName_NoTime
      v_NoName_Blind := v_NoName_Blind
      v_NoName_NoCar := v_NoName_NoCar
      v_NoName_NoSight := v_NoName_NoSight
      i_NoName := ⟨xg_NoName, xk_NoName, be_NoName, he_NoName, xa_NoName, xn, xt, xm_NoName⟩
      s_NoName := sv_NoName
      e_SameGate := ⟨PySem.W.mg_of X G a_SameGate, xi_SameGate, ke_SameGate, be_SameGate, te_SameGate, he_SameGate, ie_SameGate⟩
      v_SameGate_TollError := v_SameGate_TollError
      v_SameGate_NoName := v_SameGate_NoName
      v_SameGate_SameGate := v_SameGate_SameGate
      v_SameGate_FullNet := v_SameGate_FullNet
      v_SameGate_NoGate := v_SameGate_NoGate
      v_SameGate_NoNumber := v_SameGate_NoNumber
      v_SameGate_NoRoad := v_SameGate_NoRoad
      v_SameGate_Already := v_SameGate_Already
      v_SameGate_NoTime := v_SameGate_NoTime
      v_SameGate_Blind := v_SameGate_Blind
      v_SameGate_NoCar := v_SameGate_NoCar
      v_SameGate_NoSight := v_SameGate_NoSight
      i_SameGate := ⟨xg_SameGate, xk_SameGate, be_SameGate, he_SameGate, xa_SameGate, xn, xt, xm_SameGate⟩
      s_SameGate := sv_SameGate
      e_FullNet := ⟨PySem.W.mg_of X G a_FullNet, xi_FullNet, ke_FullNet, be_FullNet, te_FullNet, he_FullNet, ie_FullNet⟩
      v_FullNet_TollError := v_FullNet_TollError
      v_FullNet_NoName := v_FullNet_NoName
      v_FullNet_SameGate := v_FullNet_SameGate
      v_FullNet_FullNet := v_FullNet_FullNet
      v_FullNet_NoGate := v_FullNet_NoGate
      v_FullNet_NoNumber := v_FullNet_NoNumber
      v_FullNet_NoRoad := v_FullNet_NoRoad
      v_FullNet_Already := v_FullNet_Already
      v_FullNet_NoTime := v_FullNet_NoTime
      v_FullNet_Blind := v_FullNet_Blind
      v_FullNet_NoCar := v_FullNet_NoCar
      v_FullNet_NoSight := v_FullNet_NoSight
      i_FullNet := ⟨xg_FullNet, xk_FullNet, be_FullNet, he_FullNet, xa_FullNet, xn, xt, xm_FullNet⟩
      s_FullNet := sv_FullNet
      e_NoGate := ⟨PySem.W.mg_of X G a_NoGate, xi_NoGate, ke_NoGate, be_NoGate, te_NoGate, he_NoGate, ie_NoGate⟩
      v_NoGate_TollError := v_NoGate_TollError
      v_NoGate_NoName := v_NoGate_NoName
      v_NoGate_SameGate := v_NoGate_SameGate
      v_NoGate_FullNet := v_NoGate_FullNet
      v_NoGate_NoGate := v_NoGate_NoGate
      v_NoGate_NoNumber := v_NoGate_NoNumber
      v_NoGate_NoRoad := v_NoGate_NoRoad
      v_NoGate_Already := v_NoGate_Already
      v_NoGate_NoTime := v_NoGate_NoTime
      v_NoGate_Blind := v_NoGate_Blind
      v_NoGate_NoCar := v_NoGate_NoCar
      v_NoGate_NoSight := v_NoGate_NoSight
      i_NoGate := ⟨xg_NoGate, xk_NoGate, be_NoGate, he_NoGate, xa_NoGate, xn, xt, xm_NoGate⟩
      s_NoGate := sv_NoGate
      e_NoNumber := ⟨PySem.W.mg_of X G a_NoNumber, xi_NoNumber, ke_NoNumber, be_NoNumber, te_NoNumber, he_NoNumber, ie_NoNumber⟩
      v_NoNumber_TollError := v_NoNumber_TollError
      v_NoNumber_NoName := v_NoNumber_NoName
      v_NoNumber_SameGate := v_NoNumber_SameGate
      v_NoNumber_FullNet := v_NoNumber_FullNet
      v_NoNumber_NoGate := v_NoNumber_NoGate
      v_NoNumber_NoNumber := v_NoNumber_NoNumber
      v_NoNumber_NoRoad := v_NoNumber_NoRoad
      v_NoNumber_Already := v_NoNumber_Already
      v_NoNumber_NoTime := v_NoNumber_NoTime
      v_NoNumber_Blind := v_NoNumber_Blind
      v_NoNumber_NoCar := v_NoNumber_NoCar
      v_NoNumber_NoSight := v_NoNumber_NoSight
      i_NoNumber := ⟨xg_NoNumber, xk_NoNumber, be_NoNumber, he_NoNumber, xa_NoNumber, xn, xt, xm_NoNumber⟩
      s_NoNumber := sv_NoNumber
      e_NoRoad := ⟨PySem.W.mg_of X G a_NoRoad, xi_NoRoad, ke_NoRoad, be_NoRoad, te_NoRoad, he_NoRoad, ie_NoRoad⟩
      v_NoRoad_TollError := v_NoRoad_TollError
      v_NoRoad_NoName := v_NoRoad_NoName
      v_NoRoad_SameGate := v_NoRoad_SameGate
      v_NoRoad_FullNet := v_NoRoad_FullNet
      v_NoRoad_NoGate := v_NoRoad_NoGate
      v_NoRoad_NoNumber := v_NoRoad_NoNumber
      v_NoRoad_NoRoad := v_NoRoad_NoRoad
      v_NoRoad_Already := v_NoRoad_Already
      v_NoRoad_NoTime := v_NoRoad_NoTime
      v_NoRoad_Blind := v_NoRoad_Blind
      v_NoRoad_NoCar := v_NoRoad_NoCar
      v_NoRoad_NoSight := v_NoRoad_NoSight
      i_NoRoad := ⟨xg_NoRoad, xk_NoRoad, be_NoRoad, he_NoRoad, xa_NoRoad, xn, xt, xm_NoRoad⟩
      s_NoRoad := sv_NoRoad
      e_Already := ⟨PySem.W.mg_of X G a_Already, xi_Already, ke_Already, be_Already, te_Already, he_Already, ie_Already⟩
      v_Already_TollError := v_Already_TollError
      v_Already_NoName := v_Already_NoName
      v_Already_SameGate := v_Already_SameGate
      v_Already_FullNet := v_Already_FullNet
      v_Already_NoGate := v_Already_NoGate
      v_Already_NoNumber := v_Already_NoNumber
      v_Already_NoRoad := v_Already_NoRoad
      v_Already_Already := v_Already_Already
      v_Already_NoTime := v_Already_NoTime
      v_Already_Blind := v_Already_Blind
      v_Already_NoCar := v_Already_NoCar
      v_Already_NoSight := v_Already_NoSight
      i_Already := ⟨xg_Already, xk_Already, be_Already, he_Already, xa_Already, xn, xt, xm_Already⟩
      s_Already := sv_Already
      e_NoTime := ⟨PySem.W.mg_of X G a_NoTime, xi_NoTime, ke_NoTime, be_NoTime, te_NoTime, he_NoTime, ie_NoTime⟩
      v_NoTime_TollError := v_NoTime_TollError
      v_NoTime_NoName := v_NoTime_NoName
      v_NoTime_SameGate := v_NoTime_SameGate
      v_NoTime_FullNet := v_NoTime_FullNet
      v_NoTime_NoGate := v_NoTime_NoGate
      v_NoTime_NoNumber := v_NoTime_NoNumber
      v_NoTime_NoRoad := v_NoTime_NoRoad
      v_NoTime_Already := v_NoTime_Already
      v_NoTime_NoTime := v_NoTime_NoTime
      v_NoTime_Blind := v_NoTime_Blind
      v_NoTime_NoCar := v_NoTime_NoCar
      v_NoTime_NoSight := v_NoTime_NoSight
      i_NoTime := ⟨xg_NoTime, xk_NoTime, be_NoTime, he_NoTime, xa_NoTime, xn, xt, xm_NoTime⟩
      s_NoTime := sv_NoTime
      e_Blind := ⟨PySem.W.mg_of X G a_Blind, xi_Blind, ke_Blind, be_Blind, te_Blind, he_Blind, ie_Blind⟩
      v_Blind_TollError := v_Blind_TollError
      v_Blind_NoName := v_Blind_NoName
      v_Blind_SameGate := v_Blind_SameGate
      v_Blind_FullNet := v_Blind_FullNet
      v_Blind_NoGate := v_Blind_NoGate
      v_Blind_NoNumber := v_Blind_NoNumber
      v_Blind_NoRoad := v_Blind_NoRoad
      v_Blind_Already := v_Blind_Already
      v_Blind_NoTime := v_Blind_NoTime
      v_Blind_Blind := v_Blind_Blind
      v_Blind_NoCar := v_Blind_NoCar
      v_Blind_NoSight := v_Blind_NoSight
      i_Blind := ⟨xg_Blind, xk_Blind, be_Blind, he_Blind, xa_Blind, xn, xt, xm_Blind⟩
      s_Blind := sv_Blind
      e_NoCar := ⟨PySem.W.mg_of X G a_NoCar, xi_NoCar, ke_NoCar, be_NoCar, te_NoCar, he_NoCar, ie_NoCar⟩
      v_NoCar_TollError := v_NoCar_TollError
      v_NoCar_NoName := v_NoCar_NoName
      v_NoCar_SameGate := v_NoCar_SameGate
      v_NoCar_FullNet := v_NoCar_FullNet
      v_NoCar_NoGate := v_NoCar_NoGate
      v_NoCar_NoNumber := v_NoCar_NoNumber
      v_NoCar_NoRoad := v_NoCar_NoRoad
      v_NoCar_Already := v_NoCar_Already
      v_NoCar_NoTime := v_NoCar_NoTime
      v_NoCar_Blind := v_NoCar_Blind
      v_NoCar_NoCar := v_NoCar_NoCar
      v_NoCar_NoSight := v_NoCar_NoSight
      i_NoCar := ⟨xg_NoCar, xk_NoCar, be_NoCar, he_NoCar, xa_NoCar, xn, xt, xm_NoCar⟩
      s_NoCar := sv_NoCar
      e_NoSight := ⟨PySem.W.mg_of X G a_NoSight, xi_NoSight, ke_NoSight, be_NoSight, te_NoSight, he_NoSight, ie_NoSight⟩
      v_NoSight_TollError := v_NoSight_TollError
      v_NoSight_NoName := v_NoSight_NoName
      v_NoSight_SameGate := v_NoSight_SameGate
      v_NoSight_FullNet := v_NoSight_FullNet
      v_NoSight_NoGate := v_NoSight_NoGate
      v_NoSight_NoNumber := v_NoSight_NoNumber
      v_NoSight_NoRoad := v_NoSight_NoRoad
      v_NoSight_Already := v_NoSight_Already
      v_NoSight_NoTime := v_NoSight_NoTime
      v_NoSight_Blind := v_NoSight_Blind
      v_NoSight_NoCar := v_NoSight_NoCar
      v_NoSight_NoSight := v_NoSight_NoSight
      i_NoSight := ⟨xg_NoSight, xk_NoSight, be_NoSight, he_NoSight, xa_NoSight, xn, xt, xm_NoSight⟩
      s_NoSight := sv_NoSight
      m_SMALL_SIGNS := PySem.W.mg_of X G u_SMALL_SIGNS
      m_MOST_SIGNS := PySem.W.mg_of X G u_MOST_SIGNS
      m_NAME_SIGNS := PySem.W.mg_of X G u_NAME_SIGNS
      m_MOST_GATES := PySem.W.mg_of X G u_MOST_GATES
      m_MOST_ROADS := PySem.W.mg_of X G u_MOST_ROADS
      m_MOST_MINUTES := PySem.W.mg_of X G u_MOST_MINUTES
      m_MOST_TOLL := PySem.W.mg_of X G u_MOST_TOLL
      m_LAST_TIME := PySem.W.mg_of X G u_LAST_TIME
      b_range := PySem.W.mg_none_of X G z_range
      b_len := PySem.W.mg_none_of X G z_len
      b_enumerate := PySem.W.mg_none_of X G z_enumerate
      b_all := PySem.W.mg_none_of X G z_all
      b_list := PySem.W.mg_none_of X G z_list
      b_dict := PySem.W.mg_none_of X G z_dict
      b_sorted := PySem.W.mg_none_of X G z_sorted
      b_str := PySem.W.mg_none_of X G z_str
      b_int := PySem.W.mg_none_of X G z_int
      b_isinstance := PySem.W.mg_none_of X G z_isinstance
      b_ValueError := PySem.W.mg_none_of X G z_ValueError
      q_heappop := PySem.W.mg_of X G y_heappop
      q_heappush := PySem.W.mg_of X G y_heappush }
  exact ⟨PySem.W.fnOf "law" "law" (defArgs s_law) (defBody s_law) (defScope s_law) .none kV_law dc_law pm_law an_law cd_law ct_law, fun s v => .of_eq rfl, fun base _ _ => ok_law (fun_mk (st := s_law) l_law c_law k_law) T⟩
theorem walk {l : PySem.W.OpenLaw} {q : Program} {loose : List Str} {XP : (Str → Option Value) → Heap → Prop} {YP : World → Heap → Prop} {d : DefRec} {K : Params → PySem.W.Frag} (hn : l.most = some 63) (hdf : d.params.defaults = [])
    (hY : ∀ (w : World) (h : Heap), YP w h → (K w.params).In h)
    (F : ∀ (w : World) (mg : Str → Option Value) (fa : Addr) (h : Heap), (K w.params).In h → h.Ns mainGlobals mg → mg d.name = some (.ref fa) →
      ∃ fd : FuncData, (∀ (s : Shared) (u : Value), BindsTo s fd ⟨[u], []⟩ [("_law_script", u)]) ∧ ∀ base : Heap, (K w.params).In base → base.Ns mainGlobals mg → FnOk l.prog w (K w.params) mg base CX0 8 fa fd ["_law_script"] (spLaw (K w.params))) :
    PySem.W.WalkO q loose XP YP l.row.toRowW d [] (fun f vs => PySem.call f vs) :=
  L2.walk_of (n := 63) (k := 8) (x := "_law_script") (CX := fun _ => CX0) (sp := fun w => spLaw (K w.params)) hn (by decide) hdf ⟨rfl, by decide, by decide⟩ hY F (fun _ _ a ns hl _ hS => ⟨a, ns, rfl, hS, hl, fun _ => rfl⟩) fun _ _ _ _ _ z => z
end Toll
open PySem PySem.W PyProof.Rows
set_option maxRecDepth 100000 in
set_option maxHeartbeats 0 in
theorem PySem.Challenge.cw_tollguess_k08_askings_refused_holds : PySem.Challenge.rw_tollguess_k08_askings_refused.Holds := by
  w_on; o_law; k_head; (case hw => w_witness2)
  k_fill
  refine Toll.walk (l := PySem.Challenge.rw_tollguess_k08_askings_refused) rfl rfl (fun w h Y => PySem.W.kIn_of Y) ?F
  case F =>
    intro w mg fa h KX G hmg
    refine' Toll.all_mk KX G hmg ?a_Net ?a_Watch ?a_TollError ?a_NoName ?a_SameGate ?a_FullNet ?a_NoGate ?a_NoNumber ?a_NoRoad ?a_Already ?a_NoTime ?a_Blind ?a_NoCar ?a_NoSight ?a_wall ?l_wall ?c_wall ?k_wall ?a_reached ?l_reached ?c_reached ?k_reached ?a_rows_until ?l_rows_until ?c_rows_until ?k_rows_until ?a_least ?l_least ?c_least ?k_least ?a_roads_to ?l_roads_to ?c_roads_to ?k_roads_to ?a_ways_by_gate ?l_ways_by_gate ?c_ways_by_gate ?k_ways_by_gate ?a_go_on ?l_go_on ?c_go_on ?k_go_on ?a_leg ?l_leg ?c_leg ?k_leg ?a_guess ?l_guess ?c_guess ?k_guess ?a_need_sightings ?l_need_sightings ?c_need_sightings ?k_need_sightings ?a_passed_between ?l_passed_between ?c_passed_between ?k_passed_between ?a_is_name ?l_is_name ?c_is_name ?k_is_name ?a_N_init ?i_N_init ?l_N_init ?c_N_init ?k_N_init ?a_N_gate ?i_N_gate ?l_N_gate ?c_N_gate ?k_N_gate ?a_N_road ?i_N_road ?l_N_road ?c_N_road ?k_N_road ?a_N_blind ?i_N_blind ?l_N_blind ?c_N_blind ?k_N_blind ?a_N_mend ?i_N_mend ?l_N_mend ?c_N_mend ?k_N_mend ?a_N_close ?i_N_close ?l_N_close ?c_N_close ?k_N_close ?a_N_reopen ?i_N_reopen ?l_N_reopen ?c_N_reopen ?k_N_reopen ?a_N_gates ?i_N_gates ?l_N_gates ?c_N_gates ?k_N_gates ?a_N_roads ?i_N_roads ?l_N_roads ?c_N_roads ?k_N_roads ?a_N_leaving ?i_N_leaving ?l_N_leaving ?c_N_leaving ?k_N_leaving ?a_N_need_gate ?i_N_need_gate ?l_N_need_gate ?c_N_need_gate ?k_N_need_gate ?a_N__turn_gate ?i_N__turn_gate ?l_N__turn_gate ?c_N__turn_gate ?k_N__turn_gate ?a_N__turn_road ?i_N__turn_road ?l_N__turn_road ?c_N__turn_road ?k_N__turn_road ?a_W_init ?i_W_init ?l_W_init ?c_W_init ?k_W_init ?a_W_saw ?i_W_saw ?l_W_saw ?c_W_saw ?k_W_saw ?a_W_seen ?i_W_seen ?l_W_seen ?c_W_seen ?k_W_seen ?a_W_cars ?i_W_cars ?l_W_cars ?c_W_cars ?k_W_cars ?a_W_forget ?i_W_forget ?l_W_forget ?c_W_forget ?k_W_forget ?a_W__need_car ?i_W__need_car ?l_W__need_car ?c_W__need_car ?k_W__need_car ?a_l_mixed ?l_l_mixed ?c_l_mixed ?k_l_mixed ?a_l_name ?l_l_name ?c_l_name ?k_l_name ?a_l_of_one_class ?l_l_of_one_class ?c_l_of_one_class ?k_l_of_one_class ?a_l_asked ?l_l_asked ?c_l_asked ?k_l_asked ?a_l_refused ?l_l_refused ?c_l_refused ?k_l_refused ?a_l_bad_sight ?l_l_bad_sight ?c_l_bad_sight ?k_l_bad_sight ?a_l_bad_seen ?l_l_bad_seen ?c_l_bad_seen ?k_l_bad_seen ?a_l_bad_asking ?l_l_bad_asking ?c_l_bad_asking ?k_l_bad_asking ?a_l_made_good ?l_l_made_good ?c_l_made_good ?k_l_made_good ?a_law ?l_law ?c_law ?k_law ?pg_Net ?hd_Net ?po_Net ?sa_Net ?mk_Net ?kc_Net ?na_Net__gates ?na_Net__roads ?pg_Watch ?hd_Watch ?po_Watch ?sa_Watch ?mk_Watch ?kc_Watch ?na_Watch__sightings ?na_Watch_net ?xi_TollError ?ke_TollError ?be_TollError ?te_TollError ?he_TollError ?ie_TollError ?xi_NoName ?ke_NoName ?be_NoName ?te_NoName ?he_NoName ?ie_NoName ?xi_SameGate ?ke_SameGate ?be_SameGate ?te_SameGate ?he_SameGate ?ie_SameGate ?xi_FullNet ?ke_FullNet ?be_FullNet ?te_FullNet ?he_FullNet ?ie_FullNet ?xi_NoGate ?ke_NoGate ?be_NoGate ?te_NoGate ?he_NoGate ?ie_NoGate ?xi_NoNumber ?ke_NoNumber ?be_NoNumber ?te_NoNumber ?he_NoNumber ?ie_NoNumber ?xi_NoRoad ?ke_NoRoad ?be_NoRoad ?te_NoRoad ?he_NoRoad ?ie_NoRoad ?xi_Already ?ke_Already ?be_Already ?te_Already ?he_Already ?ie_Already ?xi_NoTime ?ke_NoTime ?be_NoTime ?te_NoTime ?he_NoTime ?ie_NoTime ?xi_Blind ?ke_Blind ?be_Blind ?te_Blind ?he_Blind ?ie_Blind ?xi_NoCar ?ke_NoCar ?be_NoCar ?te_NoCar ?he_NoCar ?ie_NoCar ?xi_NoSight ?ke_NoSight ?be_NoSight ?te_NoSight ?he_NoSight ?ie_NoSight ?xn ?xt ?xg_TollError ?xk_TollError ?xa_TollError ?xm_TollError ?sv_TollError ?xg_NoName ?xk_NoName ?xa_NoName ?xm_NoName ?sv_NoName ?xg_SameGate ?xk_SameGate ?xa_SameGate ?xm_SameGate ?sv_SameGate ?xg_FullNet ?xk_FullNet ?xa_FullNet ?xm_FullNet ?sv_FullNet ?xg_NoGate ?xk_NoGate ?xa_NoGate ?xm_NoGate ?sv_NoGate ?xg_NoNumber ?xk_NoNumber ?xa_NoNumber ?xm_NoNumber ?sv_NoNumber ?xg_NoRoad ?xk_NoRoad ?xa_NoRoad ?xm_NoRoad ?sv_NoRoad ?xg_Already ?xk_Already ?xa_Already ?xm_Already ?sv_Already ?xg_NoTime ?xk_NoTime ?xa_NoTime ?xm_NoTime ?sv_NoTime ?xg_Blind ?xk_Blind ?xa_Blind ?xm_Blind ?sv_Blind ?xg_NoCar ?xk_NoCar ?xa_NoCar ?xm_NoCar ?sv_NoCar ?xg_NoSight ?xk_NoSight ?xa_NoSight ?xm_NoSight ?sv_NoSight ?v_TollError_TollError ?v_TollError_NoName ?v_TollError_SameGate ?v_TollError_FullNet ?v_TollError_NoGate ?v_TollError_NoNumber ?v_TollError_NoRoad ?v_TollError_Already ?v_TollError_NoTime ?v_TollError_Blind ?v_TollError_NoCar ?v_TollError_NoSight ?v_NoName_TollError ?v_NoName_NoName ?v_NoName_SameGate ?v_NoName_FullNet ?v_NoName_NoGate ?v_NoName_NoNumber ?v_NoName_NoRoad ?v_NoName_Already ?v_NoName_NoTime ?v_NoName_Blind ?v_NoName_NoCar ?v_NoName_NoSight ?v_SameGate_TollError ?v_SameGate_NoName ?v_SameGate_SameGate ?v_SameGate_FullNet ?v_SameGate_NoGate ?v_SameGate_NoNumber ?v_SameGate_NoRoad ?v_SameGate_Already ?v_SameGate_NoTime ?v_SameGate_Blind ?v_SameGate_NoCar ?v_SameGate_NoSight ?v_FullNet_TollError ?v_FullNet_NoName ?v_FullNet_SameGate ?v_FullNet_FullNet ?v_FullNet_NoGate ?v_FullNet_NoNumber ?v_FullNet_NoRoad ?v_FullNet_Already ?v_FullNet_NoTime ?v_FullNet_Blind ?v_FullNet_NoCar ?v_FullNet_NoSight ?v_NoGate_TollError ?v_NoGate_NoName ?v_NoGate_SameGate ?v_NoGate_FullNet ?v_NoGate_NoGate ?v_NoGate_NoNumber ?v_NoGate_NoRoad ?v_NoGate_Already ?v_NoGate_NoTime ?v_NoGate_Blind ?v_NoGate_NoCar ?v_NoGate_NoSight ?v_NoNumber_TollError ?v_NoNumber_NoName ?v_NoNumber_SameGate ?v_NoNumber_FullNet ?v_NoNumber_NoGate ?v_NoNumber_NoNumber ?v_NoNumber_NoRoad ?v_NoNumber_Already ?v_NoNumber_NoTime ?v_NoNumber_Blind ?v_NoNumber_NoCar ?v_NoNumber_NoSight ?v_NoRoad_TollError ?v_NoRoad_NoName ?v_NoRoad_SameGate ?v_NoRoad_FullNet ?v_NoRoad_NoGate ?v_NoRoad_NoNumber ?v_NoRoad_NoRoad ?v_NoRoad_Already ?v_NoRoad_NoTime ?v_NoRoad_Blind ?v_NoRoad_NoCar ?v_NoRoad_NoSight ?v_Already_TollError ?v_Already_NoName ?v_Already_SameGate ?v_Already_FullNet ?v_Already_NoGate ?v_Already_NoNumber ?v_Already_NoRoad ?v_Already_Already ?v_Already_NoTime ?v_Already_Blind ?v_Already_NoCar ?v_Already_NoSight ?v_NoTime_TollError ?v_NoTime_NoName ?v_NoTime_SameGate ?v_NoTime_FullNet ?v_NoTime_NoGate ?v_NoTime_NoNumber ?v_NoTime_NoRoad ?v_NoTime_Already ?v_NoTime_NoTime ?v_NoTime_Blind ?v_NoTime_NoCar ?v_NoTime_NoSight ?v_Blind_TollError ?v_Blind_NoName ?v_Blind_SameGate ?v_Blind_FullNet ?v_Blind_NoGate ?v_Blind_NoNumber ?v_Blind_NoRoad ?v_Blind_Already ?v_Blind_NoTime ?v_Blind_Blind ?v_Blind_NoCar ?v_Blind_NoSight ?v_NoCar_TollError ?v_NoCar_NoName ?v_NoCar_SameGate ?v_NoCar_FullNet ?v_NoCar_NoGate ?v_NoCar_NoNumber ?v_NoCar_NoRoad ?v_NoCar_Already ?v_NoCar_NoTime ?v_NoCar_Blind ?v_NoCar_NoCar ?v_NoCar_NoSight ?v_NoSight_TollError ?v_NoSight_NoName ?v_NoSight_SameGate ?v_NoSight_FullNet ?v_NoSight_NoGate ?v_NoSight_NoNumber ?v_NoSight_NoRoad ?v_NoSight_Already ?v_NoSight_NoTime ?v_NoSight_Blind ?v_NoSight_NoCar ?v_NoSight_NoSight ?u_SMALL_SIGNS ?u_MOST_SIGNS ?u_NAME_SIGNS ?u_MOST_GATES ?u_MOST_ROADS ?u_MOST_MINUTES ?u_MOST_TOLL ?u_LAST_TIME ?z_range ?z_len ?z_enumerate ?z_all ?z_list ?z_dict ?z_sorted ?z_str ?z_int ?z_isinstance ?z_ValueError ?y_heappop ?y_heappush
    (case a_Net => k_is); (case a_Watch => k_is); (case a_TollError => k_is); (case a_NoName => k_is); (case a_SameGate => k_is); (case a_FullNet => k_is); (case a_NoGate => k_is); (case a_NoNumber => k_is); (case a_NoRoad => k_is); (case a_Already => k_is); (case a_NoTime => k_is); (case a_Blind => k_is); (case a_NoCar => k_is); (case a_NoSight => k_is); (case a_wall => k_is); (case l_wall => k_is); (case c_wall => k_is); (case k_wall => k_is); (case a_reached => k_is); (case l_reached => k_is); (case c_reached => k_is); (case k_reached => k_is); (case a_rows_until => k_is); (case l_rows_until => k_is); (case c_rows_until => k_is); (case k_rows_until => k_is); (case a_least => k_is); (case l_least => k_is); (case c_least => k_is); (case k_least => k_is); (case a_roads_to => k_is); (case l_roads_to => k_is); (case c_roads_to => k_is); (case k_roads_to => k_is); (case a_ways_by_gate => k_is); (case l_ways_by_gate => k_is); (case c_ways_by_gate => k_is); (case k_ways_by_gate => k_is); (case a_go_on => k_is); (case l_go_on => k_is); (case c_go_on => k_is); (case k_go_on => k_is); (case a_leg => k_is); (case l_leg => k_is); (case c_leg => k_is); (case k_leg => k_is); (case a_guess => k_is); (case l_guess => k_is); (case c_guess => k_is); (case k_guess => k_is); (case a_need_sightings => k_is); (case l_need_sightings => k_is); (case c_need_sightings => k_is); (case k_need_sightings => k_is); (case a_passed_between => k_is); (case l_passed_between => k_is); (case c_passed_between => k_is); (case k_passed_between => k_is); (case a_is_name => k_is); (case l_is_name => k_is); (case c_is_name => k_is); (case k_is_name => k_is); (case a_N_init => k_is); (case i_N_init => k_is); (case l_N_init => k_is); (case c_N_init => k_is); (case k_N_init => k_is); (case a_N_gate => k_is); (case i_N_gate => k_is); (case l_N_gate => k_is); (case c_N_gate => k_is); (case k_N_gate => k_is); (case a_N_road => k_is); (case i_N_road => k_is); (case l_N_road => k_is); (case c_N_road => k_is); (case k_N_road => k_is); (case a_N_blind => k_is); (case i_N_blind => k_is); (case l_N_blind => k_is); (case c_N_blind => k_is); (case k_N_blind => k_is); (case a_N_mend => k_is); (case i_N_mend => k_is); (case l_N_mend => k_is); (case c_N_mend => k_is); (case k_N_mend => k_is); (case a_N_close => k_is); (case i_N_close => k_is); (case l_N_close => k_is); (case c_N_close => k_is); (case k_N_close => k_is); (case a_N_reopen => k_is); (case i_N_reopen => k_is); (case l_N_reopen => k_is); (case c_N_reopen => k_is); (case k_N_reopen => k_is); (case a_N_gates => k_is); (case i_N_gates => k_is); (case l_N_gates => k_is); (case c_N_gates => k_is); (case k_N_gates => k_is); (case a_N_roads => k_is); (case i_N_roads => k_is); (case l_N_roads => k_is); (case c_N_roads => k_is); (case k_N_roads => k_is); (case a_N_leaving => k_is); (case i_N_leaving => k_is); (case l_N_leaving => k_is); (case c_N_leaving => k_is); (case k_N_leaving => k_is); (case a_N_need_gate => k_is); (case i_N_need_gate => k_is); (case l_N_need_gate => k_is); (case c_N_need_gate => k_is); (case k_N_need_gate => k_is); (case a_N__turn_gate => k_is); (case i_N__turn_gate => k_is); (case l_N__turn_gate => k_is); (case c_N__turn_gate => k_is); (case k_N__turn_gate => k_is); (case a_N__turn_road => k_is); (case i_N__turn_road => k_is); (case l_N__turn_road => k_is); (case c_N__turn_road => k_is); (case k_N__turn_road => k_is); (case a_W_init => k_is); (case i_W_init => k_is); (case l_W_init => k_is); (case c_W_init => k_is); (case k_W_init => k_is); (case a_W_saw => k_is); (case i_W_saw => k_is); (case l_W_saw => k_is); (case c_W_saw => k_is); (case k_W_saw => k_is); (case a_W_seen => k_is); (case i_W_seen => k_is); (case l_W_seen => k_is); (case c_W_seen => k_is); (case k_W_seen => k_is); (case a_W_cars => k_is); (case i_W_cars => k_is); (case l_W_cars => k_is); (case c_W_cars => k_is); (case k_W_cars => k_is); (case a_W_forget => k_is); (case i_W_forget => k_is); (case l_W_forget => k_is); (case c_W_forget => k_is); (case k_W_forget => k_is); (case a_W__need_car => k_is); (case i_W__need_car => k_is); (case l_W__need_car => k_is); (case c_W__need_car => k_is); (case k_W__need_car => k_is); (case a_l_mixed => k_is); (case l_l_mixed => k_is); (case c_l_mixed => k_is); (case k_l_mixed => k_is); (case a_l_name => k_is); (case l_l_name => k_is); (case c_l_name => k_is); (case k_l_name => k_is); (case a_l_of_one_class => k_is); (case l_l_of_one_class => k_is); (case c_l_of_one_class => k_is); (case k_l_of_one_class => k_is); (case a_l_asked => k_is); (case l_l_asked => k_is); (case c_l_asked => k_is); (case k_l_asked => k_is); (case a_l_refused => k_is); (case l_l_refused => k_is); (case c_l_refused => k_is); (case k_l_refused => k_is); (case a_l_bad_sight => k_is); (case l_l_bad_sight => k_is); (case c_l_bad_sight => k_is); (case k_l_bad_sight => k_is); (case a_l_bad_seen => k_is); (case l_l_bad_seen => k_is); (case c_l_bad_seen => k_is); (case k_l_bad_seen => k_is); (case a_l_bad_asking => k_is); (case l_l_bad_asking => k_is); (case c_l_bad_asking => k_is); (case k_l_bad_asking => k_is); (case a_l_made_good => k_is); (case l_l_made_good => k_is); (case c_l_made_good => k_is); (case k_l_made_good => k_is); (case a_law => k_is); (case l_law => k_is); (case c_law => k_is); (case k_law => k_is); (case pg_Net => k_is); (case hd_Net => k_is); (case po_Net => k_is); (case sa_Net => k_is); (case mk_Net => k_is); (case kc_Net => k_is); (case na_Net__gates => k_is); (case na_Net__roads => k_is); (case pg_Watch => k_is); (case hd_Watch => k_is); (case po_Watch => k_is); (case sa_Watch => k_is); (case mk_Watch => k_is); (case kc_Watch => k_is); (case na_Watch__sightings => k_is); (case na_Watch_net => k_is); (case xi_TollError => k_exc); (case ke_TollError => k_is); (case be_TollError => k_is); (case te_TollError => k_is); (case he_TollError => k_is); (case ie_TollError => k_is); (case xi_NoName => k_exc); (case ke_NoName => k_is); (case be_NoName => k_is); (case te_NoName => k_is); (case he_NoName => k_is); (case ie_NoName => k_is); (case xi_SameGate => k_exc); (case ke_SameGate => k_is); (case be_SameGate => k_is); (case te_SameGate => k_is); (case he_SameGate => k_is); (case ie_SameGate => k_is); (case xi_FullNet => k_exc); (case ke_FullNet => k_is); (case be_FullNet => k_is); (case te_FullNet => k_is); (case he_FullNet => k_is); (case ie_FullNet => k_is); (case xi_NoGate => k_exc); (case ke_NoGate => k_is); (case be_NoGate => k_is); (case te_NoGate => k_is); (case he_NoGate => k_is); (case ie_NoGate => k_is); (case xi_NoNumber => k_exc); (case ke_NoNumber => k_is); (case be_NoNumber => k_is); (case te_NoNumber => k_is); (case he_NoNumber => k_is); (case ie_NoNumber => k_is); (case xi_NoRoad => k_exc); (case ke_NoRoad => k_is); (case be_NoRoad => k_is); (case te_NoRoad => k_is); (case he_NoRoad => k_is); (case ie_NoRoad => k_is); (case xi_Already => k_exc); (case ke_Already => k_is); (case be_Already => k_is); (case te_Already => k_is); (case he_Already => k_is); (case ie_Already => k_is); (case xi_NoTime => k_exc); (case ke_NoTime => k_is); (case be_NoTime => k_is); (case te_NoTime => k_is); (case he_NoTime => k_is); (case ie_NoTime => k_is); (case xi_Blind => k_exc); (case ke_Blind => k_is); (case be_Blind => k_is); (case te_Blind => k_is); (case he_Blind => k_is); (case ie_Blind => k_is); (case xi_NoCar => k_exc); (case ke_NoCar => k_is); (case be_NoCar => k_is); (case te_NoCar => k_is); (case he_NoCar => k_is); (case ie_NoCar => k_is); (case xi_NoSight => k_exc); (case ke_NoSight => k_is); (case be_NoSight => k_is); (case te_NoSight => k_is); (case he_NoSight => k_is); (case ie_NoSight => k_is); (case xn => k_is); (case xt => k_is); (case xg_TollError => k_is); (case xk_TollError => k_is); (case xa_TollError => k_is); (case xm_TollError => k_is); (case sv_TollError => k_is); (case xg_NoName => k_is); (case xk_NoName => k_is); (case xa_NoName => k_is); (case xm_NoName => k_is); (case sv_NoName => k_is); (case xg_SameGate => k_is); (case xk_SameGate => k_is); (case xa_SameGate => k_is); (case xm_SameGate => k_is); (case sv_SameGate => k_is); (case xg_FullNet => k_is); (case xk_FullNet => k_is); (case xa_FullNet => k_is); (case xm_FullNet => k_is); (case sv_FullNet => k_is); (case xg_NoGate => k_is); (case xk_NoGate => k_is); (case xa_NoGate => k_is); (case xm_NoGate => k_is); (case sv_NoGate => k_is); (case xg_NoNumber => k_is); (case xk_NoNumber => k_is); (case xa_NoNumber => k_is); (case xm_NoNumber => k_is); (case sv_NoNumber => k_is); (case xg_NoRoad => k_is); (case xk_NoRoad => k_is); (case xa_NoRoad => k_is); (case xm_NoRoad => k_is); (case sv_NoRoad => k_is); (case xg_Already => k_is); (case xk_Already => k_is); (case xa_Already => k_is); (case xm_Already => k_is); (case sv_Already => k_is); (case xg_NoTime => k_is); (case xk_NoTime => k_is); (case xa_NoTime => k_is); (case xm_NoTime => k_is); (case sv_NoTime => k_is); (case xg_Blind => k_is); (case xk_Blind => k_is); (case xa_Blind => k_is); (case xm_Blind => k_is); (case sv_Blind => k_is); (case xg_NoCar => k_is); (case xk_NoCar => k_is); (case xa_NoCar => k_is); (case xm_NoCar => k_is); (case sv_NoCar => k_is); (case xg_NoSight => k_is); (case xk_NoSight => k_is); (case xa_NoSight => k_is); (case xm_NoSight => k_is); (case sv_NoSight => k_is); (case v_TollError_TollError => k_is); (case v_TollError_NoName => k_is); (case v_TollError_SameGate => k_is); (case v_TollError_FullNet => k_is); (case v_TollError_NoGate => k_is); (case v_TollError_NoNumber => k_is); (case v_TollError_NoRoad => k_is); (case v_TollError_Already => k_is); (case v_TollError_NoTime => k_is); (case v_TollError_Blind => k_is); (case v_TollError_NoCar => k_is); (case v_TollError_NoSight => k_is); (case v_NoName_TollError => k_is); (case v_NoName_NoName => k_is); (case v_NoName_SameGate => k_is); (case v_NoName_FullNet => k_is); (case v_NoName_NoGate => k_is); (case v_NoName_NoNumber => k_is); (case v_NoName_NoRoad => k_is); (case v_NoName_Already => k_is); (case v_NoName_NoTime => k_is); (case v_NoName_Blind => k_is); (case v_NoName_NoCar => k_is); (case v_NoName_NoSight => k_is); (case v_SameGate_TollError => k_is); (case v_SameGate_NoName => k_is); (case v_SameGate_SameGate => k_is); (case v_SameGate_FullNet => k_is); (case v_SameGate_NoGate => k_is); (case v_SameGate_NoNumber => k_is); (case v_SameGate_NoRoad => k_is); (case v_SameGate_Already => k_is); (case v_SameGate_NoTime => k_is); (case v_SameGate_Blind => k_is); (case v_SameGate_NoCar => k_is); (case v_SameGate_NoSight => k_is); (case v_FullNet_TollError => k_is); (case v_FullNet_NoName => k_is); (case v_FullNet_SameGate => k_is); (case v_FullNet_FullNet => k_is); (case v_FullNet_NoGate => k_is); (case v_FullNet_NoNumber => k_is); (case v_FullNet_NoRoad => k_is); (case v_FullNet_Already => k_is); (case v_FullNet_NoTime => k_is); (case v_FullNet_Blind => k_is); (case v_FullNet_NoCar => k_is); (case v_FullNet_NoSight => k_is); (case v_NoGate_TollError => k_is); (case v_NoGate_NoName => k_is); (case v_NoGate_SameGate => k_is); (case v_NoGate_FullNet => k_is); (case v_NoGate_NoGate => k_is); (case v_NoGate_NoNumber => k_is); (case v_NoGate_NoRoad => k_is); (case v_NoGate_Already => k_is); (case v_NoGate_NoTime => k_is); (case v_NoGate_Blind => k_is); (case v_NoGate_NoCar => k_is); (case v_NoGate_NoSight => k_is); (case v_NoNumber_TollError => k_is); (case v_NoNumber_NoName => k_is); (case v_NoNumber_SameGate => k_is); (case v_NoNumber_FullNet => k_is); (case v_NoNumber_NoGate => k_is); (case v_NoNumber_NoNumber => k_is); (case v_NoNumber_NoRoad => k_is); (case v_NoNumber_Already => k_is); (case v_NoNumber_NoTime => k_is); (case v_NoNumber_Blind => k_is); (case v_NoNumber_NoCar => k_is); (case v_NoNumber_NoSight => k_is); (case v_NoRoad_TollError => k_is); (case v_NoRoad_NoName => k_is); (case v_NoRoad_SameGate => k_is); (case v_NoRoad_FullNet => k_is); (case v_NoRoad_NoGate => k_is); (case v_NoRoad_NoNumber => k_is); (case v_NoRoad_NoRoad => k_is); (case v_NoRoad_Already => k_is); (case v_NoRoad_NoTime => k_is); (case v_NoRoad_Blind => k_is); (case v_NoRoad_NoCar => k_is); (case v_NoRoad_NoSight => k_is); (case v_Already_TollError => k_is); (case v_Already_NoName => k_is); (case v_Already_SameGate => k_is); (case v_Already_FullNet => k_is); (case v_Already_NoGate => k_is); (case v_Already_NoNumber => k_is); (case v_Already_NoRoad => k_is); (case v_Already_Already => k_is); (case v_Already_NoTime => k_is); (case v_Already_Blind => k_is); (case v_Already_NoCar => k_is); (case v_Already_NoSight => k_is); (case v_NoTime_TollError => k_is); (case v_NoTime_NoName => k_is); (case v_NoTime_SameGate => k_is); (case v_NoTime_FullNet => k_is); (case v_NoTime_NoGate => k_is); (case v_NoTime_NoNumber => k_is); (case v_NoTime_NoRoad => k_is); (case v_NoTime_Already => k_is); (case v_NoTime_NoTime => k_is); (case v_NoTime_Blind => k_is); (case v_NoTime_NoCar => k_is); (case v_NoTime_NoSight => k_is); (case v_Blind_TollError => k_is); (case v_Blind_NoName => k_is); (case v_Blind_SameGate => k_is); (case v_Blind_FullNet => k_is); (case v_Blind_NoGate => k_is); (case v_Blind_NoNumber => k_is); (case v_Blind_NoRoad => k_is); (case v_Blind_Already => k_is); (case v_Blind_NoTime => k_is); (case v_Blind_Blind => k_is); (case v_Blind_NoCar => k_is); (case v_Blind_NoSight => k_is); (case v_NoCar_TollError => k_is); (case v_NoCar_NoName => k_is); (case v_NoCar_SameGate => k_is); (case v_NoCar_FullNet => k_is); (case v_NoCar_NoGate => k_is); (case v_NoCar_NoNumber => k_is); (case v_NoCar_NoRoad => k_is); (case v_NoCar_Already => k_is); (case v_NoCar_NoTime => k_is); (case v_NoCar_Blind => k_is); (case v_NoCar_NoCar => k_is); (case v_NoCar_NoSight => k_is); (case v_NoSight_TollError => k_is); (case v_NoSight_NoName => k_is); (case v_NoSight_SameGate => k_is); (case v_NoSight_FullNet => k_is); (case v_NoSight_NoGate => k_is); (case v_NoSight_NoNumber => k_is); (case v_NoSight_NoRoad => k_is); (case v_NoSight_Already => k_is); (case v_NoSight_NoTime => k_is); (case v_NoSight_Blind => k_is); (case v_NoSight_NoCar => k_is); (case v_NoSight_NoSight => k_is); (case u_SMALL_SIGNS => k_is); (case u_MOST_SIGNS => k_is); (case u_NAME_SIGNS => k_is); (case u_MOST_GATES => k_is); (case u_MOST_ROADS => k_is); (case u_MOST_MINUTES => k_is); (case u_MOST_TOLL => k_is); (case u_LAST_TIME => k_is); (case z_range => k_is); (case z_len => k_is); (case z_enumerate => k_is); (case z_all => k_is); (case z_list => k_is); (case z_dict => k_is); (case z_sorted => k_is); (case z_str => k_is); (case z_int => k_is); (case z_isinstance => k_is); (case z_ValueError => k_is); (case y_heappop => k_is); (case y_heappush => k_is)
