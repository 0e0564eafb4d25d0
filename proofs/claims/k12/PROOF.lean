import PyProof.Rows.All
import Wide.All
import OpenK.AllK
import Wide.FinOn
import HandS.ForMost
import HandS.IsInst
import HandS.Walk
import HandS.Evl
import HandS.Codes
import HandS.Steps
import HandS.FStr
import HandS.RaiseMore
import HandS.ListItems
import HandS.ForExc
import HandS.TryMany
import HandS.ExcIs
import HandS.Style
import KE.LtData
import HandS.Gcd
import KE.DataCmp
import HandS.SetKeys
import HandS.TupAny
import KE.SortData
import HandS.Conv
import HandS.SortRule
import PyProof.Rows.SortStr
import HandS.More
import HandS.Strs
import HandS.Deep
import PySem.Challenge.RW_tollguess_k12_whole_as_it_is_now
set_option Elab.async false
set_option maxRecDepth 100000
set_option maxHeartbeats 4000000
namespace Toll
open PySem L2
def DefOk (P : Program) (w : World) (K : PySem.W.Frag) (mg : Str → Option Value) (base : Heap) (CX : CXT) (k : Nat) (f : Addr) (ps : List Str) (sp : Sp) : Prop :=
  ∃ fd : FuncData, FnOk P w K mg base CX k f fd ps sp ∧ Binds K fd ps [] ∧ PySem.W.keepIn K (.ref f) = true
/-- an own error class over ValueError, without an __init__ -/
structure ErrC (K : PySem.W.Frag) (mg : Str → Option Value) (n : Str) (C : Addr) : Prop where
  g : mg n = some (.ref C)
  x : PySem.W.excIn K C [.type "ValueError", .type "Exception", .type "BaseException", .type "object"] "ValueError.__new__" = true
  k : PySem.W.keepIn K (.ref C) = true
  b : PySem.W.subIn K (.ref C) (.type "BaseException") = some true
  t : PySem.W.typeIn K (.ref C) = some (.type "type")
  h : PySem.W.hasDictIn K C = true
  i : PySem.W.isClsIn K C = true
theorem same_new {H H' : Hp} {p : Addr} {o : HO} (s : Same H H') (h : H p = none) : Same H (upd H' p o) := fun b u e => by
  rw [upd_ne (ne_of_none e h)]
  exact s b u e
theorem same_up {H : Hp} {p : Addr} {o : HO} (h : H p = none) : Same H (upd H p o) := same_new (Same.refl H) h
/-! ### the script's cells -/
def cellAt (ns : List Int) (k : Int) : Int := if k < (ns.length : Int) then ns.getD k.toNat 0 else 0
theorem map_int_get {ns : List Int} {i : Nat} (h : i < ns.length) : (ns.map V.int)[i]? = some (V.int (ns.getD i 0)) := by
  rw [List.getElem?_map, List.getElem?_eq_getElem h, List.getD_eq_getElem?_getD, List.getElem?_eq_getElem h]
  rfl
def mixCell (ns : List Int) (k : Int) : Int := if 0 < ns.length then ns.getD (k % (ns.length : Int)).toNat 0 else 0
@[irreducible] def mixed (ns : List Int) (k : Int) : Int :=
  let m := (mixCell ns k + 7919 * k) * 48271 % 2147483647
  (m * m + 16807 * m) % 2147483629
theorem mixed_def (ns : List Int) (k : Int) : mixed ns k = ((mixCell ns k + 7919 * k) * 48271 % 2147483647 * ((mixCell ns k + 7919 * k) * 48271 % 2147483647) + 16807 * ((mixCell ns k + 7919 * k) * 48271 % 2147483647)) % 2147483629 := by unfold mixed; rfl
theorem mixed_pos (ns : List Int) (k : Int) : 0 ≤ mixed ns k ∧ mixed ns k < 2147483629 :=
  by rw [mixed_def]; exact ⟨Int.emod_nonneg _ (by decide), Int.emod_lt_of_pos _ (by decide)⟩
/-! ### texts -/
def sx (cs : List Nat) : Str := ⟨cs.toArray⟩
theorem sx_len (cs : List Nat) : (sx cs).length = cs.length := by
  show cs.toArray.size = _
  simp
theorem sx_tl (cs : List Nat) : (sx cs).cps.toList = cs := by simp [sx]
theorem sx_inj {a b : List Nat} (h : sx a = sx b) : a = b := by
  have := congrArg (fun x : Str => x.cps.toList) h
  simpa [sx_tl] using this
theorem sx_app (a b : List Nat) : sx a ++ sx b = sx (a ++ b) := by
  show (⟨a.toArray ++ b.toArray⟩ : Str) = ⟨(a ++ b).toArray⟩
  simp
theorem sx_of (z : Str) : sx z.cps.toList = z := by
  cases z; simp [sx]
theorem joinL_len : ∀ l : List (List Nat), (TL.joinL [] l).length = (l.map List.length).sum
  | [] => rfl
  | [p] => by simp [TL.joinL]
  | p :: q :: r => by
    have ih := joinL_len (q :: r)
    rw [TL.joinL, List.length_append, List.length_append, ih]
    simp
theorem joinL_ones : ∀ cs : List Nat, TL.joinL [] (cs.map fun c => [c]) = cs
  | [] => rfl
  | [p] => rfl
  | p :: q :: r => by
    have ih := joinL_ones (q :: r)
    rw [List.map_cons] at ih
    rw [List.map_cons, List.map_cons, TL.joinL, ih]
    rfl
def one (c : Nat) : Str := ⟨#[c]⟩
theorem join_ones (cs : List Nat) : PySem.Txt.join (Str.ofString "") (cs.map one) = sx cs := by
  rw [TL.join_eq]
  have h : TL.tl (Str.join (Str.ofString "") (cs.map one)) = cs := by
    rw [TL.tl_join, List.map_map]
    exact joinL_ones cs
  rw [← sx_of (Str.join (Str.ofString "") (cs.map one))]
  exact congrArg sx h
theorem sum_ones (cs : List Nat) : ((cs.map one).map (·.length)).sum = cs.length := by
  induction cs with
  | nil => rfl
  | cons c cs ih =>
    rw [List.map_cons, List.map_cons, List.sum_cons, ih]
    show 1 + _ = _
    simp; omega
theorem ix_mod (z : Str) (n : Int) {L : Nat} (hL : z.cps.toList.length = L) (h0 : 0 < L) : atI z.cps.toList (n % (L : Int)) = some (z.cps.toList.getD (n % (L : Int)).toNat 0) := by
  have h1 := Int.emod_nonneg n (b := (L : Int)) (by omega)
  have h2 := Int.emod_lt_of_pos n (b := (L : Int)) (by omega)
  have h3 : (n % (L : Int)).toNat < z.cps.toList.length := by omega
  refine Eq.trans (congrArg _ (Int.toNat_of_nonneg h1).symm) (atI_nat ?_)
  rw [List.getD_eq_getElem?_getD, List.getElem?_eq_getElem h3]
  rfl
theorem ix_le (z : Str) (n : Int) (h1 : 0 ≤ n) (h2 : n < (z.cps.toList.length : Int)) : atI z.cps.toList n = some (z.cps.toList.getD n.toNat 0) := by
  have h3 : n.toNat < z.cps.toList.length := by omega
  refine Eq.trans (congrArg _ (Int.toNat_of_nonneg h1).symm) (atI_nat ?_)
  rw [List.getD_eq_getElem?_getD, List.getElem?_eq_getElem h3]
  rfl
theorem ixN_of {n : Nat} {i : Int} {j : Nat} (e : i = (j : Int)) (h : j < n) : ixN n i = some j := by
  subst e
  unfold ixN
  rw [if_pos (by omega), if_pos (by omega), Int.toNat_natCast]
theorem log_small {i : Int} (h0 : -1000000000 ≤ i) (h1 : i ≤ 1000000000) : i.natAbs.log2 < 1920 := by
  by_cases h : i.natAbs = 0
  · rw [h]; decide
  · refine Nat.lt_of_lt_of_le ((Nat.log2_lt h).mpr (show i.natAbs < 2 ^ 30 by omega)) (by decide)
theorem seq_if {c : TT} {t1 t2 r : TS} {D : Ends} {σ : L2.St} {H : Hp} (b : Bool) (hc : Ans c σ H b) (hT : b = true → t1 { D with nx := r D } σ H) (hF : b = false → t2 { D with nx := r D } σ H) : tSeq (tIfS c t1 t2) r D σ H := by
  refine hc _ ?_
  cases b with
  | true => exact hT rfl
  | false => exact hF rfl
theorem seq_if1 {c : TT} {t1 r : TS} {D : Ends} {σ : L2.St} {H : Hp} (b : Bool) (hc : Ans c σ H b) (hT : b = true → t1 { D with nx := r D } σ H) (hF : b = false → r D σ H) : tSeq (tIfS c t1 tNext) r D σ H := by
  refine hc _ ?_
  cases b with
  | true => exact hT rfl
  | false => exact hF rfl
theorem do_if1 {c : TT} {t1 : TS} {D : Ends} {σ : L2.St} {H : Hp} (b : Bool) (hc : Ans c σ H b) (hT : b = true → t1 D σ H) (hF : b = false → D.nx σ H) : tIfS c t1 tNext D σ H := by
  refine hc _ ?_
  cases b with
  | true => exact hT rfl
  | false => exact hF rfl
theorem do_if {c : TT} {t1 t2 : TS} {D : Ends} {σ : L2.St} {H : Hp} (b : Bool) (hc : Ans c σ H b) (hT : b = true → t1 D σ H) (hF : b = false → t2 D σ H) : tIfS c t1 t2 D σ H := by
  refine hc _ ?_
  cases b with
  | true => exact hT rfl
  | false => exact hF rfl
theorem an_or {t u : TT} {σ : L2.St} {H : Hp} {a b : Bool} (h1 : Ans t σ H a) (h2 : a = false → Ans u σ H b) : Ans (tOr t u) σ H (a || b) := fun Q q => by
  refine h1 _ ?_
  cases a with
  | true => exact q
  | false => exact h2 rfl _ q
theorem an_and {t u : TT} {σ : L2.St} {H : Hp} {a b : Bool} (h1 : Ans t σ H a) (h2 : a = true → Ans u σ H b) : Ans (tAnd t u) σ H (a && b) := fun Q q => by
  refine h1 _ ?_
  cases a with
  | true => exact h2 rfl _ q
  | false => exact q
theorem dec_int {i j : Int} : decide (V.int i = V.int j) = decide (i = j) := decide_eq_decide.mpr ⟨fun h => by injection h, fun h => by rw [h]⟩
theorem dec_str {i j : Str} : decide (V.str i = V.str j) = decide (i = j) := decide_eq_decide.mpr ⟨fun h => by injection h, fun h => by rw [h]⟩
theorem dec_bl {i j : Bool} : decide (V.bl i = V.bl j) = decide (i = j) := decide_eq_decide.mpr ⟨fun h => by injection h, fun h => by rw [h]⟩
theorem or_test {t u : TT} {σ : L2.St} {H : Hp} {Q : Bool → Hp → Prop} (a b : Bool) (h1 : ∀ Q' : Bool → Hp → Prop, Q' a H → t σ H Q') (h2 : a = false → ∀ Q' : Bool → Hp → Prop, Q' b H → u σ H Q') (h : Q (a || b) H) : tOr t u σ H Q := by
  refine h1 _ ?_
  cases a with
  | true => exact h
  | false => exact h2 rfl _ h
theorem and_test {t u : TT} {σ : L2.St} {H : Hp} {Q : Bool → Hp → Prop} (a b : Bool) (h1 : ∀ Q' : Bool → Hp → Prop, Q' a H → t σ H Q') (h2 : a = true → ∀ Q' : Bool → Hp → Prop, Q' b H → u σ H Q') (h : Q (a && b) H) : tAnd t u σ H Q := by
  refine h1 _ ?_
  cases a with
  | true => exact h2 rfl _ h
  | false => exact h
theorem atI_of {α : Type} {xs : List α} {z : Int} {j : Nat} {v : α} (e : z = (j : Int)) (h : xs[j]? = some v) : atI xs z = some v := by
  rw [e]
  exact atI_nat h
theorem cut_to (xs : List V) {n : Int} (h : 0 ≤ n) : cutV xs none (some n) = xs.take n.toNat := by
  unfold cutV
  obtain ⟨k, rfl⟩ := Int.eq_ofNat_of_zero_le h
  rw [HT.sIx_nat, HT.sIx_none, Nat.sub_zero, List.drop_zero, Int.toNat_natCast, List.take_eq_take_iff]
  omega
theorem cut_from (xs : List V) {n : Int} (h : 0 ≤ n) : cutV xs (some n) none = xs.drop n.toNat := by
  unfold cutV
  obtain ⟨k, rfl⟩ := Int.eq_ofNat_of_zero_le h
  rw [HT.sIx_nat, HT.sIx_none, Int.toNat_natCast]
  by_cases hk : k ≤ xs.length
  · rw [Nat.min_eq_left hk, List.take_of_length_le (by simp)]
  · rw [Nat.min_eq_right (by omega)]
    simp
    omega
/-! ### names -/
@[irreducible] def someS : Str := "abcdefghijklmnopqrstuvwxyz0123456789"
theorem someS_def : someS = ("abcdefghijklmnopqrstuvwxyz0123456789" : Str) := by unfold someS; rfl
theorem someS_len : someS.cps.toList.length = 36 := by unfold someS; decide +kernel
@[irreducible] def sgn (i : Int) : Nat := someS.cps.toList.getD i.toNat 0
theorem sgn_def (i : Int) : sgn i = someS.cps.toList.getD i.toNat 0 := by unfold sgn; rfl
theorem ix36 (n : Int) : atI someS.cps.toList (n % 36) = some (sgn (n % 36)) := by
  rw [sgn_def]
  exact ix_mod someS n (L := 36) someS_len (by decide)
theorem ix26 (n : Int) : atI someS.cps.toList (n % 26) = some (sgn (n % 26)) := by
  rw [sgn_def]
  exact ix_le someS (n % 26) (by omega) (by have := someS_len; omega)
@[irreducible] def sg0 (b : Int) : List Nat := (List.range 8).map fun (k : Nat) => sgn ((b / 64 + 7 * (k : Int) + b / 99991 * (k : Int)) % 36)
theorem sg0_def (b : Int) : sg0 b = (List.range 8).map fun (k : Nat) => sgn ((b / 64 + 7 * (k : Int) + b / 99991 * (k : Int)) % 36) := by unfold sg0; rfl
@[irreducible] def sg (b : Int) : List Nat := (sg0 b).set 0 (sgn (b / 64 % 26))
theorem sg_def (b : Int) : sg b = (sg0 b).set 0 (sgn (b / 64 % 26)) := by unfold sg; rfl
@[irreducible] def digs (t : Int) : List Nat := TL.numL t.toNat
theorem digs_def (t : Int) : digs t = TL.numL t.toNat := by unfold digs; rfl
theorem digs_sx {t : Int} (h : 0 ≤ t) : Str.ofString (toString t) = sx (digs t) := by
  obtain ⟨n, rfl⟩ := Int.eq_ofNat_of_zero_le h
  rw [digs_def, Int.toNat_natCast]
  exact SX.num_S n
theorem digs_len {t : Int} (h1 : t ≤ 1000) : (digs t).length ≤ 4 := by
  rw [digs_def]
  exact TL.numL_len (by decide) (by omega)
def nameL (b t : Int) : List Nat :=
  if b % 3 = 0 ∧ t < 8 then (sg b).take (1 + t).toNat
  else if b % 3 < 2 ∨ 25 < t then (sg b).take (1 + b / 3 % 5).toNat ++ digs t
  else ((sg b).set (b / 24 % (1 + b / 3 % 8)).toNat (sgn ((b / 2311 + t) % (if b / 24 % (1 + b / 3 % 8) = 0 then 26 else 36)))).take (1 + b / 3 % 8).toNat
@[irreducible] def nameOf (b t : Int) : Str := sx (nameL b t)
theorem nameOf_def (b t : Int) : nameOf b t = sx (nameL b t) := by unfold nameOf; rfl
theorem sg0_len (b : Int) : (sg0 b).length = 8 := by simp [sg0_def]
theorem sg_len (b : Int) : (sg b).length = 8 := by simp [sg_def, sg0_len]
/-- the list of the signs of a text, as it stands in a list of texts -/
def onesV (cs : List Nat) : List V := (cs.map one).map V.str
theorem onesV_len (cs : List Nat) : (onesV cs).length = cs.length := by simp [onesV]
theorem onesV_take (cs : List Nat) (n : Nat) : (onesV cs).take n = onesV (cs.take n) := by simp [onesV, List.map_take]
theorem onesV_set (cs : List Nat) (n c : Nat) : (onesV cs).set n (V.str ⟨#[c]⟩) = onesV (cs.set n c) := by
  unfold onesV
  rw [List.map_set, List.map_set]
  rfl
theorem sgn_lt (i : Int) : sgn i < 128 := by
  have h : someS.cps.toList.all (fun c => decide (c < 128)) = true := by unfold someS; decide +kernel
  rw [sgn_def, List.getD_eq_getElem?_getD]
  cases e : someS.cps.toList[i.toNat]? with
  | none => decide
  | some c => exact of_decide_eq_true (List.all_eq_true.mp h c (List.mem_of_getElem? e))
theorem sg_lt (b : Int) : ∀ c ∈ sg b, c < 128 := by
  intro c hc
  rw [sg_def] at hc
  rcases List.mem_or_eq_of_mem_set hc with h | h
  · rw [sg0_def] at h
    obtain ⟨k, _, rfl⟩ := List.mem_map.mp h
    exact sgn_lt _
  · rw [h]
    exact sgn_lt _
theorem digs_lt (t : Int) : ∀ c ∈ digs t, c < 128 := by
  intro c hc
  rw [digs_def] at hc
  have := TL.numL_digits _ c hc
  omega
theorem nameL_lt (b t : Int) : ∀ c ∈ nameL b t, c < 128 := by
  intro c hc
  unfold nameL at hc
  split at hc
  · exact sg_lt b c (List.mem_of_mem_take hc)
  · split at hc
    · rcases List.mem_append.mp hc with h | h
      · exact sg_lt b c (List.mem_of_mem_take h)
      · exact digs_lt t c h
    · rcases List.mem_or_eq_of_mem_set (List.mem_of_mem_take hc) with h | h
      · exact sg_lt b c h
      · rw [h]
        exact sgn_lt _
theorem nameOf_ok (b t : Int) : PyData.strOk (nameOf b t) = true := by
  rw [nameOf_def]
  show (nameL b t).toArray.all (· < 0x110000) = true
  rw [List.all_toArray, List.all_eq_true]
  intro c hc
  exact decide_eq_true (Nat.lt_trans (nameL_lt b t c hc) (by decide))
/-! ### what a name is -/
def smallC (c : Nat) : Bool := decide (97 ≤ c) && decide (c ≤ 122)
def signC (c : Nat) : Bool := smallC c || (decide (48 ≤ c) && decide (c ≤ 57))
def isName (cs : List Nat) : Bool := decide (0 < cs.length) && decide (cs.length ≤ 8) && smallC (cs.getD 0 0) && cs.all signC
theorem mem_small {z : Str} (h : z.cps.toList = List.range' 97 26) (c : Nat) : decide (c ∈ z.cps.toList) = smallC c := by
  rw [h]
  unfold smallC
  by_cases q : 97 ≤ c ∧ c ≤ 122
  · rw [decide_eq_true (List.mem_range'_1.mpr ⟨q.1, by omega⟩), decide_eq_true q.1, decide_eq_true q.2]
    rfl
  · rw [decide_eq_false (fun m => q (by have := List.mem_range'_1.mp m; omega))]
    by_cases q1 : 97 ≤ c
    · rw [decide_eq_true q1, decide_eq_false (fun q2 => q ⟨q1, q2⟩)]
      rfl
    · rw [decide_eq_false q1]
      rfl
theorem mem_sign {z : Str} (h : z.cps.toList = List.range' 97 26 ++ List.range' 48 10) (c : Nat) : decide (c ∈ z.cps.toList) = signC c := by
  have e : (c ∈ z.cps.toList) ↔ (97 ≤ c ∧ c ≤ 122) ∨ (48 ≤ c ∧ c ≤ 57) := by
    rw [h, List.mem_append, List.mem_range'_1, List.mem_range'_1]
    omega
  have e2 : decide (c ∈ z.cps.toList) = decide ((97 ≤ c ∧ c ≤ 122) ∨ (48 ≤ c ∧ c ≤ 57)) := decide_eq_decide.mpr e
  rw [e2]
  unfold signC smallC
  by_cases q1 : 97 ≤ c <;> by_cases q2 : c ≤ 122 <;> by_cases q3 : 48 ≤ c <;> by_cases q4 : c ≤ 57 <;> simp [q1, q2, q3, q4]
theorem someS_range : someS.cps.toList = List.range' 97 26 ++ List.range' 48 10 := by unfold someS; decide +kernel
theorem sgn_small {i : Int} (h0 : 0 ≤ i) (h1 : i < 26) : smallC (sgn i) = true := by
  rw [sgn_def, someS_range, List.getD_eq_getElem?_getD, List.getElem?_append_left (by simp; omega), List.getElem?_range' (by omega)]
  unfold smallC
  simp
  omega
theorem sgn_sign (i : Int) (h0 : 0 ≤ i) (h1 : i < 36) : signC (sgn i) = true := by
  by_cases h : i < 26
  · unfold signC
    rw [sgn_small h0 h]
    rfl
  · rw [sgn_def, someS_range, List.getD_eq_getElem?_getD, List.getElem?_append_right (by simp; omega), List.length_range', List.getElem?_range' (by omega)]
    unfold signC
    simp
    omega
theorem small_sign {c : Nat} (h : smallC c = true) : signC c = true := by
  unfold signC
  rw [h]
  rfl
theorem sg_sign (b : Int) : ∀ c ∈ sg b, signC c = true := by
  intro c hc
  rw [sg_def] at hc
  rcases List.mem_or_eq_of_mem_set hc with h | h
  · rw [sg0_def] at h
    obtain ⟨k, _, rfl⟩ := List.mem_map.mp h
    exact sgn_sign _ (by omega) (by omega)
  · rw [h]
    exact small_sign (sgn_small (by omega) (by omega))
theorem sg_head (b : Int) : ∃ c cs, sg b = c :: cs ∧ smallC c = true := by
  have hl := sg0_len b
  rw [sg_def]
  cases e : sg0 b with
  | nil => rw [e] at hl; cases hl
  | cons c cs => exact ⟨_, cs, rfl, sgn_small (by omega) (by omega)⟩
theorem digs_sign (t : Int) : ∀ c ∈ digs t, signC c = true := by
  intro c hc
  rw [digs_def] at hc
  have := TL.numL_digits _ c hc
  unfold signC
  simp
  omega
theorem isName_of {c : Nat} {cs : List Nat} (h1 : smallC c = true) (h2 : ∀ x ∈ cs, signC x = true) (h3 : cs.length ≤ 7) : isName (c :: cs) = true := by
  unfold isName
  rw [decide_eq_true (show 0 < (c :: cs).length by simp), decide_eq_true (show (c :: cs).length ≤ 8 by simp; omega), show (c :: cs).getD 0 0 = c from rfl, h1, List.all_cons, small_sign h1]
  simp only [Bool.true_and]
  exact List.all_eq_true.mpr h2
theorem isName_nameL {b t : Int} (h0 : 0 ≤ t) (h1 : t ≤ 999) : isName (nameL b t) = true := by
  obtain ⟨c, cs, e, hc⟩ := sg_head b
  have hl := sg_len b
  rw [e] at hl
  have hs : ∀ x ∈ cs, signC x = true := fun x hx => sg_sign b x (by rw [e]; exact List.mem_cons_of_mem _ hx)
  have hcl : cs.length = 7 := by simpa using hl
  unfold nameL
  split
  · rename_i h
    obtain ⟨n, hn⟩ : ∃ n : Nat, (1 + t).toNat = n + 1 := ⟨t.toNat, by omega⟩
    rw [hn, e, List.take_succ_cons]
    exact isName_of hc (fun x hx => hs x (List.mem_of_mem_take hx)) (by rw [List.length_take]; omega)
  · split
    · obtain ⟨n, hn, hn4⟩ : ∃ n : Nat, (1 + b / 3 % 5).toNat = n + 1 ∧ n ≤ 4 := ⟨(b / 3 % 5).toNat, by omega, by omega⟩
      rw [hn, e, List.take_succ_cons, List.cons_append]
      refine isName_of hc (fun x hx => ?_) ?_
      · rcases List.mem_append.mp hx with h | h
        · exact hs x (List.mem_of_mem_take h)
        · exact digs_sign t x h
      · have : (digs t).length ≤ 3 := by
          rw [digs_def]
          exact TL.numL_len (by decide) (by omega)
        rw [List.length_append, List.length_take]
        omega
    · obtain ⟨n, hn, hn4⟩ : ∃ n : Nat, (1 + b / 3 % 8).toNat = n + 1 ∧ n ≤ 7 := ⟨(b / 3 % 8).toNat, by omega, by omega⟩
      have a0 := Int.emod_nonneg (b / 24) (b := 1 + b / 3 % 8) (by omega)
      rw [hn, e]
      by_cases ha : b / 24 % (1 + b / 3 % 8) = 0
      · rw [ha, if_pos rfl]
        show isName ((_ :: cs).take (n + 1)) = true
        rw [List.take_succ_cons]
        exact isName_of (sgn_small (by omega) (by omega)) (fun x hx => hs x (List.mem_of_mem_take hx)) (by rw [List.length_take]; omega)
      · rw [if_neg ha]
        obtain ⟨m, hm⟩ : ∃ m : Nat, (b / 24 % (1 + b / 3 % 8)).toNat = m + 1 := ⟨(b / 24 % (1 + b / 3 % 8)).toNat - 1, by omega⟩
        rw [hm, List.set_cons_succ, List.take_succ_cons]
        refine isName_of hc (fun x hx => ?_) (by rw [List.length_take, List.length_set]; omega)
        rcases List.mem_or_eq_of_mem_set (List.mem_of_mem_take hx) with h | h
        · exact hs x h
        · rw [h]
          exact sgn_sign _ (by omega) (by omega)
theorem isName_nameOf {b t : Int} (h0 : 0 ≤ t) (h1 : t ≤ 999) : isName (nameOf b t).cps.toList = true := by
  rw [nameOf_def, sx_tl]
  exact isName_nameL h0 h1
theorem nameOf_len {b t : Int} (h0 : 0 ≤ t) (h1 : t ≤ 999) : (nameOf b t).length ≤ 8 := by
  have h := isName_nameOf (b := b) h0 h1
  unfold isName at h
  simp only [Bool.and_eq_true, decide_eq_true_eq] at h
  exact h.1.1.2
end Toll

set_option Elab.async false
set_option maxRecDepth 100000
set_option maxHeartbeats 4000000
namespace Toll
open PySem L2
/-! ### data for == -/
def okD (k : Nat) (d : PyData) : Prop := d.canLay0 = true ∧ d.depth ≤ k
theorem okD_all {k : Nat} : ∀ {ds : List PyData}, (∀ d ∈ ds, okD k d) → PyData.canLayAll0 ds = true ∧ PyData.depthAll ds ≤ k
  | [], _ => ⟨by simp [PyData.canLayAll0], by simp [PyData.depthAll]⟩
  | d :: ds, h => by
    have ih := okD_all (ds := ds) fun x hx => h x (List.mem_cons_of_mem _ hx)
    have h1 := h d (List.mem_cons_self ..)
    refine ⟨by simp [PyData.canLayAll0, h1.1, ih.1], ?_⟩
    simp only [PyData.depthAll]
    have := h1.2
    have := ih.2
    omega
theorem okD_list {k : Nat} {ds : List PyData} (h : ∀ d ∈ ds, okD k d) : okD (k + 1) (.list ds) := by
  have := okD_all h
  refine ⟨by simp only [PyData.canLay0]; exact this.1, ?_⟩
  simp only [PyData.depth]
  omega
theorem okD_tup {k : Nat} {ds : List PyData} (h : ∀ d ∈ ds, okD k d) : okD (k + 1) (.tuple ds) := by
  have := okD_all h
  refine ⟨by simp only [PyData.canLay0]; exact this.1, ?_⟩
  simp only [PyData.depth]
  omega
theorem okD_int (i : Int) : okD 0 (.int i) := ⟨by simp [PyData.canLay0], by simp [PyData.depth]⟩
theorem okD_bool (i : Bool) : okD 0 (.bool i) := ⟨by simp [PyData.canLay0], by simp [PyData.depth]⟩
theorem okD_str {x : Str} (h : PyData.strOk x = true) : okD 0 (.str x) := ⟨by simp [PyData.canLay0, h], by simp [PyData.depth]⟩
theorem okD.shaped {k : Nat} {d : PyData} (h : okD k d) (hk : k ≤ 64) : SeqAt.shaped d = true := by
  show (d.canLay0 && decide (d.depth ≤ 64)) = true
  rw [Bool.and_eq_true]
  exact ⟨h.1, decide_eq_true (by have := h.2; omega)⟩
theorem okD.refl {k : Nat} {d : PyData} (h : okD k d) : PyData.eqv d d = true := SeqAt.eqv_refl d h.1
/-! ### lists of ints -/
def intsD (ns : List Int) : PyData := .list (ns.map PyData.int)
theorem intsD_ok (ns : List Int) : okD 1 (intsD ns) := okD_list fun d hd => by
  obtain ⟨i, _, rfl⟩ := List.mem_map.mp hd
  exact okD_int i
theorem dpAll_ints {K : PySem.W.Frag} {H : Hp} : ∀ ns : List Int, DpAll K H (ns.map V.int) (ns.map PyData.int)
  | [] => .nil
  | n :: ns => .cons (.int n) (dpAll_ints ns)
theorem dp_ints {K : PySem.W.Frag} {H : Hp} {a : Addr} {ns : List Int} (h : SqL K H a (ns.map V.int)) : Dp K H (.ref a) (intsD ns) := .lst h (dpAll_ints ns)
/-! ### a while by a number that falls -/
theorem while_m {c : TT} {tb : TS} {D : Ends} {σ : L2.St} {H : Hp} (W : Nat → L2.St → Hp → Prop) (m : Nat) (h0 : W m σ H)
    (hs : ∀ m σ H, W m σ H → ∃ b, Ans c σ H b ∧ (b = true → tb { D with nx := fun σ' H' => ∃ m', m' < m ∧ W m' σ' H', ct := fun σ' H' => ∃ m', m' < m ∧ W m' σ' H', bk := D.nx } σ H) ∧ (b = false → D.nx σ H)) : tWhile c tb D σ H := by
  refine ⟨W, ⟨m, h0⟩, fun m σ H w => ?_⟩
  obtain ⟨b, ha, hT, hF⟩ := hs m σ H w
  refine ha _ ?_
  cases b with
  | true => exact ⟨_, fun _ _ q => q, hT rfl⟩
  | false => exact hF rfl
theorem seq_while {c : TT} {tb r : TS} {D : Ends} {σ : L2.St} {H : Hp} (W : Nat → L2.St → Hp → Prop) (m : Nat) (h0 : W m σ H)
    (hs : ∀ m σ H, W m σ H → ∃ b, Ans c σ H b ∧ (b = true → tb { D with nx := fun σ' H' => ∃ m', m' < m ∧ W m' σ' H', ct := fun σ' H' => ∃ m', m' < m ∧ W m' σ' H', bk := r D } σ H) ∧ (b = false → r D σ H)) : tSeq (tWhile c tb) r D σ H :=
  while_m (D := { D with nx := r D }) W m h0 hs
/-! ### rows -/
structure Row where
  nm : Str
  mi : Int
  tl : Int
  rd : Int
  bk : Int
def rowVs (r : Row) : List V := [.str r.nm, .int r.mi, .int r.tl, .int r.rd, .int r.bk]
def RowV (H : Hp) (v : V) (r : Row) : Prop := ∃ t, v = .ref t ∧ H t = some (.tup (rowVs r))
theorem RowV.same {H H' : Hp} {v : V} {r : Row} (s : Same H H') (h : RowV H v r) : RowV H' v r := by
  obtain ⟨t, e, h⟩ := h
  exact ⟨t, e, s _ _ h⟩
theorem rows_same {H H' : Hp} {us : List V} {rows : List Row} (s : Same H H') (h : Paired (RowV H) us rows) : Paired (RowV H') us rows := L2.Paired.mapP h fun _ _ h => RowV.same s h
theorem paired_len {α β : Type} {F : α → β → Prop} : ∀ {l : List α} {m : List β}, Paired F l m → l.length = m.length
  | _, _, .nil => rfl
  | _, _, .cons _ t => by simp [paired_len t]
theorem paired_get {α β : Type} {F : α → β → Prop} : ∀ {l : List α} {m : List β} {i : Nat} {y : β}, Paired F l m → m[i]? = some y → ∃ x, l[i]? = some x ∧ F x y
  | _, _, _, _, .nil, e => by simp at e
  | _, _, 0, _, .cons r _, e => by simp at e; subst e; exact ⟨_, rfl, r⟩
  | _, _, i + 1, y, .cons _ t, e => by
    obtain ⟨x, h1, h2⟩ := paired_get (i := i) (y := y) t (by simpa using e)
    exact ⟨x, by simpa using h1, h2⟩
theorem paired_getL {α β : Type} {F : α → β → Prop} : ∀ {l : List α} {m : List β} {i : Nat} {x : α}, Paired F l m → l[i]? = some x → ∃ y, m[i]? = some y ∧ F x y
  | _, _, _, _, .nil, e => by simp at e
  | _, _, 0, _, .cons r _, e => by simp at e; subst e; exact ⟨_, rfl, r⟩
  | _, _, i + 1, y, .cons _ t, e => by
    obtain ⟨x, h1, h2⟩ := paired_getL (i := i) (x := y) t (by simpa using e)
    exact ⟨x, by simpa using h1, h2⟩
theorem paired_take {α β : Type} {F : α → β → Prop} : ∀ {l : List α} {m : List β} (n : Nat), Paired F l m → Paired F (l.take n) (m.take n)
  | _, _, 0, _ => .nil
  | _, _, _ + 1, .nil => .nil
  | _, _, n + 1, .cons r t => .cons r (paired_take n t)
theorem rows_upd {H : Hp} {L : Addr} {xs : List V} {o : HO} {us : List V} {rows : List Row} (hL : H L = some (.lst xs)) (h : Paired (RowV H) us rows) : Paired (RowV (upd H L o)) us rows := L2.Paired.mapP h fun _ _ ⟨t, e, ht⟩ => ⟨t, e, by rw [upd_ne (ne_of ht hL (by intro z; cases z))]; exact ht⟩
def rowsD (rows : List Row) : PyData := .list (rows.map fun r => .tuple [.str r.nm, .int r.mi, .int r.tl, .int r.rd, .int r.bk])
theorem rowsD_ok {rows : List Row} (h : ∀ r ∈ rows, PyData.strOk r.nm = true) : okD 2 (rowsD rows) := okD_list fun d hd => by
  obtain ⟨r, hr, rfl⟩ := List.mem_map.mp hd
  refine okD_tup fun e he => ?_
  simp only [List.mem_cons, List.not_mem_nil, or_false] at he
  rcases he with rfl | rfl | rfl | rfl | rfl
  · exact okD_str (h r hr)
  all_goals exact okD_int _
theorem dpAll_rows {K : PySem.W.Frag} {H : Hp} : ∀ {vs : List V} {rows : List Row}, Paired (RowV H) vs rows → DpAll K H vs (rows.map fun r => .tuple [.str r.nm, .int r.mi, .int r.tl, .int r.rd, .int r.bk])
  | _, _, .nil => .nil
  | _, _, .cons ⟨t, e, h⟩ r => by
    subst e
    exact .cons (.tup (SqT.of h) (.cons (.str _) (.cons (.int _) (.cons (.int _) (.cons (.int _) (.cons (.int _) .nil)))))) (dpAll_rows r)
theorem dp_rows {K : PySem.W.Frag} {H : Hp} {a : Addr} {vs : List V} {rows : List Row} (h : SqL K H a vs) (p : Paired (RowV H) vs rows) : Dp K H (.ref a) (rowsD rows) := .lst h (dpAll_rows p)
/-- the place of the least toll of a name among rows 1 .. i - 1 -/
def leastF (rows : List Row) (nm : Str) : Nat → Option Nat
  | 0 => none
  | i + 1 =>
    if i = 0 then none else
    match rows[i]? with
    | none => leastF rows nm i
    | some r => if r.nm = nm then
        match leastF rows nm i with
        | none => some i
        | some b => if r.tl < ((rows[b]?).map (·.tl)).getD 0 then some i else some b
      else leastF rows nm i
theorem leastF_lt {rows : List Row} {nm : Str} : ∀ {i b : Nat}, leastF rows nm i = some b → b < i
  | 0, b, h => by cases h
  | i + 1, b, h => by
    unfold leastF at h
    split at h
    · cases h
    · split at h
      · have := leastF_lt h
        omega
      · split at h
        · split at h
          · injection h with h; omega
          · rename_i c hc
            have := leastF_lt hc
            split at h <;> injection h with h <;> omega
        · have := leastF_lt h
          omega
def oV : Option Nat → V
  | none => .non
  | some i => .int (i : Int)
/-- the roads back from a row -/
def roadsF (rows : List Row) : Nat → Int → List Int
  | 0, _ => []
  | f + 1, p => if p ≤ 0 then [] else match rows[p.toNat]? with
    | none => []
    | some r => roadsF rows f r.bk ++ [r.rd]
def Backs (rows : List Row) : Prop := ∀ (i : Nat) (r : Row), rows[i]? = some r → r.bk < (i : Int) ∧ (i = 0 ∨ 0 ≤ r.bk)
/-- enough turns are enough -/
theorem roadsF_more {rows : List Row} (hb : Backs rows) : ∀ (f g : Nat) (p : Int), p ≤ (f : Int) → p ≤ (g : Int) → roadsF rows f p = roadsF rows g p
  | 0, 0, _, _, _ => rfl
  | 0, g + 1, p, h, _ => by
    unfold roadsF
    rw [if_pos (by omega)]
  | f + 1, 0, p, _, h => by
    unfold roadsF
    rw [if_pos (by omega)]
  | f + 1, g + 1, p, h1, h2 => by
    unfold roadsF
    by_cases hp : p ≤ 0
    · rw [if_pos hp, if_pos hp]
    · rw [if_neg hp, if_neg hp]
      cases e : rows[p.toNat]? with
      | none => rfl
      | some r =>
        have := (hb _ _ e).1
        show roadsF rows f r.bk ++ _ = roadsF rows g r.bk ++ _
        rw [roadsF_more hb f g r.bk (by omega) (by omega)]
def roadsOf (rows : List Row) (p : Int) : List Int := roadsF rows p.toNat p
theorem roadsOf_step {rows : List Row} (hb : Backs rows) {p : Int} (h : 0 < p) {r : Row} (hr : rows[p.toNat]? = some r) : roadsOf rows p = roadsOf rows r.bk ++ [r.rd] := by
  unfold roadsOf
  obtain ⟨n, rfl⟩ : ∃ n : Nat, p = ((n + 1 : Nat) : Int) := ⟨p.toNat - 1, by omega⟩
  rw [Int.toNat_natCast] at hr ⊢
  show roadsF rows (n + 1) _ = _
  conv => lhs; unfold roadsF
  rw [if_neg (by omega), Int.toNat_natCast, hr]
  show roadsF rows n r.bk ++ _ = _
  have := (hb _ _ hr).1
  rw [roadsF_more hb n r.bk.toNat r.bk (by omega) (by omega)]
theorem roadsOf_end (rows : List Row) {p : Int} (h : p ≤ 0) : roadsOf rows p = [] := by
  unfold roadsOf
  rw [show p.toNat = 0 by omega]
  rfl
theorem roadsF_len (rows : List Row) : ∀ f p, (roadsF rows f p).length ≤ f
  | 0, _ => by simp [roadsF]
  | f + 1, p => by
    unfold roadsF
    split
    · simp
    · split
      · simp
      · have := roadsF_len rows f
        simp [this]
/-- the law's rows -/
def nextRow (b : Int) (rows : List Row) (n : Int) : Row :=
  let back := n % (rows.length : Int)
  let r := rows.getD back.toNat ⟨nameOf 0 0, 0, 0, 0, 0⟩
  ⟨nameOf b (n / 7 % 6), r.mi + (1 + n / 1009 % 9), r.tl + n / 101 % 7 * (if n / 31 % 3 > 0 then 1 else 0), n / 10007 % 200, back⟩
def lawRows (ns : List Int) (b : Int) : Nat → List Row
  | 0 => [⟨nameOf b (cellAt ns 0 % 6), 0, 0, -1, -1⟩]
  | k + 1 => lawRows ns b k ++ [nextRow b (lawRows ns b k) (mixed ns (1 + (0 + (k : Int))))]
theorem lawRows_len (ns : List Int) (b : Int) : ∀ k, (lawRows ns b k).length = k + 1
  | 0 => rfl
  | k + 1 => by rw [lawRows, List.length_append, lawRows_len ns b k]; rfl
theorem lawRows_back (ns : List Int) (b : Int) : ∀ k, Backs (lawRows ns b k)
  | 0 => fun i r h => by
    cases i with
    | zero => simp [lawRows] at h; subst h; exact ⟨(by show (-1 : Int) < 0; decide), .inl rfl⟩
    | succ i => simp [lawRows] at h
  | k + 1 => fun i r h => by
    have hl := lawRows_len ns b k
    rw [lawRows, List.getElem?_append] at h
    split at h
    · exact lawRows_back ns b k i r h
    · have hi : i = k + 1 := by
        have := (List.getElem?_eq_some_iff.mp h).1
        simp at this
        omega
      subst hi
      rw [hl, Nat.sub_self] at h
      have e : nextRow b (lawRows ns b k) (mixed ns (1 + (0 + (k : Int)))) = r := by simpa using h
      rw [← e]
      unfold nextRow
      rw [hl]
      have h1 := Int.emod_nonneg (mixed ns (1 + (0 + (k : Int)))) (b := ((k + 1 : Nat) : Int)) (by omega)
      have h2 := Int.emod_lt_of_pos (mixed ns (1 + (0 + (k : Int)))) (b := ((k + 1 : Nat) : Int)) (by omega)
      exact ⟨h2, .inr h1⟩
theorem lawRows_nm (ns : List Int) (b : Int) : ∀ k r, r ∈ lawRows ns b k → ∃ t, 0 ≤ t ∧ t ≤ 1000 ∧ r.nm = nameOf b t
  | 0, r, h => by
    simp [lawRows] at h
    subst h
    exact ⟨cellAt ns 0 % 6, by omega, by omega, rfl⟩
  | k + 1, r, h => by
    rw [lawRows, List.mem_append] at h
    rcases h with h | h
    · exact lawRows_nm ns b k r h
    · rw [List.mem_singleton] at h
      subst h
      exact ⟨_, by omega, by omega, rfl⟩
end Toll

set_option Elab.async false
set_option maxRecDepth 100000
set_option maxHeartbeats 4000000
namespace Toll
open PySem L2
/-! ### a net: gates by name, roads by number -/
structure RoadD where
  one : Str
  other : Str
  mi : Int
  tl : Int
  op : Bool
structure NetD where
  gates : List (Str × Bool)
  roads : List RoadD
def gatesK (gs : List (Str × Bool)) : List (Key × V) := gs.map fun p => (Sum.inr p.1, V.bl p.2)
def seesOf (gs : List (Str × Bool)) (nm : Str) : Option Bool := (gs.find? fun p => decide (p.1 = nm)).map (·.2)
theorem key_inr {a b : Str} : ((Sum.inr a : Key) = Sum.inr b) ↔ a = b := ⟨fun h => by injection h, fun h => by rw [h]⟩
theorem valV_gates (gs : List (Str × Bool)) (nm : Str) : valV (gatesK gs) (Sum.inr nm : Key) = (seesOf gs nm).map V.bl := by
  induction gs with
  | nil => rfl
  | cons p gs ih =>
    unfold gatesK seesOf at *
    rw [List.map_cons]
    by_cases h : p.1 = nm
    · rw [valV_pos (key_inr.mpr h), List.find?_cons_of_pos (by simpa using h)]
      rfl
    · rw [valV_neg (fun z => h (key_inr.mp z)), List.find?_cons_of_neg (by simpa using h)]
      exact ih
def setSees (gs : List (Str × Bool)) (nm : Str) (b : Bool) : List (Str × Bool) := gs.map fun p => if p.1 = nm then (p.1, b) else p
theorem putK_new_gates {gs : List (Str × Bool)} {nm : Str} {b : Bool} (h : seesOf gs nm = none) : putK (gatesK gs) (Sum.inr nm : Key) (V.bl b) = gatesK (gs ++ [(nm, b)]) := by
  rw [putK_new _ (by rw [valV_gates, h]; rfl)]
  simp [gatesK]
theorem putK_old_gates {gs : List (Str × Bool)} {nm : Str} {b c : Bool} (h : seesOf gs nm = some c) : putK (gatesK gs) (Sum.inr nm : Key) (V.bl b) = gatesK (setSees gs nm b) := by
  have e : ((gatesK gs).any fun kv => decide (kv.1 = (Sum.inr nm : Key))) = true := by
    rw [valV_any, valV_gates, h]
    rfl
  unfold putK
  rw [if_pos e]
  unfold gatesK setSees
  rw [List.map_map, List.map_map]
  apply List.map_congr_left
  intro p _
  by_cases hp : p.1 = nm
  · simp [hp]
  · have : ¬ (Sum.inr p.1 : Key) = Sum.inr nm := fun z => hp (key_inr.mp z)
    simp [hp]
theorem seesOf_none {gs : List (Str × Bool)} {nm : Str} : seesOf gs nm = none ↔ nm ∉ gs.map (·.1) := by
  unfold seesOf
  rw [Option.map_eq_none_iff, List.find?_eq_none]
  refine ⟨fun h m => ?_, fun h p hp e => h (List.mem_map.mpr ⟨p, hp, of_decide_eq_true e⟩)⟩
  obtain ⟨p, hp, e⟩ := List.mem_map.mp m
  exact h p hp (decide_eq_true e)
theorem seesOf_nil (nm : Str) : seesOf [] nm = none := rfl
theorem seesOf_snoc {gs : List (Str × Bool)} {nm : Str} {b : Bool} (x : Str) (h : seesOf gs nm = none) : seesOf (gs ++ [(nm, b)]) x = if x = nm then some b else seesOf gs x := by
  unfold seesOf at *
  rw [List.find?_append]
  by_cases hx : x = nm
  · subst hx
    rw [Option.map_eq_none_iff] at h
    rw [h]
    simp
  · rw [if_neg hx]
    have : (List.find? (fun p => decide (p.1 = x)) [(nm, b)]) = none := by
      rw [List.find?_cons_of_neg (by simpa using fun z : nm = x => hx z.symm)]
      rfl
    rw [this, Option.or_none]
theorem seesOf_set {gs : List (Str × Bool)} {nm : Str} {b : Bool} (x : Str) : seesOf (setSees gs nm b) x = (seesOf gs x).map fun c => if x = nm then b else c := by
  induction gs with
  | nil => rfl
  | cons p gs ih =>
    unfold seesOf setSees at *
    rw [List.map_cons]
    by_cases h : p.1 = nm
    · rw [if_pos h]
      by_cases hx : p.1 = x
      · rw [List.find?_cons_of_pos (by simpa using hx), List.find?_cons_of_pos (by simpa using hx)]
        simp [← hx, h]
      · rw [List.find?_cons_of_neg (by simpa using hx), List.find?_cons_of_neg (by simpa using hx)]
        exact ih
    · rw [if_neg h]
      by_cases hx : p.1 = x
      · rw [List.find?_cons_of_pos (by simpa using hx), List.find?_cons_of_pos (by simpa using hx)]
        simp [← hx, h]
      · rw [List.find?_cons_of_neg (by simpa using hx), List.find?_cons_of_neg (by simpa using hx)]
        exact ih
theorem setSees_names (gs : List (Str × Bool)) (nm : Str) (b : Bool) : (setSees gs nm b).map (·.1) = gs.map (·.1) := by
  unfold setSees
  rw [List.map_map]
  apply List.map_congr_left
  intro p _
  by_cases h : p.1 = nm <;> simp [h]
theorem setSees_len (gs : List (Str × Bool)) (nm : Str) (b : Bool) : (setSees gs nm b).length = gs.length := by simp [setSees]
/-! ### a net in the heap -/
def roadVs (r : RoadD) : List V := [.str r.one, .str r.other, .int r.mi, .int r.tl, .bl r.op]
def RoadV (H : Hp) (v : V) (r : RoadD) : Prop := ∃ t, v = .ref t ∧ H t = some (.tup (roadVs r))
theorem gr_ : ¬ (("_gates" : Str) = "_roads") := by decide +kernel
def netF (g r : Addr) : List (Str × V) := putF "_roads" (.ref r) (putF "_gates" (.ref g) [])
theorem netF_eq (g r : Addr) : netF g r = ([("_gates", V.ref g), ("_roads", V.ref r)] : List (Str × V)) := by
  show (if ("_gates" : Str) = "_roads" then [(("_gates" : Str), V.ref r)] else (("_gates" : Str), V.ref g) :: putF "_roads" (V.ref r) []) = _
  rw [if_neg gr_]
  all_goals rfl
theorem netF_gates (g r : Addr) : (netF g r).lookup ("_gates" : Str) = some (.ref g) := by
  unfold netF
  rw [lookup_putF, if_neg gr_, lookup_putF, if_pos rfl]
theorem netF_roads (g r : Addr) : (netF g r).lookup ("_roads" : Str) = some (.ref r) := by
  unfold netF
  rw [lookup_putF, if_pos rfl]
theorem netF_no (g r : Addr) {m : Str} (h1 : ¬ m = "_roads") (h2 : ¬ m = "_gates") : (netF g r).lookup m = none := by
  unfold netF
  rw [lookup_putF, if_neg h1, lookup_putF, if_neg h2]
  all_goals rfl
structure NetAt (C : Addr) (H : Hp) (p g r : Addr) (N : NetD) : Prop where
  ob : ∃ dx, H p = some (.ins C dx (netF g r))
  gt : H g = some (.dK (gatesK N.gates))
  rt : ∃ us, H r = some (.lst us) ∧ Paired (RoadV H) us N.roads
  nd : (N.gates.map (·.1)).Nodup
  l1 : N.gates.length ≤ 60
  l2 : N.roads.length ≤ 200
/-- all but what stands in S is as it was -/
def Keep (S : List Addr) (H H' : Hp) : Prop := ∀ b o, H b = some o → b ∉ S → H' b = some o
theorem Keep.of_same {S : List Addr} {H H' : Hp} (s : Same H H') : Keep S H H' := fun b o e _ => s b o e
theorem Keep.trans {S : List Addr} {H H1 H2 : Hp} (a : Keep S H H1) (b : Keep S H1 H2) : Keep S H H2 := fun c o e n => b c o (a c o e n) n
theorem Keep.mono {S T : List Addr} {H H' : Hp} (a : Keep S H H') (h : ∀ x ∈ S, x ∈ T) : Keep T H H' := fun b o e n => a b o e fun m => n (h b m)
theorem Keep.upd {S : List Addr} {H H' : Hp} {p : Addr} {o : HO} (a : Keep S H H') (h : p ∈ S ∨ H p = none) : Keep S H (upd H' p o) := fun b u e n => by
  by_cases hb : b = p
  · subst hb
    rcases h with h | h
    · exact absurd h n
    · rw [h] at e
      cases e
  · rw [upd_ne hb]
    exact a b u e n
theorem roads_keep {S : List Addr} {H H' : Hp} {us : List V} {rs : List RoadD} (k : Keep S H H') (hS : ∀ a ∈ S, ∀ xs, H a ≠ some (.tup xs)) (h : Paired (RoadV H) us rs) : Paired (RoadV H') us rs :=
  L2.Paired.mapP h fun _ _ ⟨t, e, ht⟩ => ⟨t, e, k t _ ht fun m => hS t m _ ht⟩
theorem NetAt.same {C : Addr} {H H' : Hp} {p g r : Addr} {N : NetD} (n : NetAt C H p g r N) (s : Same H H') : NetAt C H' p g r N := by
  obtain ⟨⟨dx, ob⟩, gt, ⟨us, rt, pr⟩, nd, l1, l2⟩ := n
  exact ⟨⟨dx, s _ _ ob⟩, s _ _ gt, ⟨us, s _ _ rt, L2.Paired.mapP pr fun _ _ ⟨t, e, ht⟩ => ⟨t, e, s _ _ ht⟩⟩, nd, l1, l2⟩
/-- a net stands while what is changed is none of its own -/
theorem NetAt.keep {C : Addr} {S : List Addr} {H H' : Hp} {p g r : Addr} {N : NetD} (n : NetAt C H p g r N) (k : Keep S H H') (hp : p ∉ S) (hg : g ∉ S) (hr : r ∉ S) (hS : ∀ a ∈ S, ∀ xs, H a ≠ some (.tup xs)) : NetAt C H' p g r N := by
  obtain ⟨⟨dx, ob⟩, gt, ⟨us, rt, pr⟩, nd, l1, l2⟩ := n
  exact ⟨⟨dx, k _ _ ob hp⟩, k _ _ gt hg, ⟨us, k _ _ rt hr, roads_keep k hS pr⟩, nd, l1, l2⟩
theorem NetAt.pg {C : Addr} {H : Hp} {p g r : Addr} {N : NetD} (n : NetAt C H p g r N) : p ≠ g := by
  obtain ⟨⟨dx, ob⟩, gt, _⟩ := n
  exact ne_of ob gt (by intro z; cases z)
theorem NetAt.pr {C : Addr} {H : Hp} {p g r : Addr} {N : NetD} (n : NetAt C H p g r N) : p ≠ r := by
  obtain ⟨⟨dx, ob⟩, gt, ⟨us, rt, _⟩, _⟩ := n
  exact ne_of ob rt (by intro z; cases z)
theorem NetAt.gr {C : Addr} {H : Hp} {p g r : Addr} {N : NetD} (n : NetAt C H p g r N) : g ≠ r := by
  obtain ⟨_, gt, ⟨us, rt, _⟩, _⟩ := n
  exact ne_of gt rt (by intro z; cases z)
/-- a message's text fits -/
theorem repr_sz {x : Str} (h : x.length ≤ 1000) (ho : PyData.strOk x = true) : (reprText x).length ≤ 20000 := by
  have := PySem.StrLaws.reprText_len x fun c hc => by
    have h1 := Array.all_eq_true.mp ho
    obtain ⟨i, hi, e⟩ := Array.getElem_of_mem (Array.mem_toList_iff.mp hc)
    have := of_decide_eq_true (h1 i hi)
    rw [e] at this
    exact Nat.lt_trans this (by decide)
  omega
theorem str_len (x y : Str) : (x ++ y).length = x.length + y.length := by
  show (x.cps ++ y.cps).size = _
  rw [Array.size_append]
  rfl
theorem cat_sz {x y : Str} (hx : x.length ≤ 1000) (hy : y.length ≤ 50000) : (x ++ y).length ≤ sizeLine := Evl.sz_of (by rw [str_len]; omega)
theorem cat_sz2 {x y : Str} {n m : Nat} (hx : x.length ≤ n) (hy : y.length ≤ m) (h : n + m ≤ 100000) : (x ++ y).length ≤ sizeLine := Evl.sz_of (by rw [str_len]; omega)
theorem repr_ok {x : Str} (h : x.length ≤ 1000) (ho : PyData.strOk x = true) : (reprText x).length ≤ sizeLine := Evl.sz_of (by have := repr_sz h ho; omega)
theorem sz3 {x y z : Str} (hx : x.length ≤ 1000) (hy : y.length ≤ 50000) (hz : z.length ≤ 1000) : (x ++ y ++ z).length ≤ sizeLine := Evl.sz_of (by rw [str_len, str_len]; omega)
theorem NetAt.setGates {C : Addr} {H : Hp} {p g r : Addr} {N : NetD} (n : NetAt C H p g r N) {gs : List (Str × Bool)} (hd : (gs.map (·.1)).Nodup) (hl : gs.length ≤ 60) :
    NetAt C (upd H g (.dK (gatesK gs))) p g r { N with gates := gs } := by
  have h1 := n.pg
  have h2 := n.gr
  obtain ⟨⟨dx, ob⟩, gt, ⟨us, rt, pr⟩, nd, l1, l2⟩ := n
  exact ⟨⟨dx, by rw [upd_ne h1]; exact ob⟩, upd_same, ⟨us, by rw [upd_ne h2.symm]; exact rt, L2.Paired.mapP pr fun _ _ ⟨t, e, ht⟩ => ⟨t, e, by rw [upd_ne (ne_of ht gt (by intro z; cases z))]; exact ht⟩⟩, hd, hl, l2⟩
theorem NetAt.setRoads {C : Addr} {H : Hp} {p g r : Addr} {N : NetD} (n : NetAt C H p g r N) {us : List V} {rs : List RoadD} (pr : Paired (RoadV H) us rs) (hl : rs.length ≤ 200) :
    NetAt C (upd H r (.lst us)) p g r { N with roads := rs } := by
  have h1 := n.pr
  have h2 := n.gr
  obtain ⟨⟨dx, ob⟩, gt, ⟨us', rt, _⟩, nd, l1, l2⟩ := n
  exact ⟨⟨dx, by rw [upd_ne h1]; exact ob⟩, by rw [upd_ne h2]; exact gt, ⟨us, upd_same, L2.Paired.mapP pr fun _ _ ⟨t, e, ht⟩ => ⟨t, e, by rw [upd_ne (ne_of ht rt (by intro z; cases z))]; exact ht⟩⟩, nd, l1, hl⟩
theorem keep1 {H : Hp} {p : Addr} {o : HO} : Keep [p] H (upd H p o) := (Keep.of_same (Same.refl H)).upd (.inl (by simp))
theorem paired_set {α β : Type} {F : α → β → Prop} {x : α} {y : β} (r : F x y) : ∀ {l : List α} {m : List β} (i : Nat), Paired F l m → Paired F (l.set i x) (m.set i y)
  | _, _, _, .nil => .nil
  | _, _, 0, .cons _ t => .cons r t
  | _, _, i + 1, .cons q t => .cons q (paired_set r i t)
theorem roads_same {H H' : Hp} {us : List V} {rs : List RoadD} (s : Same H H') (h : Paired (RoadV H) us rs) : Paired (RoadV H') us rs := L2.Paired.mapP h fun _ _ ⟨t, e, ht⟩ => ⟨t, e, s _ _ ht⟩
def GateV (H : Hp) (v : V) (q : Str × Bool) : Prop := ∃ t, v = .ref t ∧ H t = some (.tup [.str q.1, .bl q.2])
theorem gatesV_same {H H' : Hp} {us : List V} {gs : List (Str × Bool)} (s : Same H H') (h : Paired (GateV H) us gs) : Paired (GateV H') us gs := L2.Paired.mapP h fun _ _ ⟨t, e, ht⟩ => ⟨t, e, s _ _ ht⟩
/-- the numbers of the open roads from a gate -/
def leavingF (rs : List RoadD) (nm : Str) : Nat → List Int
  | 0 => []
  | i + 1 => leavingF rs nm i ++ (match rs[i]? with
    | some r => if r.one = nm ∧ r.op = true then [(i : Int)] else []
    | none => [])
theorem leavingF_len (rs : List RoadD) (nm : Str) : ∀ i, (leavingF rs nm i).length ≤ i
  | 0 => Nat.le_refl _
  | i + 1 => by
    have := leavingF_len rs nm i
    unfold leavingF
    rw [List.length_append]
    split
    · split <;> simp <;> omega
    · simp; omega
theorem gates_paired {H : Hp} : ∀ {ts : List Addr} {gs : List (Str × Bool)}, Paired (fun (t : Addr) (q : Key × V) => H t = some (.tup [kV q.1, q.2])) ts (gatesK gs) → Paired (GateV H) (ts.map V.ref) gs
  | _, [], .nil => .nil
  | _, q :: gs, .cons h r => .cons ⟨_, rfl, h⟩ (gates_paired (gs := gs) r)
end Toll

set_option Elab.async false
set_option maxRecDepth 100000
set_option maxHeartbeats 4000000
namespace Toll
open PySem L2
/-! ### deeds, and what they come to -/
inductive Deed where
  | gate (nm : Str) (b : Bool)
  | road (one other : Str) (mi tl : Int)
  | turn (b : Bool) (nm : Str)
  | lane (b : Bool) (n : Int)
def deedVs : Deed → List V
  | .gate nm b => [.str "gate", .str nm, .bl b]
  | .road one other mi tl => [.str "road", .str one, .str other, .int mi, .int tl]
  | .turn false nm => [.str "blind", .str nm]
  | .turn true nm => [.str "mend", .str nm]
  | .lane false n => [.str "close", .int n]
  | .lane true n => [.str "reopen", .int n]
def NameOk (nm : Str) : Prop := nm.length ≤ 8 ∧ PyData.strOk nm = true ∧ isName nm.cps.toList = true
def Deed.ok : Deed → Prop
  | .gate nm _ => NameOk nm
  | .road one other _ _ => NameOk one ∧ NameOk other
  | .turn _ nm => NameOk nm
  | .lane _ _ => True
theorem nameOk_of {b t : Int} (h0 : 0 ≤ t) (h1 : t ≤ 999) : NameOk (nameOf b t) := ⟨nameOf_len h0 h1, nameOf_ok b t, isName_nameOf h0 h1⟩
def DeedV (H : Hp) (v : V) (d : Deed) : Prop := ∃ t, v = .ref t ∧ H t = some (.tup (deedVs d))
theorem DeedV.same {H H' : Hp} {v : V} {d : Deed} (s : Same H H') (h : DeedV H v d) : DeedV H' v d := by
  obtain ⟨t, e, h⟩ := h
  exact ⟨t, e, s _ _ h⟩
def refusal (N : NetD) : Deed → Option Str
  | .gate nm _ => if seesOf N.gates nm ≠ none then some "SameGate" else if 59 < N.gates.length then some "FullNet" else none
  | .road one other mi tl =>
    if seesOf N.gates one = none ∨ seesOf N.gates other = none then some "NoGate"
    else if one = other then some "SameGate"
    else if ¬ (0 < mi ∧ mi < 1000001) ∨ ¬ (0 ≤ tl ∧ tl < 1000001) then some "NoNumber"
    else if 199 < N.roads.length then some "FullNet" else none
  | .turn b nm => match seesOf N.gates nm with
    | none => some "NoGate"
    | some c => if c = b then some "Already" else none
  | .lane b n => if 0 ≤ n ∧ n < (N.roads.length : Int) then
      match N.roads[n.toNat]? with
      | none => some "NoRoad"
      | some r => if r.op = b then some "Already" else none
    else some "NoRoad"
def done (N : NetD) : Deed → NetD
  | .gate nm b => { N with gates := N.gates ++ [(nm, b)] }
  | .road one other mi tl => { N with roads := N.roads ++ [⟨one, other, mi, tl, true⟩] }
  | .turn b nm => { N with gates := setSees N.gates nm b }
  | .lane b n => match N.roads[n.toNat]? with
    | none => N
    | some r => { N with roads := N.roads.set n.toNat { r with op := b } }
def doneV (N : NetD) : Deed → V
  | .road _ _ _ _ => .int (N.roads.length : Int)
  | _ => .non
theorem refusal_turn (N : NetD) (b : Bool) (nm : Str) : refusal N (.turn b nm) = (match seesOf N.gates nm with
    | none => some ("NoGate" : Str)
    | some c => if c = b then some ("Already" : Str) else none) := rfl
theorem refusal_turn0 {N : NetD} {b : Bool} {nm : Str} (h : seesOf N.gates nm = none) : refusal N (.turn b nm) = some ("NoGate" : Str) := by
  rw [refusal_turn, h]
theorem refusal_turn1 {N : NetD} {b : Bool} {nm : Str} (h : seesOf N.gates nm = some b) : refusal N (.turn b nm) = some ("Already" : Str) := by
  rw [refusal_turn, h]
  exact if_pos rfl
theorem refusal_turn2 {N : NetD} {b : Bool} {nm : Str} (h : seesOf N.gates nm = some (!b)) : refusal N (.turn b nm) = none := by
  rw [refusal_turn, h]
  exact if_neg (by cases b <;> simp)
theorem refusal_lane (N : NetD) (b : Bool) (n : Int) : refusal N (.lane b n) = (if 0 ≤ n ∧ n < (N.roads.length : Int) then
      match N.roads[n.toNat]? with
      | none => some ("NoRoad" : Str)
      | some r => if r.op = b then some ("Already" : Str) else none
    else some ("NoRoad" : Str)) := rfl
theorem refusal_lane0 {N : NetD} {b : Bool} {n : Int} (h : ¬ (0 ≤ n ∧ n < (N.roads.length : Int))) : refusal N (.lane b n) = some ("NoRoad" : Str) := by
  rw [refusal_lane, if_neg h]
theorem lane_in {N : NetD} {n : Int} {r : RoadD} (h0 : 0 ≤ n) (h : N.roads[n.toNat]? = some r) : 0 ≤ n ∧ n < (N.roads.length : Int) := ⟨h0, by have := (List.getElem?_eq_some_iff.mp h).1; omega⟩
theorem refusal_lane1 {N : NetD} {b : Bool} {n : Int} {r : RoadD} (h0 : 0 ≤ n) (h : N.roads[n.toNat]? = some r) (e : r.op = b) : refusal N (.lane b n) = some ("Already" : Str) := by
  rw [refusal_lane, if_pos (lane_in h0 h), h]
  exact if_pos e
theorem refusal_lane2 {N : NetD} {b : Bool} {n : Int} {r : RoadD} (h0 : 0 ≤ n) (h : N.roads[n.toNat]? = some r) (e : r.op = !b) : refusal N (.lane b n) = none := by
  rw [refusal_lane, if_pos (lane_in h0 h), h]
  exact if_neg (by rw [e]; cases b <;> simp)
theorem done_lane {N : NetD} {b : Bool} {n : Int} {r : RoadD} (h : N.roads[n.toNat]? = some r) : done N (.lane b n) = { N with roads := N.roads.set n.toNat { r with op := b } } := by
  show (match N.roads[n.toNat]? with | none => N | some r => { N with roads := N.roads.set n.toNat { r with op := b } }) = _
  rw [h]
/-! ### the law's own account -/
structure OwnAt (H : Hp) (o og orr : Addr) (gts rts : List Addr) (N : NetD) : Prop where
  ho : H o = some (.lst [.ref og, .ref orr])
  hg : H og = some (.lst (gts.map V.ref))
  hr : H orr = some (.lst (rts.map V.ref))
  pg : Paired (fun (t : Addr) (q : Str × Bool) => H t = some (.lst [.str q.1, .bl q.2])) gts N.gates
  pr : Paired (fun (t : Addr) (r : RoadD) => H t = some (.lst (roadVs r))) rts N.roads
  nd : (o :: og :: orr :: (gts ++ rts)).Nodup
theorem paired_mem {α β : Type} {F G : α → β → Prop} : ∀ {l : List α} {m : List β}, Paired F l m → (∀ a ∈ l, ∀ b, F a b → G a b) → Paired G l m
  | _, _, .nil, _ => .nil
  | _, _, .cons r t, h => .cons (h _ (List.mem_cons_self ..) _ r) (paired_mem t fun a ha => h a (List.mem_cons_of_mem _ ha))
theorem OwnAt.keep {S : List Addr} {H H' : Hp} {o og orr : Addr} {gts rts : List Addr} {N : NetD} (a : OwnAt H o og orr gts rts N) (k : Keep S H H') (hS : ∀ x ∈ S, x ∉ o :: og :: orr :: (gts ++ rts)) : OwnAt H' o og orr gts rts N := by
  have q : ∀ x ∈ o :: og :: orr :: (gts ++ rts), ∀ u, H x = some u → H' x = some u := fun x hx u e => k x u e fun m => hS x m hx
  obtain ⟨ho, hg, hr, pg, pr, nd⟩ := a
  exact ⟨q _ (by simp) _ ho, q _ (by simp) _ hg, q _ (by simp) _ hr, paired_mem pg fun t ht _ e => q t (by simp [ht]) _ e, paired_mem pr fun t ht _ e => q t (by simp [ht]) _ e, nd⟩
theorem OwnAt.same {H H' : Hp} {o og orr : Addr} {gts rts : List Addr} {N : NetD} (a : OwnAt H o og orr gts rts N) (s : Same H H') : OwnAt H' o og orr gts rts N :=
  a.keep (S := []) (Keep.of_same s) fun x hx => by cases hx
/-! ### the list of the names -/
def namesV (gs : List (Str × Bool)) : List V := gs.map fun q => V.str q.1
theorem namesV_flat (gs : List (Str × Bool)) : (namesV gs).all flatV = true := by
  rw [List.all_eq_true]
  intro x hx
  obtain ⟨q, _, rfl⟩ := List.mem_map.mp hx
  rfl
theorem eqV_str (a b : Str) : eqV (V.str a) (V.str b) = decide (a = b) := by
  show (a == b) = _
  rfl
theorem inV_names (nm : Str) (gs : List (Str × Bool)) : inV (V.str nm) (namesV gs) = (seesOf gs nm).isSome := by
  induction gs with
  | nil => rfl
  | cons q gs ih =>
    unfold inV namesV seesOf at *
    rw [List.map_cons, List.any_cons, eqV_str, ih]
    by_cases h : q.1 = nm
    · rw [decide_eq_true h, List.find?_cons_of_pos (by simpa using h)]
      rfl
    · rw [decide_eq_false h, List.find?_cons_of_neg (by simpa using h)]
      rfl
theorem seesOf_at {gs : List (Str × Bool)} {nm : Str} {c : Bool} (h : seesOf gs nm = some c) : ∃ j : Nat, gs[j]? = some (nm, c) ∧ ∀ (m : Nat) (q : Str × Bool), m < j → gs[m]? = some q → q.1 ≠ nm := by
  induction gs with
  | nil => cases h
  | cons q gs ih =>
    by_cases e : q.1 = nm
    · refine ⟨0, ?_, fun m q hm => by omega⟩
      unfold seesOf at h
      rw [List.find?_cons_of_pos (by simpa using e)] at h
      have h2 : q.2 = c := by simpa using h
      rw [← e, ← h2]
      rfl
    · have h2 : seesOf gs nm = some c := by
        unfold seesOf at h ⊢
        rw [List.find?_cons_of_neg (by simpa using e)] at h
        exact h
      obtain ⟨j, hj, hn⟩ := ih h2
      refine ⟨j + 1, by simpa using hj, fun m q' hm hq => ?_⟩
      cases m with
      | zero =>
        have : q = q' := by simpa using hq
        subst this
        exact e
      | succ m => exact hn m q' (by omega) (by simpa using hq)
theorem rep_one (v : V) (b : Bool) : (List.replicate (if b = true then (1 : Int) else 0).toNat [v]).flatten = if b = true then [v] else [] := by
  cases b <;> rfl
def refV : Option Str → List V
  | none => []
  | some c => [.str c]
/-! ### the account changes -/
theorem OwnAt.addGate {H : Hp} {o og orr t : Addr} {gts rts : List Addr} {N : NetD} (a : OwnAt H o og orr gts rts N) {nm : Str} {b : Bool} (ht : H t = some (.lst [.str nm, .bl b])) (hn : t ∉ o :: og :: orr :: (gts ++ rts)) :
    OwnAt (upd H og (.lst (gts.map V.ref ++ [.ref t]))) o og orr (gts ++ [t]) rts { N with gates := N.gates ++ [(nm, b)] } := by
  obtain ⟨ho, hg, hr, pg, pr, nd⟩ := a
  have nd' := nd
  simp only [List.nodup_cons, List.mem_cons, List.mem_append, not_or] at nd hn
  have e : ∀ x, x ≠ og → ∀ u, H x = some u → (upd H og (.lst (gts.map V.ref ++ [.ref t]))) x = some u := fun x hx u h => by rw [upd_ne hx]; exact h
  refine ⟨e o nd.1.1 _ ho, by rw [upd_same]; simp, e orr (fun z => nd.2.1.1 z.symm) _ hr, Paired.snoc (paired_mem pg fun x hx _ h => e x (fun z => nd.2.1.2.1 (z ▸ hx)) _ h) (e t hn.2.1 _ ht), paired_mem pr fun x hx _ h => e x (fun z => nd.2.1.2.2 (z ▸ hx)) _ h, ?_⟩
  have p : (o :: og :: orr :: (gts ++ [t] ++ rts)).Perm (t :: o :: og :: orr :: (gts ++ rts)) := by
    have h1 : (gts ++ [t] ++ rts).Perm (t :: (gts ++ rts)) := by
      rw [List.append_assoc]
      exact List.perm_middle
    exact ((h1.cons orr).cons og |>.cons o).trans (((List.Perm.swap t orr _).cons og |>.cons o).trans (((List.Perm.swap t og _).cons o).trans (List.Perm.swap t o _)))
  refine p.nodup_iff.mpr (List.nodup_cons.mpr ⟨?_, nd'⟩)
  simp only [List.mem_cons, List.mem_append, not_or]
  exact hn
theorem OwnAt.addRoad {H : Hp} {o og orr t : Addr} {gts rts : List Addr} {N : NetD} (a : OwnAt H o og orr gts rts N) {r : RoadD} (ht : H t = some (.lst (roadVs r))) (hn : t ∉ o :: og :: orr :: (gts ++ rts)) :
    OwnAt (upd H orr (.lst (rts.map V.ref ++ [.ref t]))) o og orr gts (rts ++ [t]) { N with roads := N.roads ++ [r] } := by
  obtain ⟨ho, hg, hr, pg, pr, nd⟩ := a
  have nd' := nd
  simp only [List.nodup_cons, List.mem_cons, List.mem_append, not_or] at nd hn
  have e : ∀ x, x ≠ orr → ∀ u, H x = some u → (upd H orr (.lst (rts.map V.ref ++ [.ref t]))) x = some u := fun x hx u h => by rw [upd_ne hx]; exact h
  refine ⟨e o nd.1.2.1 _ ho, e og nd.2.1.1 _ hg, by rw [upd_same]; simp, paired_mem pg fun x hx _ h => e x (fun z => nd.2.2.1.1 (z ▸ hx)) _ h, Paired.snoc (paired_mem pr fun x hx _ h => e x (fun z => nd.2.2.1.2 (z ▸ hx)) _ h) (e t hn.2.2.1 _ ht), ?_⟩
  have p : (o :: og :: orr :: (gts ++ (rts ++ [t]))).Perm (t :: o :: og :: orr :: (gts ++ rts)) := by
    have h1 : (gts ++ (rts ++ [t])).Perm (t :: (gts ++ rts)) := by
      rw [← List.append_assoc]
      exact List.perm_append_singleton t (gts ++ rts)
    exact ((h1.cons orr).cons og |>.cons o).trans (((List.Perm.swap t orr _).cons og |>.cons o).trans (((List.Perm.swap t og _).cons o).trans (List.Perm.swap t o _)))
  refine p.nodup_iff.mpr (List.nodup_cons.mpr ⟨?_, nd'⟩)
  simp only [List.mem_cons, List.mem_append, not_or]
  exact hn
theorem paired_upd {α : Type} {H : Hp} {g : α → List V} {c : Addr} {y : α} : ∀ {l : List Addr} {m : List α} {j : Nat}, Paired (fun (t : Addr) (q : α) => H t = some (.lst (g q))) l m → l.Nodup → l[j]? = some c → Paired (fun (t : Addr) (q : α) => (upd H c (.lst (g y))) t = some (.lst (g q))) l (m.set j y)
  | _, _, _, .nil, _, e => by simp at e
  | a :: l, x :: m, 0, .cons r t, nd, e => by
    have e : a = c := by simpa using e
    subst e
    exact .cons upd_same (paired_mem t fun b hb q h => by rw [upd_ne (show b ≠ a from fun z => (List.nodup_cons.mp nd).1 (by rw [← z]; exact hb))]; exact h)
  | a :: l, x :: m, j + 1, .cons r t, nd, e => by
    have e2 : l[j]? = some c := by simpa using e
    have hc : c ∈ l := List.mem_of_getElem? e2
    exact .cons (by rw [upd_ne (show a ≠ c from fun z => (List.nodup_cons.mp nd).1 (by rw [z]; exact hc))]; exact r) (paired_upd t (List.nodup_cons.mp nd).2 e2)
theorem OwnAt.setGate {H : Hp} {o og orr t : Addr} {gts rts : List Addr} {N : NetD} (a : OwnAt H o og orr gts rts N) {j : Nat} {nm : Str} {b : Bool} (hj : gts[j]? = some t) :
    OwnAt (upd H t (.lst [.str nm, .bl b])) o og orr gts rts { N with gates := N.gates.set j (nm, b) } := by
  obtain ⟨ho, hg, hr, pg, pr, nd⟩ := a
  have nd' := nd
  have hm := List.mem_of_getElem? hj
  simp only [List.nodup_cons, List.mem_cons, List.mem_append, not_or] at nd
  have nda := List.nodup_append.mp nd.2.2.2
  have e : ∀ x, x ≠ t → ∀ u, H x = some u → (upd H t (.lst [.str nm, .bl b])) x = some u := fun x hx u h => by rw [upd_ne hx]; exact h
  refine ⟨e o (fun z => nd.1.2.2.1 (z ▸ hm)) _ ho, e og (fun z => nd.2.1.2.1 (z ▸ hm)) _ hg, e orr (fun z => nd.2.2.1.1 (z ▸ hm)) _ hr, ?_, paired_mem pr fun x hx _ h => e x (fun z => nda.2.2 t hm x hx z.symm) _ h, nd'⟩
  exact paired_upd (g := fun q : Str × Bool => [V.str q.1, V.bl q.2]) (y := (nm, b)) pg nda.1 hj
theorem OwnAt.setRoad {H : Hp} {o og orr t : Addr} {gts rts : List Addr} {N : NetD} (a : OwnAt H o og orr gts rts N) {j : Nat} {r : RoadD} (hj : rts[j]? = some t) :
    OwnAt (upd H t (.lst (roadVs r))) o og orr gts rts { N with roads := N.roads.set j r } := by
  obtain ⟨ho, hg, hr, pg, pr, nd⟩ := a
  have nd' := nd
  have hm := List.mem_of_getElem? hj
  simp only [List.nodup_cons, List.mem_cons, List.mem_append, not_or] at nd
  have nda := List.nodup_append.mp nd.2.2.2
  have e : ∀ x, x ≠ t → ∀ u, H x = some u → (upd H t (.lst (roadVs r))) x = some u := fun x hx u h => by rw [upd_ne hx]; exact h
  refine ⟨e o (fun z => nd.1.2.2.2 (z ▸ hm)) _ ho, e og (fun z => nd.2.1.2.2 (z ▸ hm)) _ hg, e orr (fun z => nd.2.2.1.2 (z ▸ hm)) _ hr, paired_mem pg fun x hx _ h => e x (fun z => nda.2.2 x hx t hm z) _ h, ?_, nd'⟩
  exact paired_upd (g := roadVs) (y := r) pr nda.2.1 hj
theorem setSees_at {nm : Str} {b c : Bool} : ∀ {gs : List (Str × Bool)} {j : Nat}, (gs.map (·.1)).Nodup → gs[j]? = some (nm, c) → setSees gs nm b = gs.set j (nm, b)
  | [], _, _, h => by simp at h
  | q :: gs, 0, nd, h => by
    have h : q = (nm, c) := by simpa using h
    subst h
    have hn := (List.nodup_cons.mp nd).1
    unfold setSees
    rw [List.map_cons, if_pos rfl, List.set_cons_zero]
    congr 1
    conv => rhs; rw [← List.map_id gs]
    apply List.map_congr_left
    intro p hp
    rw [if_neg]
    · rfl
    · intro z
      exact hn (List.mem_map.mpr ⟨p, hp, z⟩)
  | q :: gs, j + 1, nd, h => by
    have h2 : gs[j]? = some (nm, c) := by simpa using h
    have ih := setSees_at (gs := gs) (j := j) (nm := nm) (b := b) (c := c) (List.nodup_cons.mp nd).2 h2
    have hq : q.1 ≠ nm := by
      intro z
      refine (List.nodup_cons.mp nd).1 (List.mem_map.mpr ⟨(nm, c), List.mem_of_getElem? h2, z.symm⟩)
    unfold setSees at *
    rw [List.map_cons, if_neg hq, List.set_cons_succ, ih]
theorem paired_some {α : Type} {H : Hp} {g : α → List V} {x : Addr} : ∀ {l : List Addr} {m : List α}, Paired (fun (t : Addr) (q : α) => H t = some (.lst (g q))) l m → x ∈ l → ∃ xs, H x = some (.lst xs)
  | _, _, .nil, h => by cases h
  | _, _, .cons r t, h => by
    rcases List.mem_cons.mp h with e | e
    · exact ⟨_, by rw [e]; exact r⟩
    · exact paired_some t e
theorem OwnAt.lists {H : Hp} {o og orr : Addr} {gts rts : List Addr} {N : NetD} (a : OwnAt H o og orr gts rts N) : ∀ x ∈ o :: og :: orr :: (gts ++ rts), ∃ xs, H x = some (.lst xs) := by
  intro x hx
  obtain ⟨ho, hg, hr, pg, pr, nd⟩ := a
  simp only [List.mem_cons, List.mem_append] at hx
  rcases hx with e | e | e | e | e
  · exact ⟨_, by rw [e]; exact ho⟩
  · exact ⟨_, by rw [e]; exact hg⟩
  · exact ⟨_, by rw [e]; exact hr⟩
  · exact paired_some (g := fun q : Str × Bool => [V.str q.1, V.bl q.2]) pg e
  · exact paired_some (g := roadVs) pr e
theorem OwnAt.fresh {H : Hp} {o og orr p : Addr} {gts rts : List Addr} {N : NetD} (a : OwnAt H o og orr gts rts N) (hp : H p = none) : p ∉ o :: og :: orr :: (gts ++ rts) := fun m => by
  obtain ⟨xs, e⟩ := a.lists p m
  rw [hp] at e
  cases e
end Toll

set_option Elab.async false
set_option maxRecDepth 100000
set_option maxHeartbeats 4000000
namespace Toll
open PySem L2
/-! ### lists told ahead, and their copies -/
def flatD : V → Option PyData
  | .int i => some (.int i)
  | .bl b => some (.bool b)
  | .str x => if PyData.strOk x = true then some (.str x) else none
  | _ => none
theorem flatD_str (x : Str) : flatD (.str x) = if PyData.strOk x = true then some (.str x) else none := rfl
/-- an item of a told list: an int, or a tuple of flat values -/
def ItemV (H : Hp) (v : V) (d : PyData) : Prop := (∃ i, v = .int i ∧ d = .int i) ∨ ∃ t xs ds, v = .ref t ∧ H t = some (.tup xs) ∧ Paired (fun x e => flatD x = some e) xs ds ∧ d = .tuple ds
theorem flatD_ok {v : V} {d : PyData} (h : flatD v = some d) : okD 0 d := by
  cases v with
  | int i => injection h with h; subst h; exact okD_int i
  | bl b => injection h with h; subst h; exact okD_bool b
  | str x =>
    by_cases hx : PyData.strOk x = true
    · rw [flatD_str, if_pos hx] at h
      injection h with h
      subst h
      exact okD_str hx
    · rw [flatD_str, if_neg hx] at h
      cases h
  | non => cases h
  | byt b => cases h
  | flt b => cases h
  | ref a => cases h
  | ty n => cases h
theorem flatD_dp {K : PySem.W.Frag} {H : Hp} {v : V} {d : PyData} (h : flatD v = some d) : Dp K H v d := by
  cases v with
  | int i => injection h with h; subst h; exact .int i
  | bl b => injection h with h; subst h; exact .bl b
  | str x =>
    rw [flatD_str] at h
    by_cases hx : PyData.strOk x = true
    · rw [if_pos hx] at h
      injection h with h
      subst h
      exact .str x
    · rw [if_neg hx] at h
      cases h
  | non => cases h
  | byt b => cases h
  | flt b => cases h
  | ref a => cases h
  | ty n => cases h
theorem flats_dp {K : PySem.W.Frag} {H : Hp} : ∀ {xs : List V} {ds : List PyData}, Paired (fun x e => flatD x = some e) xs ds → DpAll K H xs ds
  | _, _, .nil => .nil
  | _, _, .cons r t => .cons (flatD_dp r) (flats_dp t)
theorem flats_ok : ∀ {xs : List V} {ds : List PyData}, Paired (fun x e => flatD x = some e) xs ds → ∀ d ∈ ds, okD 0 d
  | _, _, .cons r t, d, h => by
    rcases List.mem_cons.mp h with e | e
    · rw [e]; exact flatD_ok r
    · exact flats_ok t d e
theorem ItemV.ok {H : Hp} {v : V} {d : PyData} (h : ItemV H v d) : okD 1 d := by
  rcases h with ⟨i, _, rfl⟩ | ⟨t, xs, ds, _, _, p, rfl⟩
  · exact ⟨(okD_int i).1, by have := (okD_int i).2; omega⟩
  · exact okD_tup (flats_ok p)
theorem ItemV.dp {K : PySem.W.Frag} {H : Hp} {v : V} {d : PyData} (h : ItemV H v d) : Dp K H v d := by
  rcases h with ⟨i, rfl, rfl⟩ | ⟨t, xs, ds, rfl, e, p, rfl⟩
  · exact .int i
  · exact .tup (SqT.of e) (flats_dp p)
theorem items_dp {K : PySem.W.Frag} {H : Hp} : ∀ {vs : List V} {ds : List PyData}, Paired (ItemV H) vs ds → DpAll K H vs ds
  | _, _, .nil => .nil
  | _, _, .cons r t => .cons r.dp (items_dp t)
theorem items_ok {H : Hp} : ∀ {vs : List V} {ds : List PyData}, Paired (ItemV H) vs ds → ∀ d ∈ ds, okD 1 d
  | _, _, .cons r t, d, h => by
    rcases List.mem_cons.mp h with e | e
    · rw [e]; exact r.ok
    · exact items_ok t d e
theorem ItemV.keep {S : List Addr} {H H' : Hp} (k : Keep S H H') (hS : ∀ a ∈ S, ∀ xs, H a ≠ some (.tup xs)) {v : V} {d : PyData} (h : ItemV H v d) : ItemV H' v d := by
  rcases h with h | ⟨t, xs, ds, e1, e2, p, e3⟩
  · exact .inl h
  · exact .inr ⟨t, xs, ds, e1, k t _ e2 fun m => hS t m _ e2, p, e3⟩
/-- one pair: two lists of the same items -/
def PairV (H : Hp) (v : V) : Prop := ∃ (q a b : Addr) (vs : List V) (ds : List PyData), v = .ref q ∧ H q = some (.lst [.ref a, .ref b]) ∧ H a = some (.lst vs) ∧ H b = some (.lst vs) ∧ Paired (ItemV H) vs ds
theorem PairV.keep {S : List Addr} {H H' : Hp} (k : Keep S H H') (hS : ∀ a ∈ S, ∀ xs, H a ≠ some (.tup xs)) {v : V} (h : PairV H v) (hn : ∀ q a b, v = .ref q → H q = some (.lst [.ref a, .ref b]) → q ∉ S ∧ a ∉ S ∧ b ∉ S) : PairV H' v := by
  obtain ⟨q, a, b, vs, ds, rfl, hq, ha, hb, p⟩ := h
  obtain ⟨n1, n2, n3⟩ := hn q a b rfl hq
  exact ⟨q, a, b, vs, ds, rfl, k _ _ hq n1, k _ _ ha n2, k _ _ hb n3, L2.Paired.mapP p fun _ _ h => h.keep k hS⟩
end Toll

set_option Elab.async false
set_option linter.all false
set_option maxRecDepth 100000
set_option maxHeartbeats 4000000
namespace L2
open PySem PySem.Spec PyProof.Rows
/-! xs[::k], k a number from 1 on: some of the items -/
theorem step_count (n : Nat) (st : Int) (h : 1 ≤ st) : (sliceRange 0 (n : Int) st).length ≤ n := by
  unfold sliceRange
  rw [List.length_map, List.length_range, if_pos (by omega)]
  split
  · have : ((n : Int) - 0 + st - 1) / st ≤ (n : Int) := by
      refine Int.ediv_le_of_le_mul (by omega) ?_
      have h1 : (n : Int) * 1 ≤ (n : Int) * st := Int.mul_le_mul_of_nonneg_left h (by omega)
      by_cases hn : n = 0
      · subst hn; omega
      · have : (n : Int) * st = ((n : Int) - 1) * st + st := by rw [Int.sub_mul]; omega
        have h2 : ((n : Int) - 1) * 1 ≤ ((n : Int) - 1) * st := Int.mul_le_mul_of_nonneg_left h (by omega)
        omega
    omega
  · simp
def stepV (xs : List V) (st : Int) : List V := (sliceRange 0 (xs.length : Int) st).filterMap (xs[·]?)
theorem stepV_len (xs : List V) (st : Int) (h : 1 ≤ st) : (stepV xs st).length ≤ xs.length := Nat.le_trans (List.length_filterMap_le _ _) (step_count _ st h)
theorem stepV_mem (xs : List V) (st : Int) : ∀ y ∈ stepV xs st, y ∈ xs := by
  intro y hy
  obtain ⟨i, _, e⟩ := List.mem_filterMap.mp hy
  exact List.mem_of_getElem? e
theorem vals_pick {xs : List V} {us : List Value} (r : Vals xs us) : ∀ (is : List Nat), Vals (is.filterMap (xs[·]?)) (is.filterMap (us[·]?))
  | [] => .nil
  | i :: is => by
    have ih := vals_pick r is
    cases e : xs[i]? with
    | none =>
      have e2 : us[i]? = none := by
        rw [List.getElem?_eq_none_iff] at e ⊢
        rw [← r.length]
        exact e
      rw [List.filterMap_cons_none e, List.filterMap_cons_none e2]
      exact ih
    | some x =>
      obtain ⟨u, e2, rx⟩ : ∃ u, us[i]? = some u ∧ RelV x u := Toll.paired_getL r e
      rw [List.filterMap_cons_some e, List.filterMap_cons_some e2]
      exact .cons rx ih
def rTupOf (K : PySem.W.Frag) : List V → Hp → VK → Prop := fun xs H Q => ∃ p ys, xs = [.ref p] ∧ ((SqL K H p ys ∧ ∀ l, H l = none → Q (.ref l) (upd H l (.tup ys))) ∨ (SqT K H p ys ∧ Q (.ref p) H))
def rListOf (K : PySem.W.Frag) : List V → Hp → VK → Prop := fun xs H Q => ∃ p ys, xs = [.ref p] ∧ (SqL K H p ys ∨ SqT K H p ys) ∧ ∀ l, H l = none → Q (.ref l) (upd H l (.lst ys))
def tStepL (K : PySem.W.Frag) (te ts : TE) : TE := fun σ H Q => te σ H fun x H1 => ts σ H1 fun y H2 => ∃ a xs st, x = .ref a ∧ y = .int st ∧ 1 ≤ st ∧ SqL K H2 a xs ∧ ∀ p, H2 p = none → Q (.ref p) (upd H2 p (.lst (stepV xs st)))
section
variable {X : Cx}
theorem pe_stepL {e es : Expr} {te ts : TE} {p3 pos : Pos} (he : PE X e te) (hs : PE X es ts) : PE X (.Subscript e (.Slice none none (some es) p3) pos) (tStepL X.K te ts) := by
  refine ⟨fun pins s σ H Q I h => ?_⟩
  refine Subscript_ (thn (he.run pins s σ H _ I h) fun v s1 ⟨x, H1, I1, r1, q1⟩ => ?_)
  refine wpAny_Slice (thn (po_none.run pins s1 σ H1 (fun o H2 => o = none ∧ H2 = H1) I1 ⟨rfl, rfl⟩) fun vl s2 ⟨l, H2, I2, pl, el, e2⟩ => ?_)
  subst el e2
  refine thn (po_none.run pins s2 σ H2 (fun o H3 => o = none ∧ H3 = H2) I2 ⟨rfl, rfl⟩) fun vu s3 ⟨u, H3, I3, pu, eu, e3⟩ => ?_
  subst eu e3
  rw [evalPart_some]
  refine thn (hs.run pins s3 σ H3 _ I3 q1) fun vs s4 ⟨y, H4, I4, ry, q4⟩ => ?_
  obtain ⟨a, xs, st, ex, ey, h1, hx, q⟩ := q4
  subst ex ey
  cases r1
  obtain ⟨tk, rfl⟩ := ry
  have I5 : Inv X pins σ H4 { s4 with heap := s4.heap.push { cls := .type "slice", data := .fields #[vl, vu, .int st tk] } } := I4.kept (t' := s4.toks) fun b ob q => Heap.get?_push_of_some _ q
  obtain ⟨its, r, ht, hz⟩ := I5.list hx
  have hlen := r.length
  show wpAny (model X.prog X.w) X.A (subscriptTail e (.Slice none none (some es) p3) (.ref a) (.ref s4.heap.objs.size)) (EP X pins σ Q) X.xe { s4 with heap := s4.heap.push { cls := .type "slice", data := .fields #[vl, vu, .int st tk] } }
  refine tail_any (ops := [.ref a, .ref s4.heap.objs.size]) ht.isList.typeIs (PySem.slot_list_getitem.lookup) ?_ (by with_unfolding_all rfl)
  refine wpAny_getItem_list_slice ht.isList (Heap.IsSliceOf.new _ vl vu (.int st tk)) pl pu (.int st tk) (by intro z; injection z with z; omega) ?_ (by rw [List.size_toArray]; omega)
  have hp : slicePick its.toArray none none (some st) = ((sliceRange 0 (xs.length : Int) st).filterMap (its[·]?)).toArray := by
    unfold slicePick
    have hb : sliceBounds none none (some st) its.toArray.size = (0, ((its.length : Nat) : Int), st) := by
      unfold sliceBounds
      simp only [Option.getD_some, List.size_toArray]
      rw [if_pos (by omega), if_pos (by omega)]
    rw [hb, hlen]
    simp only [List.getElem?_toArray]
  rw [hp]
  refine ⟨.ref _, _, I5.laid (t' := s4.toks) (o := .lst (stepV xs st)) (fun b ob q => Heap.get?_push_of_some _ q) (Nat.le_refl _) ?_, rfl, q _ (I5.hok.fresh (Nat.le_refl _))⟩
  exact ⟨Nat.le_trans (stepV_len xs st h1) hz, _, 0, vals_pick r _, Heap.get?_push_size _ rfl⟩
end
end L2

set_option Elab.async false
set_option linter.all false
set_option maxRecDepth 100000
set_option maxHeartbeats 4000000
namespace Toll
open PySem L2
theorem up_same {H H' : Hp} {a : Addr} {o : HO} (e : Same H H') (h : H a = some o) : H' a = some o := e a o h
theorem upd_at {H : Hp} {p a : Addr} {o u : HO} (n : a ≠ p) (h : H a = some u) : upd H p o a = some u := by rw [upd_ne n]; exact h
theorem passF {P : Program} {w : World} {X : Cx} : Passes (L2.CX P w) X E0 := fun _ _ _ _ _ _ _ h => by
  obtain ⟨_, _, _, _, _, _, _, _, _, _, _, _, h⟩ := h
  exact h.elim
theorem ixL_step {K : PySem.W.Frag} {H : Hp} {p : Addr} {xs : List V} {i : Int} {v : V} {Q : VK} (h : H p = some (.lst xs)) (a : atI xs i = some v) (q : Q v H) : rIxL K (.ref p) (.int i) H Q := ⟨p, xs, i, v, rfl, rfl, SqL.of h, a, q⟩
theorem ixT_step {K : PySem.W.Frag} {H : Hp} {p : Addr} {xs : List V} {i : Int} {v : V} {Q : VK} (h : H p = some (.tup xs)) (a : atI xs i = some v) (q : Q v H) : rIxT K (.ref p) (.int i) H Q := ⟨p, xs, i, v, rfl, rfl, SqT.of h, a, q⟩
theorem lenL_step {K : PySem.W.Frag} {H : Hp} {p : Addr} {xs : List V} {Q : VK} (h : H p = some (.lst xs)) (q : Q (.int xs.length) H) : (fun (vs : List V) H Q => ∃ p ys, vs = [V.ref p] ∧ (SqL K H p ys ∨ SqT K H p ys) ∧ Q (.int ys.length) H) [V.ref p] H Q := ⟨p, xs, rfl, .inl (SqL.of h), q⟩
theorem isi_step {K : PySem.W.Frag} {H : Hp} {x : V} {n t : String} {Q : VK} (b : Bool) (h : TyOf K H x (.type t)) (k : kitB t n = some b) (q : Q (.bl b) H) : rIsi K [x, V.ty n] H Q := ⟨x, .ty n, .type t, .type n, b, rfl, ClsV.ty _, TyX.base h, kit_ty k, q⟩
theorem gates_upd {H : Hp} {L : Addr} {xs : List V} {o : HO} {us : List V} {gs : List (Str × Bool)} (hL : H L = some (.lst xs)) (h : Paired (GateV H) us gs) : Paired (GateV (upd H L o)) us gs := L2.Paired.mapP h fun _ _ ⟨t, e, ht⟩ => ⟨t, e, by rw [upd_ne (ne_of ht hL (by intro z; cases z))]; exact ht⟩
theorem roads_upd {H : Hp} {L : Addr} {xs : List V} {o : HO} {us : List V} {rs : List RoadD} (hL : H L = some (.lst xs)) (h : Paired (RoadV H) us rs) : Paired (RoadV (upd H L o)) us rs := L2.Paired.mapP h fun _ _ ⟨t, e, ht⟩ => ⟨t, e, by rw [upd_ne (ne_of ht hL (by intro z; cases z))]; exact ht⟩
theorem map_ref_get {l : List Addr} {i : Nat} {x : V} (h : (l.map V.ref)[i]? = some x) : ∃ t, l[i]? = some t ∧ x = .ref t := by
  rw [List.getElem?_map] at h
  cases e : l[i]? with
  | none => rw [e] at h; cases h
  | some t => rw [e] at h; exact ⟨t, rfl, (Option.some.inj h).symm⟩
theorem Keep.free1 {c x : Addr} {H H' : Hp} (k : Keep [c] H H') (hc : H' c ≠ none) (h : H' x = none) : H x = none := by
  cases e : H x with
  | none => rfl
  | some o =>
    have hx : x ≠ c := fun z => hc (by rw [← z]; exact h)
    have := k x o e (by simpa using hx)
    rw [h] at this
    cases this
theorem sees_mem {gs : List (Str × Bool)} {q : Str × Bool} (h : q ∈ gs) : seesOf gs q.1 ≠ none := fun z => seesOf_none.mp z (List.mem_map.mpr ⟨q, h, rfl⟩)
theorem list_ne_tup {H : Hp} {k : Addr} {ps : List V} (hk : H k = some (.lst ps)) : ∀ a ∈ [k], ∀ xs, H a ≠ some (.tup xs) := fun a ha xs e => by
  rw [List.mem_singleton] at ha
  subst ha
  rw [hk] at e
  cases e
theorem DefOk.mono {P : Program} {w : World} {K : PySem.W.Frag} {mg : Str → Option Value} {base : Heap} {CX : CXT} {k : Nat} {f : Addr} {ps : List Str} {sp sp' : Sp} (h : DefOk P w K mg base CX k f ps sp) (m : ∀ vs H Q E, sp' vs H Q E → sp vs H Q E) : DefOk P w K mg base CX k f ps sp' := by
  obtain ⟨fd, F, B, kp⟩ := h
  exact ⟨fd, ⟨fun vs H Q E z => F.len _ _ _ _ (m _ _ _ _ z), fun A outer s H args us vs Q E hr e0 hb r z => F.run A outer s H args us vs Q E hr e0 hb r (m _ _ _ _ z)⟩, B, kp⟩
/-- a test's answer, new things made on the way -/
def AnsS (t : TT) (σ : L2.St) (H : Hp) (b : Bool) : Prop := ∀ Q : Bool → Hp → Prop, (∀ H', Same H H' → Q b H') → t σ H Q
theorem anS_of {t : TT} {σ : L2.St} {H : Hp} {b : Bool} (h : Ans t σ H b) : AnsS t σ H b := fun Q q => h Q (q H (Same.refl H))
theorem anS_or {t u : TT} {σ : L2.St} {H : Hp} {a b : Bool} (h1 : AnsS t σ H a) (h2 : a = false → ∀ H1, Same H H1 → AnsS u σ H1 b) : AnsS (tOr t u) σ H (a || b) := fun Q q => by
  refine h1 _ fun H1 s1 => ?_
  cases a with
  | true => exact q H1 s1
  | false => exact h2 rfl H1 s1 _ fun H2 s2 => q H2 (s1.trans s2)
theorem anS_and {t u : TT} {σ : L2.St} {H : Hp} {a b : Bool} (h1 : AnsS t σ H a) (h2 : a = true → ∀ H1, Same H H1 → AnsS u σ H1 b) : AnsS (tAnd t u) σ H (a && b) := fun Q q => by
  refine h1 _ fun H1 s1 => ?_
  cases a with
  | true => exact h2 rfl H1 s1 _ fun H2 s2 => q H2 (s1.trans s2)
  | false => exact q H1 s1
theorem seqS_if1 {c : TT} {t1 r : TS} {D : Ends} {σ : L2.St} {H : Hp} (b : Bool) (hc : AnsS c σ H b) (hT : b = true → ∀ H', Same H H' → t1 { D with nx := r D } σ H') (hF : b = false → ∀ H', Same H H' → r D σ H') : tSeq (tIfS c t1 tNext) r D σ H := by
  refine hc _ fun H' s => ?_
  cases b with
  | true => exact hT rfl H' s
  | false => exact hF rfl H' s
theorem doS_if1 {c : TT} {t1 : TS} {D : Ends} {σ : L2.St} {H : Hp} (b : Bool) (hc : AnsS c σ H b) (hT : b = true → ∀ H', Same H H' → t1 D σ H') (hF : b = false → ∀ H', Same H H' → D.nx σ H') : tIfS c t1 tNext D σ H := by
  refine hc _ fun H' s => ?_
  cases b with
  | true => exact hT rfl H' s
  | false => exact hF rfl H' s
theorem doS_if {c : TT} {t1 t2 : TS} {D : Ends} {σ : L2.St} {H : Hp} (b : Bool) (hc : AnsS c σ H b) (hT : b = true → ∀ H', Same H H' → t1 D σ H') (hF : b = false → ∀ H', Same H H' → t2 D σ H') : tIfS c t1 t2 D σ H := by
  refine hc _ fun H' s => ?_
  cases b with
  | true => exact hT rfl H' s
  | false => exact hF rfl H' s
end Toll

set_option Elab.async false
set_option linter.all false
set_option maxRecDepth 100000
set_option maxHeartbeats 4000000
namespace Toll
open PySem L2
/-! ### what is told, and kept: data -/
def gateD (q : Str × Bool) : PyData := .tuple [.str q.1, .bool q.2]
def roadD (r : RoadD) : PyData := .tuple [.str r.one, .str r.other, .int r.mi, .int r.tl, .bool r.op]
def NamesOk (N : NetD) : Prop := (∀ q ∈ N.gates, NameOk q.1) ∧ ∀ r ∈ N.roads, NameOk r.one ∧ NameOk r.other
theorem flatD_ok1 {x : Str} (h : NameOk x) : flatD (.str x) = some (.str x) := by
  rw [flatD_str, if_pos h.2.1]
theorem gates_items {H : Hp} : ∀ {us : List V} {gs : List (Str × Bool)}, Paired (GateV H) us gs → (∀ q ∈ gs, NameOk q.1) → Paired (ItemV H) us (gs.map gateD)
  | _, _, .nil, _ => .nil
  | _, q :: _, .cons ⟨t, e, ht⟩ r, h => .cons (.inr ⟨t, _, _, e, ht, .cons (flatD_ok1 (h q (List.mem_cons_self ..))) (.cons rfl .nil), rfl⟩) (gates_items r fun x hx => h x (List.mem_cons_of_mem _ hx))
theorem roads_items {H : Hp} : ∀ {us : List V} {rs : List RoadD}, Paired (RoadV H) us rs → (∀ r ∈ rs, NameOk r.one ∧ NameOk r.other) → Paired (ItemV H) us (rs.map roadD)
  | _, _, .nil, _ => .nil
  | _, q :: _, .cons ⟨t, e, ht⟩ r, h => .cons (.inr ⟨t, _, _, e, ht, .cons (flatD_ok1 (h q (List.mem_cons_self ..)).1) (.cons (flatD_ok1 (h q (List.mem_cons_self ..)).2) (.cons rfl (.cons rfl (.cons rfl .nil)))), rfl⟩) (roads_items r fun x hx => h x (List.mem_cons_of_mem _ hx))
theorem ints_items {H : Hp} : ∀ (ns : List Int), Paired (ItemV H) (ns.map V.int) (ns.map PyData.int)
  | [] => .nil
  | n :: ns => .cons (.inl ⟨n, rfl, rfl⟩) (ints_items ns)
/-- asked: two new lists of what the net holds -/
def AskedV (H H' : Hp) (N : NetD) (L1 L2 : Addr) : Prop := ∃ us1 us2, H L1 = none ∧ H L2 = none ∧ L1 ≠ L2 ∧ H' L1 = some (.lst us1) ∧ H' L2 = some (.lst us2) ∧ Paired (GateV H') us1 N.gates ∧ Paired (RoadV H') us2 N.roads
theorem AskedV.same {H H1 H2 : Hp} {N : NetD} {L1 L2 : Addr} (a : AskedV H H1 N L1 L2) (s : Same H1 H2) : AskedV H H2 N L1 L2 := by
  obtain ⟨us1, us2, n1, n2, ne, h1, h2, p1, p2⟩ := a
  exact ⟨us1, us2, n1, n2, ne, s _ _ h1, s _ _ h2, gatesV_same s p1, roads_same s p2⟩
/-- a pair that is new since H -/
def NewPair (H H' : Hp) (v : V) : Prop := ∃ (q a b : Addr) (vs : List V) (ds : List PyData), v = .ref q ∧ H q = none ∧ H a = none ∧ H b = none ∧ H' q = some (.lst [.ref a, .ref b]) ∧ H' a = some (.lst vs) ∧ H' b = some (.lst vs) ∧ Paired (ItemV H') vs ds
theorem ItemV.same {H H' : Hp} (s : Same H H') {v : V} {d : PyData} (h : ItemV H v d) : ItemV H' v d := by
  rcases h with h | ⟨t, xs, ds, e1, e2, p, e3⟩
  · exact .inl h
  · exact .inr ⟨t, xs, ds, e1, s _ _ e2, p, e3⟩
theorem items_same {H H' : Hp} (s : Same H H') {vs : List V} {ds : List PyData} (h : Paired (ItemV H) vs ds) : Paired (ItemV H') vs ds := L2.Paired.mapP h fun _ _ z => z.same s
theorem items_upd {H : Hp} {L : Addr} {xs : List V} {o : HO} {vs : List V} {ds : List PyData} (hL : H L = some (.lst xs)) (h : Paired (ItemV H) vs ds) : Paired (ItemV (upd H L o)) vs ds :=
  L2.Paired.mapP h fun v d z => by
    rcases z with z | ⟨t, ys, es, e1, e2, p, e3⟩
    · exact .inl z
    · exact .inr ⟨t, ys, es, e1, by rw [upd_ne (ne_of e2 hL (by intro z; cases z))]; exact e2, p, e3⟩
theorem NewPair.same {H H1 H2 : Hp} {v : V} (h : NewPair H H1 v) (s : Same H1 H2) : NewPair H H2 v := by
  obtain ⟨q, a, b, vs, ds, e, n1, n2, n3, h1, h2, h3, p⟩ := h
  exact ⟨q, a, b, vs, ds, e, n1, n2, n3, s _ _ h1, s _ _ h2, s _ _ h3, items_same s p⟩
/-- .. also while a list that was there, or that is none of the pair's, is written -/
theorem NewPair.upd {H H1 : Hp} {v : V} {L : Addr} {xs : List V} {o : HO} (h : NewPair H H1 v) (hL : H1 L = some (.lst xs)) (hn : H L ≠ none) : NewPair H (upd H1 L o) v := by
  obtain ⟨q, a, b, vs, ds, e, n1, n2, n3, h1, h2, h3, p⟩ := h
  have ne : ∀ x, H x = none → x ≠ L := fun x hx z => hn (by rw [← z]; exact hx)
  exact ⟨q, a, b, vs, ds, e, n1, n2, n3, by rw [upd_ne (ne q n1)]; exact h1, by rw [upd_ne (ne a n2)]; exact h2, by rw [upd_ne (ne b n3)]; exact h3, items_upd hL p⟩
/-! ### the lists told, apart from F -/
def KF (H : Hp) (F : List Addr) (ps : List V) : Prop := ∀ v ∈ ps, ∃ (q a b : Addr) (vs : List V) (ds : List PyData), v = .ref q ∧ H q = some (.lst [.ref a, .ref b]) ∧ H a = some (.lst vs) ∧ H b = some (.lst vs) ∧ Paired (ItemV H) vs ds ∧ q ∉ F ∧ a ∉ F ∧ b ∉ F
theorem KF.keep {H H' : Hp} {F S : List Addr} {ps : List V} (h : KF H F ps) (k : Keep S H H') (hs : ∀ x ∈ S, x ∈ F) (hS : ∀ a ∈ S, ∀ xs, H a ≠ some (.tup xs)) : KF H' F ps := fun v hv => by
  obtain ⟨q, a, b, vs, ds, e, h1, h2, h3, p, n1, n2, n3⟩ := h v hv
  exact ⟨q, a, b, vs, ds, e, k _ _ h1 fun m => n1 (hs _ m), k _ _ h2 fun m => n2 (hs _ m), k _ _ h3 fun m => n3 (hs _ m), L2.Paired.mapP p fun _ _ z => z.keep k hS, n1, n2, n3⟩
theorem KF.same {H H' : Hp} {F : List Addr} {ps : List V} (h : KF H F ps) (s : Same H H') : KF H' F ps := h.keep (S := []) (Keep.of_same s) (by simp) (by simp)
theorem KF.grow {H : Hp} {F F' : List Addr} {ps : List V} (h : KF H F ps) (hF : ∀ x ∈ F', x ∈ F ∨ H x = none) : KF H F' ps := fun v hv => by
  obtain ⟨q, a, b, vs, ds, e, h1, h2, h3, p, n1, n2, n3⟩ := h v hv
  have z : ∀ x o, H x = some o → x ∉ F → x ∉ F' := fun x o hx n m => by
    rcases hF x m with m | m
    · exact n m
    · rw [hx] at m
      cases m
  exact ⟨q, a, b, vs, ds, e, h1, h2, h3, p, z _ _ h1 n1, z _ _ h2 n2, z _ _ h3 n3⟩
theorem KF.app {H : Hp} {F : List Addr} {ps qs : List V} (h : KF H F ps) (h2 : KF H F qs) : KF H F (ps ++ qs) := fun v hv => by
  rcases List.mem_append.mp hv with hv | hv
  · exact h v hv
  · exact h2 v hv
theorem KF.new {H H' : Hp} {F : List Addr} {ps : List V} (h : ∀ v ∈ ps, NewPair H H' v) (hF : ∀ x ∈ F, H x ≠ none) : KF H' F ps := fun v hv => by
  obtain ⟨q, a, b, vs, ds, e, n1, n2, n3, h1, h2, h3, p⟩ := h v hv
  exact ⟨q, a, b, vs, ds, e, h1, h2, h3, p, fun m => hF _ m n1, fun m => hF _ m n2, fun m => hF _ m n3⟩
theorem KF.pairs {H : Hp} {F : List Addr} {ps : List V} (h : KF H F ps) : ∀ v ∈ ps, PairV H v := fun v hv => by
  obtain ⟨q, a, b, vs, ds, e, h1, h2, h3, p, _⟩ := h v hv
  exact ⟨q, a, b, vs, ds, e, h1, h2, h3, p⟩
/-! ### a net and the account of it, apart -/
def foot (g r o og orr : Addr) (gts rts : List Addr) : List Addr := g :: r :: o :: og :: orr :: (gts ++ rts)
structure Side (C : Addr) (H : Hp) (p g r o og orr : Addr) (gts rts : List Addr) (N : NetD) : Prop where
  net : NetAt C H p g r N
  own : OwnAt H o og orr gts rts N
  nm : NamesOk N
  ap : r ∉ o :: og :: orr :: (gts ++ rts)
section
variable {C : Addr} {H H' : Hp} {p g r o og orr : Addr} {gts rts : List Addr} {N : NetD}
theorem Side.known (s : Side C H p g r o og orr gts rts N) : ∀ x ∈ foot g r o og orr gts rts, ∃ u, H x = some u ∧ (∀ xs, u ≠ .tup xs) ∧ (∀ c d f, u ≠ .ins c d f) := by
  intro x hx
  unfold foot at hx
  rcases List.mem_cons.mp hx with e | hx
  · subst e
    exact ⟨_, s.net.gt, (by intro xs z; cases z), (by intro c d f z; cases z)⟩
  rcases List.mem_cons.mp hx with e | hx
  · subst e
    obtain ⟨us, h, _⟩ := s.net.rt
    exact ⟨_, h, (by intro xs z; cases z), (by intro c d f z; cases z)⟩
  obtain ⟨xs, h⟩ := s.own.lists x hx
  exact ⟨_, h, (by intro xs z; cases z), (by intro c d f z; cases z)⟩
theorem Side.noTup (s : Side C H p g r o og orr gts rts N) : ∀ a ∈ foot g r o og orr gts rts, ∀ xs, H a ≠ some (.tup xs) := fun a ha xs e => by
  obtain ⟨u, h, n, _⟩ := s.known a ha
  rw [e] at h
  exact n xs (Option.some.inj h).symm
theorem Side.there (s : Side C H p g r o og orr gts rts N) : ∀ x ∈ foot g r o og orr gts rts, H x ≠ none := fun x hx e => by
  obtain ⟨u, h, _⟩ := s.known x hx
  rw [e] at h
  cases h
theorem Side.pno (s : Side C H p g r o og orr gts rts N) {S : List Addr} (hS : ∀ x ∈ S, ∃ u, H x = some u ∧ ∀ c d f, u ≠ .ins c d f) : p ∉ S := fun m => by
  obtain ⟨u, h, n⟩ := hS p m
  obtain ⟨⟨dx, e⟩, _⟩ := s.net
  rw [e] at h
  exact n _ _ _ (Option.some.inj h).symm
/-- a side stands while what changes is none of its own, and no tuple, no instance -/
theorem Side.keep (s : Side C H p g r o og orr gts rts N) {S : List Addr} (k : Keep S H H') (hd : ∀ x ∈ S, x ∉ foot g r o og orr gts rts) (hS : ∀ x ∈ S, ∃ u, H x = some u ∧ (∀ xs, u ≠ .tup xs) ∧ ∀ c d f, u ≠ .ins c d f) : Side C H' p g r o og orr gts rts N := by
  have hp : p ∉ S := s.pno fun x hx => by obtain ⟨u, a, _, b⟩ := hS x hx; exact ⟨u, a, b⟩
  have ht : ∀ a ∈ S, ∀ xs, H a ≠ some (.tup xs) := fun a ha xs e => by
    obtain ⟨u, h, n, _⟩ := hS a ha
    rw [e] at h
    exact n xs (Option.some.inj h).symm
  refine ⟨s.net.keep k hp (fun m => hd _ m (by simp [foot])) (fun m => hd _ m (by simp [foot])) ht, s.own.keep k fun x hx m => hd x hx (by unfold foot; exact List.mem_cons_of_mem _ (List.mem_cons_of_mem _ m)), s.nm, s.ap⟩
theorem Side.same (s : Side C H p g r o og orr gts rts N) (e : Same H H') : Side C H' p g r o og orr gts rts N := s.keep (S := []) (Keep.of_same e) (by simp) (by simp)
/-- a deed at the net, then at the account -/
theorem Side.deed {H1 H2 : Hp} {gts' rts' : List Addr} {d : Deed} (s : Side C H p g r o og orr gts rts N) (hd : d.ok) (n1 : NetAt C H1 p g r (done N d)) (k1 : Keep [g, r] H H1)
    (o2 : OwnAt H2 o og orr gts' rts' (done N d)) (k2 : Keep (o :: og :: orr :: (gts ++ rts)) H1 H2) (f2 : ∀ x ∈ gts' ++ rts', x ∈ gts ++ rts ∨ H1 x = none) :
    Side C H2 p g r o og orr gts' rts' (done N d) ∧ Keep (foot g r o og orr gts rts) H H2 ∧ ∀ x ∈ foot g r o og orr gts' rts', x ∈ foot g r o og orr gts rts ∨ H x = none := by
  have kk : ∀ x ∈ o :: og :: orr :: (gts ++ rts), x ∉ [g, r] := fun x hx m => by
    rcases List.mem_cons.mp m with e | m
    · subst e
      obtain ⟨xs, h⟩ := s.own.lists x hx
      rw [s.net.gt] at h
      cases h
    · rw [List.mem_singleton] at m
      subst m
      exact s.ap hx
  have o1 : OwnAt H1 o og orr gts rts N := s.own.keep k1 fun x hx m => kk x m hx
  have hL : ∀ x ∈ o :: og :: orr :: (gts ++ rts), ∃ xs, H1 x = some (.lst xs) := o1.lists
  have fr : ∀ x, H1 x = none → H x = none := fun x hx => by
    cases e : H x with
    | none => rfl
    | some u =>
      by_cases m : x ∈ [g, r]
      · rcases List.mem_cons.mp m with z | m
        · subst z
          rw [n1.gt] at hx
          cases hx
        · rw [List.mem_singleton] at m
          subst m
          obtain ⟨us, h, _⟩ := n1.rt
          rw [h] at hx
          cases hx
      · have := k1 x u e m
        rw [hx] at this
        cases this
  refine ⟨⟨n1.keep k2 (fun m => ?_) (fun m => ?_) s.ap (fun a ha xs e => ?_), o2, ?_, fun m => ?_⟩, ?_, fun x hx => ?_⟩
  · obtain ⟨xs, h⟩ := hL p m
    obtain ⟨dx, e⟩ := n1.ob
    rw [e] at h
    cases h
  · obtain ⟨xs, h⟩ := hL g m
    rw [n1.gt] at h
    cases h
  · obtain ⟨ys, h⟩ := hL a ha
    rw [e] at h
    cases h
  · obtain ⟨a1, a2⟩ := s.nm
    cases d with
    | gate nm b =>
      refine ⟨fun q hq => ?_, a2⟩
      rcases List.mem_append.mp hq with hq | hq
      · exact a1 q hq
      · rw [List.mem_singleton] at hq
        subst hq
        exact hd
    | road one other mi tl =>
      refine ⟨a1, fun q hq => ?_⟩
      rcases List.mem_append.mp hq with hq | hq
      · exact a2 q hq
      · rw [List.mem_singleton] at hq
        subst hq
        exact hd
    | turn b nm =>
      refine ⟨fun q hq => ?_, a2⟩
      obtain ⟨q0, h0, e⟩ := List.mem_map.mp (show q ∈ setSees N.gates nm b from hq)
      have := a1 q0 h0
      split at e <;> (subst e; exact this)
    | lane b n =>
      show NamesOk (match N.roads[n.toNat]? with | none => N | some r => { N with roads := N.roads.set n.toNat { r with op := b } })
      cases e : N.roads[n.toNat]? with
      | none => exact ⟨a1, a2⟩
      | some rd =>
        refine ⟨a1, fun q hq => ?_⟩
        rcases List.mem_or_eq_of_mem_set hq with h | h
        · exact a2 q h
        · subst h
          exact a2 rd (List.mem_of_getElem? e)
  · have hr1 : H1 r ≠ none := by
      obtain ⟨us, h, _⟩ := n1.rt
      rw [h]
      simp
    have hap := s.ap
    simp only [List.mem_cons, not_or] at m hap
    rcases m with e | e | e | m
    · exact hap.1 e
    · exact hap.2.1 e
    · exact hap.2.2.1 e
    · rcases f2 r m with h | h
      · exact hap.2.2.2 h
      · exact hr1 h
  · refine (k1.mono fun x hx => ?_).trans (k2.mono fun x hx => ?_)
    · unfold foot
      simp only [List.mem_cons, List.not_mem_nil, or_false] at hx ⊢
      rcases hx with e | e <;> simp [e]
    · unfold foot
      exact List.mem_cons_of_mem _ (List.mem_cons_of_mem _ hx)
  · unfold foot at hx ⊢
    simp only [List.mem_cons] at hx ⊢
    rcases hx with e | e | e | e | e | m
    · exact .inl (.inl e)
    · exact .inl (.inr (.inl e))
    · exact .inl (.inr (.inr (.inl e)))
    · exact .inl (.inr (.inr (.inr (.inl e))))
    · exact .inl (.inr (.inr (.inr (.inr (.inl e)))))
    · rcases f2 x m with h | h
      · exact .inl (.inr (.inr (.inr (.inr (.inr h)))))
      · exact .inr (fr x h)
end
theorem Keep.trans2 {S T : List Addr} {H H1 H2 : Hp} (a : Keep S H H1) (b : Keep T H1 H2) (h : ∀ x ∈ T, x ∈ S ∨ H x = none) : Keep S H H2 := fun c o e n => b c o (a c o e n) fun m => by
  rcases h c m with z | z
  · exact n z
  · rw [e] at z
    cases z
theorem foot_fresh {S T : List Addr} {H H1 : Hp} {F : List Addr} (a : Keep S H H1) (hS : ∀ x ∈ S, H1 x ≠ none) (f1 : ∀ x ∈ T, x ∈ S ∨ H x = none) (f2 : ∀ x ∈ F, x ∈ T ∨ H1 x = none) : ∀ x ∈ F, x ∈ S ∨ H x = none := fun x hx => by
  rcases f2 x hx with h | h
  · exact f1 x h
  · refine .inr ?_
    cases e : H x with
    | none => rfl
    | some u =>
      by_cases m : x ∈ S
      · exact absurd h (hS x m)
      · have := a x u e m
        rw [h] at this
        cases this
theorem DeedV.keep {S : List Addr} {H H' : Hp} {v : V} {d : Deed} (k : Keep S H H') (hS : ∀ a ∈ S, ∀ xs, H a ≠ some (.tup xs)) (h : DeedV H v d) : DeedV H' v d := by
  obtain ⟨t, e, h⟩ := h
  exact ⟨t, e, k t _ h fun m => hS t m _ h⟩
/-! ### names that differ by a number -/
theorem nameOf_inj {b s t : Int} (hb : b % 3 = 1) (hs : 0 ≤ s) (ht : 0 ≤ t) (h : nameOf b s = nameOf b t) : s = t := by
  rw [nameOf_def, nameOf_def] at h
  have h := sx_inj h
  have e : ∀ u, nameL b u = (sg b).take (1 + b / 3 % 5).toNat ++ digs u := fun u => by
    unfold nameL
    rw [if_neg (by omega), if_pos (by omega)]
  rw [e, e, List.append_cancel_left_eq, digs_def, digs_def] at h
  have := TL.numL_inj h
  omega
def gatesF (b : Int) (n : Nat) : List (Str × Bool) := (List.range n).map fun k : Nat => (nameOf b (k : Int), decide ((k : Int) % 2 = 0))
def otherF (k : Int) : Int := k % 49 + 1 + (if k % 49 + 1 = k % 50 then 1 else 0)
def roadsF2 (b : Int) (n : Nat) : List RoadD := (List.range n).map fun k : Nat => ⟨nameOf b ((k : Int) % 50), nameOf b (otherF (k : Int)), 1 + (k : Int), (k : Int), true⟩
theorem gatesF_len (b : Int) (n : Nat) : (gatesF b n).length = n := by simp [gatesF]
theorem roadsF2_len (b : Int) (n : Nat) : (roadsF2 b n).length = n := by simp [roadsF2]
theorem gatesF_succ (b : Int) (n : Nat) : gatesF b (n + 1) = gatesF b n ++ [(nameOf b (n : Int), decide ((n : Int) % 2 = 0))] := by simp [gatesF, List.range_succ]
theorem roadsF2_succ (b : Int) (n : Nat) : roadsF2 b (n + 1) = roadsF2 b n ++ [⟨nameOf b ((n : Int) % 50), nameOf b (otherF (n : Int)), 1 + (n : Int), (n : Int), true⟩] := by simp [roadsF2, List.range_succ]
theorem gatesF_no {b : Int} (hb : b % 3 = 1) (n : Nat) : seesOf (gatesF b n) (nameOf b (n : Int)) = none := by
  rw [seesOf_none]
  intro m
  obtain ⟨q, hq, e⟩ := List.mem_map.mp m
  obtain ⟨k, hk, rfl⟩ := List.mem_map.mp hq
  have hk := List.mem_range.mp hk
  have := nameOf_inj hb (by omega) (by omega) e
  omega
theorem gatesF_yes (b : Int) (n : Nat) (t : Int) (h0 : 0 ≤ t) (h1 : t < n) : seesOf (gatesF b n) (nameOf b t) ≠ none := by
  intro z
  refine seesOf_none.mp z (List.mem_map.mpr ⟨(nameOf b t, decide (t % 2 = 0)), List.mem_map.mpr ⟨t.toNat, List.mem_range.mpr (by omega), ?_⟩, rfl⟩)
  rw [Int.toNat_of_nonneg h0]
/-- the deeds that fill a net -/
def fillDeed (b : Int) (n i : Nat) : Deed := if i < n then .gate (nameOf b (i : Int)) (decide ((i : Int) % 2 = 0)) else .road (nameOf b (((i - n : Nat) : Int) % 50)) (nameOf b (otherF ((i - n : Nat) : Int))) (1 + ((i - n : Nat) : Int)) ((i - n : Nat) : Int)
def fillNet (b : Int) (n i : Nat) : NetD := ⟨gatesF b (min i n), roadsF2 b (i - n)⟩
theorem fill_ok {b : Int} {n i : Nat} (hi : i < n + 200) (hn : n < 200) : (fillDeed b n i).ok := by
  unfold fillDeed
  split
  · exact nameOk_of (by omega) (by omega)
  · exact ⟨nameOk_of (by omega) (by omega), nameOk_of (by unfold otherF; split <;> omega) (by unfold otherF; split <;> omega)⟩
theorem fill_done {b : Int} {n i : Nat} : done (fillNet b n i) (fillDeed b n i) = fillNet b n (i + 1) := by
  unfold fillNet fillDeed
  by_cases h : i < n
  · rw [if_pos h, Nat.min_eq_left (by omega), Nat.min_eq_left (by omega), show i - n = 0 by omega, show i + 1 - n = 0 by omega, gatesF_succ]
    rfl
  · rw [if_neg h, Nat.min_eq_right (by omega), Nat.min_eq_right (by omega), show i + 1 - n = (i - n) + 1 by omega, roadsF2_succ]
    rfl
theorem fill_free {b : Int} {n i : Nat} (hb : b % 3 = 1) (hn : 55 ≤ n) (hn2 : n ≤ 60) (hi : i < n + 200) : refusal (fillNet b n i) (fillDeed b n i) = none := by
  unfold fillNet fillDeed
  by_cases h : i < n
  · rw [if_pos h, Nat.min_eq_left (by omega)]
    show (if seesOf (gatesF b i) _ ≠ none then some ("SameGate" : Str) else if 59 < (gatesF b i).length then some ("FullNet" : Str) else none) = none
    rw [if_neg (by rw [gatesF_no hb]; simp), if_neg (by rw [gatesF_len]; omega)]
  · rw [if_neg h, Nat.min_eq_right (by omega)]
    have hm : i - n < 200 := by omega
    generalize i - n = m at hm
    have h1 := gatesF_yes b n ((m : Int) % 50) (by omega) (by omega)
    have h2 := gatesF_yes b n (otherF (m : Int)) (by unfold otherF; split <;> omega) (by unfold otherF; split <;> omega)
    have h3 : ¬ nameOf b ((m : Int) % 50) = nameOf b (otherF (m : Int)) := fun e => by
      have := nameOf_inj hb (by omega) (by unfold otherF; split <;> omega) e
      unfold otherF at this
      split at this <;> omega
    show (if seesOf (gatesF b n) _ = none ∨ seesOf (gatesF b n) _ = none then some ("NoGate" : Str) else if _ = _ then some ("SameGate" : Str) else if ¬ (0 < _ ∧ _ < 1000001) ∨ ¬ (0 ≤ _ ∧ _ < 1000001) then some ("NoNumber" : Str) else if 199 < (roadsF2 b m).length then some ("FullNet" : Str) else none) = none
    rw [if_neg (by intro z; rcases z with z | z; exact h1 z; exact h2 z), if_neg h3, if_neg (by omega), if_neg (by rw [roadsF2_len]; omega)]
end Toll

set_option Elab.async false
set_option linter.all false
set_option maxRecDepth 100000
set_option maxHeartbeats 4000000
namespace Toll
open PySem L2
structure SD where
  p : Addr
  g : Addr
  r : Addr
  o : Addr
  og : Addr
  orr : Addr
  gts : List Addr
  rts : List Addr
  N : NetD
def SD.at (s : SD) (C : Addr) (H : Hp) : Prop := Side C H s.p s.g s.r s.o s.og s.orr s.gts s.rts s.N
def SD.foot (s : SD) : List Addr := Toll.foot s.g s.r s.o s.og s.orr s.gts s.rts
/-- two nets and their accounts, the lists told: all apart, all new since H0, none of it in W -/
structure Two (C : Addr) (H0 : Hp) (W : List Addr) (H : Hp) (k : Addr) (ps : List V) (s t : SD) : Prop where
  s1 : s.at C H
  t1 : t.at C H
  ap : ∀ x ∈ s.foot, x ∉ t.foot
  ks : k ∉ s.foot
  kt : k ∉ t.foot
  kl : H k = some (.lst ps)
  kf : KF H (k :: (s.foot ++ t.foot)) ps
  sm : Same H0 H
  nw : ∀ x ∈ k :: (s.foot ++ t.foot), H0 x = none ∧ x ∉ W
  wt : ∀ x ∈ W, H x ≠ none
section
variable {C k : Addr} {H0 H H2 : Hp} {W : List Addr} {ps : List V} {s t : SD}
theorem Two.swap (h : Two C H0 W H k ps s t) : Two C H0 W H k ps t s :=
  ⟨h.t1, h.s1, fun x hx m => h.ap x m hx, h.kt, h.ks, h.kl, h.kf.grow fun x hx => .inl (by simp only [List.mem_cons, List.mem_append] at hx ⊢; rcases hx with e | e | e <;> simp [e]), h.sm,
    fun x hx => h.nw x (by simp only [List.mem_cons, List.mem_append] at hx ⊢; rcases hx with e | e | e <;> simp [e]), h.wt⟩
theorem SD.listOrDict (h : s.at C H) : ∀ x ∈ s.foot, ∃ u, H x = some u ∧ (∀ xs, u ≠ .tup xs) ∧ ∀ c d f, u ≠ .ins c d f := Side.known h
theorem Two.same (h : Two C H0 W H k ps s t) (e : Same H H2) : Two C H0 W H2 k ps s t :=
  ⟨Side.same h.s1 e, Side.same h.t1 e, h.ap, h.ks, h.kt, e _ _ h.kl, h.kf.same e, h.sm.trans e, h.nw, fun x hx z => h.wt x hx (e.free z)⟩
theorem same_keep {S : List Addr} (a : Same H0 H) (b : Keep S H H2) (h : ∀ x ∈ S, H0 x = none) : Same H0 H2 := fun x o e => b x o (a x o e) fun m => by
  rw [h x m] at e
  cases e
theorem Two.deed (h : Two C H0 W H k ps s t) {s' : SD} (h2 : s'.at C H2) (kp : Keep s.foot H H2) (fr : ∀ x ∈ s'.foot, x ∈ s.foot ∨ H x = none) : Two C H0 W H2 k ps s' t := by
  have hs := SD.listOrDict h.s1
  have hkn : ∀ x, H x = none → H0 x = none ∧ x ∉ W := fun x hx => ⟨h.sm.free hx, fun m => h.wt x m hx⟩
  refine ⟨h2, Side.keep h.t1 kp h.ap hs, fun x hx m => ?_, fun m => ?_, h.kt, kp _ _ h.kl h.ks, ?_, same_keep h.sm kp fun x hx => (h.nw x (by simp [hx])).1, fun x hx => ?_, fun x hx z => ?_⟩
  · rcases fr x hx with e | e
    · exact h.ap x e m
    · exact Side.there h.t1 x m e
  · rcases fr k m with e | e
    · exact h.ks e
    · have := h.kl
      rw [e] at this
      cases this
  · have big : KF H (k :: (s.foot ++ s'.foot ++ t.foot)) ps := h.kf.grow fun x hx => by
      simp only [List.mem_cons, List.mem_append] at hx ⊢
      rcases hx with e | (e | e) | e
      · exact .inl (.inl e)
      · exact .inl (.inr (.inl e))
      · rcases fr x e with z | z
        · exact .inl (.inr (.inl z))
        · exact .inr z
      · exact .inl (.inr (.inr e))
    have big2 := big.keep kp (fun x hx => by simp [hx]) fun a ha xs e => by
      obtain ⟨u, hu, n, _⟩ := hs a ha
      rw [e] at hu
      exact n xs (Option.some.inj hu).symm
    exact big2.grow fun x hx => .inl (by simp only [List.mem_cons, List.mem_append] at hx ⊢; rcases hx with e | e | e <;> simp [e])
  · simp only [List.mem_cons, List.mem_append] at hx
    rcases hx with e | e | e
    · exact h.nw x (by simp [e])
    · rcases fr x e with z | z
      · exact h.nw x (by simp [z])
      · exact hkn x z
    · exact h.nw x (by simp [e])
  · obtain ⟨o, ho⟩ : ∃ o, H x = some o := by
      cases e : H x with
      | none => exact absurd e (h.wt x hx)
      | some o => exact ⟨o, rfl⟩
    have := kp x o ho fun m => (h.nw x (by simp [m])).2 hx
    rw [z] at this
    cases this
theorem Two.told (h : Two C H0 W H k ps s t) {news : List V} (kp : Keep [k] H H2) (e : H2 k = some (.lst (ps ++ news))) (hn : ∀ v ∈ news, NewPair H H2 v) : Two C H0 W H2 k (ps ++ news) s t := by
  have hk : ∀ x ∈ [k], ∃ u, H x = some u ∧ (∀ xs, u ≠ .tup xs) ∧ ∀ c d f, u ≠ .ins c d f := fun x hx => by
    rw [List.mem_singleton] at hx
    subst hx
    exact ⟨_, h.kl, (by intro xs z; cases z), (by intro c d f z; cases z)⟩
  refine ⟨Side.keep h.s1 kp (fun x hx => ?_) hk, Side.keep h.t1 kp (fun x hx => ?_) hk, h.ap, h.ks, h.kt, e, ?_, same_keep h.sm kp fun x hx => ?_, h.nw, fun x hx z => ?_⟩
  · rw [List.mem_singleton] at hx
    subst hx
    exact h.ks
  · rw [List.mem_singleton] at hx
    subst hx
    exact h.kt
  · refine (h.kf.keep kp (fun x hx => ?_) (list_ne_tup h.kl)).app (KF.new hn fun x hx z => ?_)
    · rw [List.mem_singleton] at hx
      simp [hx]
    · simp only [List.mem_cons, List.mem_append] at hx
      rcases hx with q | q | q
      · subst q
        rw [h.kl] at z
        cases z
      · exact Side.there h.s1 x q z
      · exact Side.there h.t1 x q z
  · rw [List.mem_singleton] at hx
    subst hx
    exact (h.nw _ (List.mem_cons_self ..)).1
  · obtain ⟨o, ho⟩ : ∃ o, H x = some o := by
      cases e : H x with
      | none => exact absurd e (h.wt x hx)
      | some o => exact ⟨o, rfl⟩
    have := kp x o ho fun m => by
      rw [List.mem_singleton] at m
      subst m
      exact (h.nw _ (List.mem_cons_self ..)).2 hx
    rw [z] at this
    cases this
theorem Two.watch (h : Two C H0 W H k ps s t) {S : List Addr} (kp : Keep S H H2) (hS : ∀ x ∈ S, x ∈ k :: (s.foot ++ t.foot)) {x : Addr} {o : HO} (hx : x ∈ W) (e : H x = some o) : H2 x = some o := kp x o e fun m => (h.nw x (hS x m)).2 hx
end
theorem refusal_ok {N : NetD} {d : Deed} {c : Str} (h : refusal N d = some c) : PyData.strOk c = true := by
  have l1 : PyData.strOk ("SameGate" : Str) = true := by decide +kernel
  have l2 : PyData.strOk ("FullNet" : Str) = true := by decide +kernel
  have l3 : PyData.strOk ("NoGate" : Str) = true := by decide +kernel
  have l4 : PyData.strOk ("NoNumber" : Str) = true := by decide +kernel
  have l5 : PyData.strOk ("Already" : Str) = true := by decide +kernel
  have l6 : PyData.strOk ("NoRoad" : Str) = true := by decide +kernel
  have z : ∀ {x : Str}, PyData.strOk x = true → some x = some c → PyData.strOk c = true := fun hx e => by
    rw [← Option.some.inj e]
    exact hx
  cases d with
  | gate nm b =>
    have h : (if seesOf N.gates nm ≠ none then some ("SameGate" : Str) else if 59 < N.gates.length then some ("FullNet" : Str) else none) = some c := h
    split at h
    · exact z l1 h
    · split at h
      · exact z l2 h
      · cases h
  | road one other mi tl =>
    have h : (if seesOf N.gates one = none ∨ seesOf N.gates other = none then some ("NoGate" : Str)
      else if one = other then some ("SameGate" : Str)
      else if ¬ (0 < mi ∧ mi < 1000001) ∨ ¬ (0 ≤ tl ∧ tl < 1000001) then some ("NoNumber" : Str)
      else if 199 < N.roads.length then some ("FullNet" : Str) else none) = some c := h
    split at h
    · exact z l3 h
    · split at h
      · exact z l1 h
      · split at h
        · exact z l4 h
        · split at h
          · exact z l2 h
          · cases h
  | turn b nm =>
    rw [refusal_turn] at h
    split at h
    · exact z l3 h
    · split at h
      · exact z l5 h
      · cases h
  | lane b n =>
    rw [refusal_lane] at h
    split at h
    · split at h
      · exact z l6 h
      · split at h
        · exact z l5 h
        · cases h
    · exact z l6 h
/-- what is due and what is found: alike -/
def Alike (H : Hp) (u v : V) : Prop := (∃ (L M : Addr) (c : Str), u = .ref L ∧ v = .ref M ∧ H L = some (.lst [.str c]) ∧ H M = some (.lst [.str c]) ∧ PyData.strOk c = true) ∨ (u = .non ∧ v = .non) ∨ ∃ i, u = .int i ∧ v = .int i
theorem Alike.dp {K : PySem.W.Frag} {H : Hp} {u v : V} (h : Alike H u v) : ∃ d, Dp K H u d ∧ Dp K H v d ∧ okD 1 d := by
  rcases h with ⟨L, M, c, rfl, rfl, h1, h2, ok⟩ | ⟨rfl, rfl⟩ | ⟨i, rfl, rfl⟩
  · refine ⟨.list [.str c], .lst (SqL.of h1) (.cons (.str _) .nil), .lst (SqL.of h2) (.cons (.str _) .nil), okD_list fun d hd => ?_⟩
    rw [List.mem_singleton] at hd
    rw [hd]
    exact okD_str ok
  · exact ⟨.none, .non, .non, ⟨by simp [PyData.canLay0], by simp [PyData.depth]⟩⟩
  · exact ⟨.int i, .int i, .int i, ⟨(okD_int i).1, by have := (okD_int i).2; omega⟩⟩
theorem Two.mk0 {C k : Addr} {H0 Hb H : Hp} {W : List Addr} {p0 g0 r0 o0 a0 b0 : Addr} {gts rts : List Addr} {N : NetD} {t : SD} (sb : Same H0 Hb) (f0 : ∀ y ∈ foot g0 r0 o0 a0 b0 [] [], H0 y = none) (f1 : ∀ y ∈ t.foot, H0 y = none) (hd : ∀ y ∈ foot g0 r0 o0 a0 b0 [] [], y ∉ t.foot)
    (w0 : ∀ y ∈ W, y ∉ foot g0 r0 o0 a0 b0 [] [] ∧ y ∉ t.foot ∧ Hb y ≠ none) (S0b : Side C Hb p0 g0 r0 o0 a0 b0 [] [] ⟨[], []⟩) (S1 : t.at C Hb) (S0 : Side C H p0 g0 r0 o0 a0 b0 gts rts N) (kp : Keep (foot g0 r0 o0 a0 b0 [] []) Hb H)
    (fr : ∀ x ∈ foot g0 r0 o0 a0 b0 gts rts, x ∈ foot g0 r0 o0 a0 b0 [] [] ∨ Hb x = none) (nk : H k = none) : Two C H0 W (upd H k (.lst [])) k [] ⟨p0, g0, r0, o0, a0, b0, gts, rts, N⟩ t := by
  have S1' : t.at C H := Side.keep S1 kp hd (Side.known S0b)
  have sm : Same H0 H := same_keep sb kp f0
  have wk : ∀ y ∈ W, H y ≠ none := fun y hy z => by
    obtain ⟨n0, n1, ny⟩ := w0 y hy
    cases e : Hb y with
    | none => exact ny e
    | some o =>
      have := kp y o e n0
      rw [z] at this
      cases this
  refine ⟨Side.same S0 (same_up nk), Side.same S1' (same_up nk), fun x hx m => ?_, fun m => Side.there S0 k m nk, fun m => Side.there S1' k m nk, upd_same, (by intro v hv; cases hv), sm.trans (same_up nk), fun x hx => ?_, fun x hx z => wk x hx ((same_up nk).free z)⟩
  · rcases fr x hx with e | e
    · exact hd x e m
    · exact Side.there S1 x m e
  · rcases List.mem_cons.mp hx with e | hx
    · subst e
      exact ⟨sm.free nk, fun m => wk _ m nk⟩
    · rcases List.mem_append.mp hx with hx | hx
      · rcases fr x hx with e | e
        · exact ⟨f0 x e, fun m => (w0 x m).1 e⟩
        · exact ⟨sb.free e, fun m => (w0 x m).2.2 e⟩
      · exact ⟨f1 x hx, fun m => (w0 x m).2.1 hx⟩
end Toll

set_option Elab.async false
set_option linter.all false
set_option maxRecDepth 100000
set_option maxHeartbeats 4000000
namespace TH
open PySem PySem.Calls PySem.SeqAt PySem.W PyProof.Rows
/-! ### keys: tuples of ints -/
def kD (k : List Int) : PyData := .tuple (k.map PyData.int)
def kLt (k j : List Int) : Bool := dataLt (kD k) (kD j)
theorem kLt_cons (x y : Int) (k j : List Int) : kLt (x :: k) (y :: j) = (decide (x < y) || (!decide (y < x) && kLt k j)) := by
  unfold kLt kD
  rw [dataLt_tuple, dataLt_tuple, List.map_cons, List.map_cons, toks_all_cons, toks_all_cons, lex_self (O := itemOrd)]
  simp only [keyToks, List.cons_append, List.nil_append]
  rw [lex_cons]
  rfl
theorem kLt_nil : kLt [] [] = false := by
  unfold kLt kD
  rw [dataLt_tuple]
  simp only [List.map_nil, keyToksAll]
  rw [lex_cons, lex_irrefl]
  rfl
theorem kLt_nilc (y : Int) (j : List Int) : kLt [] (y :: j) = true := by
  unfold kLt kD
  rw [dataLt_tuple, List.map_cons, toks_all_cons]
  simp only [List.map_nil, keyToksAll]
  rw [lex_cons]
  rfl
theorem kLt_cnil (y : Int) (j : List Int) : kLt (y :: j) [] = false := by
  unfold kLt kD
  rw [dataLt_tuple, List.map_cons, toks_all_cons]
  simp only [List.map_nil, keyToksAll]
  rw [lex_cons]
  rfl
/-- a ≤ b -/
def kLe (a b : List Int) : Prop := kLt b a = false
theorem kLe_cons {x y : Int} {a b : List Int} : kLe (x :: a) (y :: b) ↔ x < y ∨ (x = y ∧ kLe a b) := by
  unfold kLe
  rw [kLt_cons]
  by_cases h1 : y < x
  · simp [h1]; omega
  · by_cases h2 : x < y
    · simp [h1, h2]
    · have : x = y := by omega
      subst this
      simp
theorem kLe_refl : ∀ a, kLe a a
  | [] => kLt_nil
  | x :: a => kLe_cons.mpr (.inr ⟨rfl, kLe_refl a⟩)
theorem kLe_trans : ∀ {a b c : List Int}, kLe a b → kLe b c → kLe a c
  | [], _, [], _, _ => kLt_nil
  | [], _, z :: c, _, _ => kLt_cnil z c
  | x :: a, [], _, h, _ => by
    unfold kLe at h
    rw [kLt_nilc] at h
    cases h
  | x :: a, y :: b, [], _, h => by
    unfold kLe at h
    rw [kLt_nilc] at h
    cases h
  | x :: a, y :: b, z :: c, h1, h2 => by
    rw [kLe_cons] at h1 h2 ⊢
    rcases h1 with h1 | ⟨rfl, h1⟩ <;> rcases h2 with h2 | ⟨rfl, h2⟩
    · exact .inl (by omega)
    · exact .inl h1
    · exact .inl h2
    · exact .inr ⟨rfl, kLe_trans h1 h2⟩
theorem kLe_of_lt : ∀ {a b : List Int}, kLt a b = true → kLe a b
  | [], [], h => by rw [kLt_nil] at h; cases h
  | [], z :: c, _ => kLt_cnil z c
  | x :: a, [], h => by rw [kLt_cnil] at h; cases h
  | x :: a, y :: b, h => by
    rw [kLt_cons] at h
    rw [kLe_cons]
    by_cases h1 : x < y
    · exact .inl h1
    · by_cases h2 : y < x
      · simp [h1, h2] at h
      · refine .inr ⟨by omega, kLe_of_lt ?_⟩
        simpa [h1, h2] using h
/-! ### heaps, as lists -/
abbrev Z := Addr × List Int
def kAt (zs : List Z) (i : Nat) : List Int := (zs.getD i (0, [])).2
/-- a heap but for what stands at pos, which may be less than what is above it -/
def UpI (zs : List Z) (pos : Nat) : Prop := (∀ i, 0 < i → i < zs.length → i ≠ pos → kLe (kAt zs ((i - 1) / 2)) (kAt zs i)) ∧ (0 < pos → ∀ i, 0 < i → i < zs.length → (i - 1) / 2 = pos → kLe (kAt zs ((pos - 1) / 2)) (kAt zs i))
/-- a heap but for what stands at pos, any -/
def DnI (zs : List Z) (pos : Nat) : Prop := (∀ i, 0 < i → i < zs.length → i ≠ pos → (i - 1) / 2 ≠ pos → kLe (kAt zs ((i - 1) / 2)) (kAt zs i)) ∧ (0 < pos → ∀ i, 0 < i → i < zs.length → (i - 1) / 2 = pos → kLe (kAt zs ((pos - 1) / 2)) (kAt zs i))
def IsHeap (zs : List Z) : Prop := ∀ i, 0 < i → i < zs.length → kLe (kAt zs ((i - 1) / 2)) (kAt zs i)
def swp (zs : List Z) (i j : Nat) : List Z := (zs.set i (zs.getD j (0, []))).set j (zs.getD i (0, []))
theorem swp_len (zs : List Z) (i j : Nat) : (swp zs i j).length = zs.length := by simp [swp]
theorem swp_perm {zs : List Z} {i j : Nat} (hi : i < zs.length) (hj : j < zs.length) : (swp zs i j).Perm zs := by
  unfold swp
  have e1 : zs.getD j (0, []) = zs[j] := by rw [List.getD_eq_getElem?_getD, List.getElem?_eq_getElem hj]; rfl
  have e2 : zs.getD i (0, []) = zs[i] := by rw [List.getD_eq_getElem?_getD, List.getElem?_eq_getElem hi]; rfl
  rw [e1, e2]
  exact List.set_set_perm hi hj
theorem swp_at {zs : List Z} {i j k : Nat} (hi : i < zs.length) (hj : j < zs.length) : kAt (swp zs i j) k = if k = j then kAt zs i else if k = i then kAt zs j else kAt zs k := by
  unfold kAt swp
  rw [List.getD_eq_getElem?_getD (l := _)]
  by_cases h1 : k = j
  · subst h1
    rw [if_pos rfl, List.getElem?_set_self (by simpa using hj)]
    rfl
  · rw [if_neg h1, List.getElem?_set_ne (Ne.symm h1)]
    by_cases h2 : k = i
    · subst h2
      rw [if_pos rfl, List.getElem?_set_self hi]
      rfl
    · rw [if_neg h2, List.getElem?_set_ne (Ne.symm h2)]
      rw [List.getD_eq_getElem?_getD]
theorem up_done {zs : List Z} {pos : Nat} (h : UpI zs pos) (hp : pos = 0 ∨ kLe (kAt zs ((pos - 1) / 2)) (kAt zs pos)) : IsHeap zs := fun i h0 hl => by
  by_cases e : i = pos
  · subst e
    rcases hp with hp | hp
    · omega
    · exact hp
  · exact h.1 i h0 hl e
theorem up_step {zs : List Z} {pos : Nat} (h : UpI zs pos) (h0 : 0 < pos) (hl : pos < zs.length) (lt : kLt (kAt zs pos) (kAt zs ((pos - 1) / 2)) = true) : UpI (swp zs ((pos - 1) / 2) pos) ((pos - 1) / 2) := by
  have hq : (pos - 1) / 2 < pos := by omega
  have hql : (pos - 1) / 2 < zs.length := by omega
  have le := kLe_of_lt lt
  obtain ⟨h1, h2⟩ := h
  generalize hqe : (pos - 1) / 2 = q at *
  refine ⟨fun i hi hil hne => ?_, fun hq0 i hi hil hpar => ?_⟩
  · rw [swp_len] at hil
    rw [swp_at hql hl, swp_at hql hl]
    by_cases e1 : i = pos
    · subst e1
      rw [if_pos rfl, hqe, if_neg (by omega), if_pos rfl]
      exact le
    · rw [if_neg e1, if_neg hne]
      by_cases e2 : (i - 1) / 2 = pos
      · rw [if_pos e2]
        exact h2 h0 i hi hil e2
      · rw [if_neg e2]
        by_cases e3 : (i - 1) / 2 = q
        · rw [if_pos e3]
          exact kLe_trans le (by rw [← e3]; exact h1 i hi hil e1)
        · rw [if_neg e3]
          exact h1 i hi hil e1
  · rw [swp_len] at hil
    rw [swp_at hql hl, swp_at hql hl]
    have hqq : (q - 1) / 2 ≠ pos := by omega
    have hqq2 : (q - 1) / 2 ≠ q := by omega
    rw [if_neg hqq, if_neg hqq2]
    have a1 := h1 q hq0 hql (by omega)
    by_cases e1 : i = pos
    · subst e1
      rw [if_pos rfl]
      exact a1
    · rw [if_neg e1, if_neg (by omega)]
      exact kLe_trans a1 (by rw [← hpar]; exact h1 i hi hil e1)
theorem dn_leaf {zs : List Z} {pos : Nat} (h : DnI zs pos) (hl : zs.length ≤ 2 * pos + 1) : UpI zs pos := ⟨fun i h0 hil hne => h.1 i h0 hil hne (by omega), fun _ i h0 hil e => by omega⟩
theorem dn_step {zs : List Z} {pos c : Nat} (h : DnI zs pos) (hc : c < zs.length) (hp : (c - 1) / 2 = pos) (h0 : 0 < c) (hm : ∀ i, 0 < i → i < zs.length → (i - 1) / 2 = pos → kLe (kAt zs c) (kAt zs i)) : DnI (swp zs c pos) c := by
  have hpl : pos < zs.length := by omega
  have hpc : pos < c := by omega
  obtain ⟨h1, h2⟩ := h
  refine ⟨fun i hi hil hne hpar => ?_, fun _ i hi hil hpar => ?_⟩
  · rw [swp_len] at hil
    rw [swp_at hc hpl, swp_at hc hpl]
    by_cases e1 : i = pos
    · subst e1
      rw [if_pos rfl, if_neg (by omega), if_neg (by omega)]
      exact h2 hi c h0 hc hp
    · rw [if_neg e1, if_neg hne]
      by_cases e2 : (i - 1) / 2 = pos
      · rw [if_pos e2]
        exact hm i hi hil e2
      · rw [if_neg e2, if_neg hpar]
        exact h1 i hi hil e1 e2
  · rw [swp_len] at hil
    rw [swp_at hc hpl, swp_at hc hpl, hp, if_pos rfl, if_neg (by omega), if_neg (by omega), ← hpar]
    exact h1 i hi hil (by omega) (by omega)
theorem heap_min {zs : List Z} (h : IsHeap zs) : ∀ i, i < zs.length → kLe (kAt zs 0) (kAt zs i) := by
  intro i
  induction i using Nat.strongRecOn with
  | ind i ih =>
    intro hi
    by_cases h0 : i = 0
    · subst h0
      exact kLe_refl _
    · exact kLe_trans (ih ((i - 1) / 2) (by omega) (by omega)) (h i (by omega) hi)
end TH
namespace TH
open PySem PySem.Calls PySem.SeqAt PySem.W PyProof.Rows L2
theorem entry_push : entryFor table "_heapq.heappush" = some Builtin.«_heapq.heappush» := entryFor_of_tree (by kernel_rfl)
theorem kind_push : builtinKind "_heapq.heappush" = none := by kernel_rfl
theorem plain_push : plainId "_heapq.heappush" = true := by decide +kernel
theorem args_push (a b : Value) : argsOk "_heapq.heappush" ⟨[a, b], []⟩ := by unfold argsOk; kernel_rfl
theorem entry_pop : entryFor table "_heapq.heappop" = some Builtin.«_heapq.heappop» := entryFor_of_tree (by kernel_rfl)
theorem kind_pop : builtinKind "_heapq.heappop" = none := by kernel_rfl
theorem plain_pop : plainId "_heapq.heappop" = true := by decide +kernel
theorem args_pop (a : Value) : argsOk "_heapq.heappop" ⟨[a], []⟩ := by unfold argsOk; kernel_rfl
theorem entry_sift : entryFor table "_heapq.heapify.sift" = some Builtin.«_heapq.heapify.sift» := entryFor_of_tree (by kernel_rfl)
theorem plain_sift : plainId "_heapq.heapify.sift" = true := by decide +kernel
open AutoSeq1 (wpAny_loadPart')
abbrev ZV (zs : List Z) : List V := zs.map fun z => V.ref z.1
def ZK (H : Hp) (zs : List Z) : Prop := ∀ z ∈ zs, H z.1 = some (.tup (z.2.map V.int))
theorem readsAll_ints (h : Heap) : ∀ (k : List Int) (its : List Value), Vals (k.map V.int) its → ∃ as, ReadsAll h its (k.map PyData.int) as
  | [], [], _ => ⟨[], .nil⟩
  | x :: k, u :: its, r => by
    cases r with
    | cons rx rr =>
      obtain ⟨t, rfl⟩ := rx
      obtain ⟨as, ha⟩ := readsAll_ints h k its rr
      exact ⟨_, .cons (.int x t) ha⟩
theorem alike_ints : ∀ k j : List Int, alikeAll (k.map PyData.int) (j.map PyData.int) = true
  | [], _ => by simp [alikeAll]
  | _ :: _, [] => by simp [alikeAll]
  | x :: k, y :: j => by
    have := alike_ints k j
    simp [alikeAll, alike, this]
theorem depth_ints : ∀ k : List Int, PyData.depthAll (k.map PyData.int) = 0
  | [] => rfl
  | x :: k => by
    have := depth_ints k
    simp [PyData.depthAll, PyData.depth, this]
section
variable {X : Cx} {pins : List (Addr × Obj)} {σ : L2.St} {H : Hp} {s : Shared}
theorem key_reads (I : Inv X pins σ H s) {t : Addr} {k : List Int} (h : H t = some (.tup (k.map V.int))) : ∃ as, Reads s.heap (.ref t) (kD k) as := by
  obtain ⟨_, its, r, o, ho, hc, n, hd⟩ := I.hok t _ h
  obtain ⟨as, ha⟩ := readsAll_ints s.heap k its r
  exact ⟨as, .tuple ho hc hd (by simpa using ha)⟩
theorem key_lt (I : Inv X pins σ H s) (hu : X.A.units + 64 < cLine) {t u : Addr} {k j : List Int} (h1 : H t = some (.tup (k.map V.int))) (h2 : H u = some (.tup (j.map V.int))) : RcLt X.A.in1 s (.ref t) (.ref u) (kLt k j) := by
  obtain ⟨as, ra⟩ := key_reads I h1
  obtain ⟨bs, rb⟩ := key_reads I h2
  refine rcLt_alike (kD k) (kD j) X.A.in1 s _ _ as bs ra rb (by simp only [kD, alike]; exact alike_ints k j) (by intro z; cases z) ?_
  have e : (kD k).depth = 1 := by simp only [kD, PyData.depth, depth_ints]
  rw [e]
  show X.A.units + 1 + _ < cLine
  have := Nat.min_le_left 1 (kD j).depth
  omega
theorem ZV_get {zs : List Z} {its : List Value} (r : Vals (ZV zs) its) {i : Nat} (hi : i < zs.length) : its.toArray[i]? = some (.ref (zs.getD i (0, [])).1) := by
  have e : (ZV zs)[i]? = some (V.ref (zs.getD i (0, [])).1) := by
    rw [List.getElem?_map, List.getD_eq_getElem?_getD, List.getElem?_eq_getElem hi]
    rfl
  obtain ⟨u, hu, ru⟩ := r.get e
  rw [List.getElem?_toArray, hu]
  exact congrArg some ru
theorem ZK_at {zs : List Z} (h : ZK H zs) {i : Nat} (hi : i < zs.length) : H (zs.getD i (0, [])).1 = some (.tup ((kAt zs i).map V.int)) := by
  refine h _ ?_
  rw [List.getD_eq_getElem?_getD, List.getElem?_eq_getElem hi]
  exact List.getElem_mem hi
theorem ZV_swp (zs : List Z) (i j : Nat) : ZV (swp zs i j) = ((ZV zs).set i (.ref (zs.getD j (0, [])).1)).set j (.ref (zs.getD i (0, [])).1) := by
  unfold swp ZV
  rw [List.map_set, List.map_set]
theorem past_swp {its : List Value} {n i j : Nat} {x y : Value} (h : its.length ≤ sizeLine) : (Obj.mapSeq (fun xs => (xs.setIfInBounds i y).setIfInBounds j x) { cls := .type "list", data := Data.seq its.toArray n }).data.pastItsLine = none :=
  pastItsLine_seq (by simp; omega)
theorem ZK_upd {zs zs' : List Z} {L : Addr} {xs : List V} {o : HO} (h : ZK H zs) (hL : H L = some (.lst xs)) (hp : ∀ z ∈ zs', z ∈ zs) : ZK (upd H L o) zs' := fun z hz => by
  have e := h z (hp z hz)
  rw [upd_ne (ne_of e hL (by intro q; cases q))]
  exact e
theorem swp_inv {zs : List Z} {L : Addr} {its : List Value} {n i j : Nat} {tk : Nat} (I : Inv X pins σ H s) (hL : H L = some (.lst (ZV zs))) (r : Vals (ZV zs) its) (hl : s.heap.get? L = some { cls := .type "list", data := .seq its.toArray n }) (hz : (ZV zs).length ≤ sizeLine) :
    Inv X pins σ (upd H L (.lst (ZV (swp zs i j)))) { s with heap := s.heap.update L (Obj.mapSeq fun xs => (xs.setIfInBounds i (.ref (zs.getD j (0, [])).1)).setIfInBounds j (.ref (zs.getD i (0, [])).1)), toks := tk } := by
  refine I.lset (its' := (its.set i (.ref (zs.getD j (0, [])).1)).set j (.ref (zs.getD i (0, [])).1)) hL hl (by simp) ?_ ?_
  · rw [ZV_swp]
    exact (r.set (show RelV (.ref _) (.ref _) from rfl) i).set (show RelV (.ref _) (.ref _) from rfl) j
  · rw [ZV_swp, List.length_set, List.length_set]
    exact hz
theorem sift_up (hu : X.A.units + 64 < cLine) {L : Addr} {v : Value} {R : Result → Shared → Prop} : ∀ (pos : Nat) {s : Shared} {H : Hp} {zs : List Z}, Inv X pins σ H s → H L = some (.lst (ZV zs)) → ZK H zs → pos < zs.length → UpI zs pos →
    (∀ zs' s', zs'.Perm zs → IsHeap zs' → Inv X pins σ (upd H L (.lst (ZV zs'))) s' → R (.ok (.ret v)) s') →
    codeAny (model X.prog X.w) X.A (.builtin "_heapq.heapify.sift" ⟨[.ref L, .bool false, .bool false, rawInt pos, rawInt 0, v, rawInt (-1)], []⟩) R s := by
  intro pos
  induction pos using Nat.strongRecOn with
  | ind pos ih =>
    intro s H zs I hL hK hp hU hR
    refine codeAny_builtin entry_sift ?_
    rw [Around.under_plainId plain_sift]
    obtain ⟨hz, its, n, r, hlen, hl⟩ := I.lstM hL
    have hp' : pos < its.length := by rw [← hlen]; simpa using hp
    have e1 := ZV_get r hp
    have stay : ∀ {s' : Shared}, Inv X pins σ H s' → Inv X pins σ (upd H L (.lst (ZV zs))) s' := fun {s'} J => by
      have : upd H L (.lst (ZV zs)) = H := by
        funext b
        unfold upd
        split
        · rename_i e
          rw [e, hL]
        · rfl
      rw [this]
      exact J
    by_cases h0 : 0 < pos
    · have hq : (pos - 1) / 2 < zs.length := by omega
      have e2 := ZV_get r hq
      have klt := key_lt I hu (ZK_at hK hp) (ZK_at hK hq)
      obtain ⟨hp_, g, d, tk, os⟩ := s
      have klt2 := fun E Q => klt X.prog X.w E Q
      wp_walk using wpAny_loadPart' hl
      rw [Int.toNat_natCast, e1]
      wp_walk using wpAny_loadPart' hl
      rw [e2]
      wp_walk using wpAny_loadPart' hl, klt2
      cases hk : kLt (kAt zs pos) (kAt zs ((pos - 1) / 2)) with
      | true =>
        rw [if_pos rfl]
        wp_walk using wpAny_loadPart' hl
        rw [e2]
        wp_walk using wpAny_loadPart' hl
        rw [e1]
        wp_walk using wpAny_loadPart' hl
        rw [past_swp (by rw [← hlen]; exact hz)]
        wp_walk using wpAny_loadPart' hl
        refine ⟨plainId_quiet plain_sift _, ?_⟩
        refine ih ((pos - 1) / 2) (by omega) (swp_inv (i := (pos - 1) / 2) (j := pos) (tk := tk) I hL r hl hz) upd_same (ZK_upd hK hL fun z hz => (swp_perm hq hp).mem_iff.mp hz) (by rw [swp_len]; exact hq) (up_step hU h0 hp hk) fun zs' s' pm hh J => ?_
        rw [upd_upd] at J
        exact hR zs' s' (pm.trans (swp_perm hq hp)) hh J
      | false =>
        rw [if_neg Bool.false_ne_true]
        wp_walk using wpAny_loadPart' hl
        exact hR zs _ (.refl _) (up_done hU (.inr hk)) (stay I)
    · obtain ⟨hp_, g, d, tk, os⟩ := s
      have h00 : pos = 0 := by omega
      wp_walk using wpAny_loadPart' hl
      exact hR zs _ (.refl _) (up_done hU (.inl h00)) (stay I)
theorem sift_dn (hu : X.A.units + 64 < cLine) {L : Addr} {v : Value} {R : Result → Shared → Prop} : ∀ (m pos : Nat) {s : Shared} {H : Hp} {zs : List Z}, m = zs.length - pos → Inv X pins σ H s → H L = some (.lst (ZV zs)) → ZK H zs → pos < zs.length → DnI zs pos →
    (∀ zs' s', zs'.Perm zs → IsHeap zs' → Inv X pins σ (upd H L (.lst (ZV zs'))) s' → R (.ok (.ret v)) s') →
    codeAny (model X.prog X.w) X.A (.builtin "_heapq.heapify.sift" ⟨[.ref L, .bool false, .bool true, rawInt pos, rawInt 0, v, rawInt (-1)], []⟩) R s := by
  intro m
  induction m using Nat.strongRecOn with
  | ind m ih =>
    intro pos s H zs hm I hL hK hp hD hR
    refine codeAny_builtin entry_sift ?_
    rw [Around.under_plainId plain_sift]
    obtain ⟨hz, its, n, r, hlen, hl⟩ := I.lstM hL
    have hll : its.length = zs.length := by rw [← hlen]; simp
    have e1 := ZV_get r hp
    have go : ∀ c, c < zs.length → (c - 1) / 2 = pos → 0 < c → (∀ i, 0 < i → i < zs.length → (i - 1) / 2 = pos → kLe (kAt zs c) (kAt zs i)) → ∀ tk', codeAny (model X.prog X.w) X.A (.builtin "_heapq.heapify.sift" ⟨[.ref L, .bool false, .bool true, rawInt c, rawInt 0, v, rawInt (-1)], []⟩) R
        { s with heap := s.heap.update L (Obj.mapSeq fun xs => (xs.setIfInBounds c (.ref (zs.getD pos (0, [])).1)).setIfInBounds pos (.ref (zs.getD c (0, [])).1)), toks := tk' } := fun c hc hpar hc0 hmin tk' => by
      refine ih (zs.length - c) (by omega) c (by rw [swp_len]) (swp_inv (i := c) (j := pos) I hL r hl hz) upd_same (ZK_upd hK hL fun z hz => (swp_perm hc hp).mem_iff.mp hz) (by rw [swp_len]; exact hc) (dn_step hD hc hpar hc0 hmin) fun zs' s' pm hh J => ?_
      rw [upd_upd] at J
      exact hR zs' s' (pm.trans (swp_perm hc hp)) hh J
    by_cases hlf : pos < zs.length / 2
    · have hl1 : 2 * pos + 1 < zs.length := by omega
      have e2 := ZV_get r hl1
      by_cases hr2 : 2 * pos + 1 + 1 < zs.length
      · have e3 := ZV_get r hr2
        have klt := key_lt I hu (ZK_at hK hl1) (ZK_at hK hr2)
        obtain ⟨hp_, g, d, tk, os⟩ := s
        have klt2 := fun E Q => klt X.prog X.w E Q
        wp_walk using wpAny_loadPart' hl
        rw [Int.toNat_natCast, e2]
        wp_walk using wpAny_loadPart' hl
        rw [e3]
        wp_walk using wpAny_loadPart' hl, klt2
        cases hk : kLt (kAt zs (2 * pos + 1)) (kAt zs (2 * pos + 1 + 1)) with
        | true =>
          rw [if_neg (show ¬ (!true) = true by decide)]
          wp_walk using wpAny_loadPart' hl
          rw [e2]
          wp_walk using wpAny_loadPart' hl
          rw [e1]
          wp_walk using wpAny_loadPart' hl
          rw [past_swp (by rw [← hlen]; exact hz)]
          wp_walk using wpAny_loadPart' hl
          refine ⟨plainId_quiet plain_sift _, go (2 * pos + 1) hl1 (by omega) (by omega) (fun i hi0 hil hpar => ?_) tk⟩
          have : i = 2 * pos + 1 ∨ i = 2 * pos + 1 + 1 := by omega
          rcases this with e | e <;> rw [e]
          · exact kLe_refl _
          · exact kLe_of_lt hk
        | false =>
          rw [if_pos (show (!false) = true by decide)]
          wp_walk using wpAny_loadPart' hl
          rw [e3]
          wp_walk using wpAny_loadPart' hl
          rw [e1]
          wp_walk using wpAny_loadPart' hl
          rw [past_swp (by rw [← hlen]; exact hz)]
          wp_walk using wpAny_loadPart' hl
          refine ⟨plainId_quiet plain_sift _, go (2 * pos + 1 + 1) hr2 (by omega) (by omega) (fun i hi0 hil hpar => ?_) tk⟩
          have : i = 2 * pos + 1 ∨ i = 2 * pos + 1 + 1 := by omega
          rcases this with e | e <;> rw [e]
          · exact hk
          · exact kLe_refl _
      · obtain ⟨hp_, g, d, tk, os⟩ := s
        wp_walk using wpAny_loadPart' hl
        rw [Int.toNat_natCast, e2]
        wp_walk using wpAny_loadPart' hl
        rw [e1]
        wp_walk using wpAny_loadPart' hl
        rw [past_swp (by rw [← hlen]; exact hz)]
        wp_walk using wpAny_loadPart' hl
        refine ⟨plainId_quiet plain_sift _, go (2 * pos + 1) hl1 (by omega) (by omega) (fun i hi0 hil hpar => ?_) tk⟩
        have : i = 2 * pos + 1 := by omega
        rw [this]
        exact kLe_refl _
    · obtain ⟨hp_, g, d, tk, os⟩ := s
      wp_walk using wpAny_loadPart' hl
      refine ⟨plainId_quiet plain_sift _, ?_⟩
      rw [Int.toNat_natCast]
      exact sift_up hu pos I hL hK hp (dn_leaf hD (by omega)) hR
end
end TH

set_option Elab.async false
set_option linter.all false
set_option maxRecDepth 100000
set_option maxHeartbeats 4000000
namespace TH
open PySem PySem.Calls PySem.SeqAt PySem.W PyProof.Rows L2
open AutoSeq1 (wpAny_loadPart')
section
variable {X : Cx} {pins : List (Addr × Obj)} {σ : L2.St} {H : Hp} {s : Shared}
/-! ### the two calls -/
def rPush : List V → Hp → VK → Prop := fun vs H Q => ∃ (L t : Addr) (k : List Int) (zs : List Z), vs = [.ref L, .ref t] ∧ H L = some (.lst (ZV zs)) ∧ ZK H zs ∧ H t = some (.tup (k.map V.int)) ∧ IsHeap zs ∧ zs.length < 100000000000 ∧ zs.length < sizeLine ∧
  ∀ zs', zs'.Perm ((t, k) :: zs) → IsHeap zs' → Q .non (upd H L (.lst (ZV zs')))
def rPop : List V → Hp → VK → Prop := fun vs H Q => ∃ (L : Addr) (zs : List Z), vs = [.ref L] ∧ H L = some (.lst (ZV zs)) ∧ ZK H zs ∧ IsHeap zs ∧ zs ≠ [] ∧
  ∀ z zs', (z :: zs').Perm zs → IsHeap zs' → (∀ y ∈ zs', kLe z.2 y.2) → Q (.ref z.1) (upd H L (.lst (ZV zs')))
/-- a built-in function called, by what its body does there -/
theorem call_fn {prog : Program} {w : World} {A : Around} {s : Shared} {id : String} {B : Builtin} {args : List Value} {Q E : Value → Shared → Prop} (kind : builtinKind id = none) (plain : plainId id = true) (entry : entryFor table id = some B) (ok : argsOk id ⟨args, []⟩)
    (g : wpAny (model prog w) A.in1 (B ⟨args, []⟩) (fun fin s' => match fin with | .done f => wants Q E (.ok f) s' | .again c' => c'.quiet = true ∧ codeAny (model prog w) A c' (wants Q E) s') (fun e s' => wants Q E (.error e) s') s) :
    wpAny (model prog w) A (call (.builtin id) args) Q E s := by
  refine wpAny_call (codeAny_call_builtin plain entry ?_)
  simp only [checkBuiltinCall, kind]
  cases hs : Manifest.signature? id with
  | none => exact wpAny_pure g
  | some sig =>
    simp only [argsOk, hs] at ok
    have e : Bind.checkArgs id sig ⟨args, []⟩ = pure () := ok
    show wpAny _ _ (Bind.checkArgs id sig ⟨args, []⟩) _ _ s
    rw [e]
    exact wpAny_pure g
theorem heap_push {zs : List Z} (h : IsHeap zs) (z : Z) : UpI (zs ++ [z]) zs.length := by
  have at1 : ∀ i, i < zs.length → kAt (zs ++ [z]) i = kAt zs i := fun i hi => by
    unfold kAt
    rw [List.getD_eq_getElem?_getD, List.getD_eq_getElem?_getD, List.getElem?_append_left hi]
  refine ⟨fun i h0 hl hne => ?_, fun _ i h0 hl e => ?_⟩
  · simp at hl
    rw [at1 i (by omega), at1 _ (by omega)]
    exact h i h0 (by omega)
  · simp at hl
    omega
theorem heap_drop {zs : List Z} (h : IsHeap zs) (h2 : 2 ≤ zs.length) : DnI (zs.dropLast.set 0 (zs.getD (zs.length - 1) (0, []))) 0 := by
  have at1 : ∀ i, 0 < i → i < zs.length - 1 → kAt (zs.dropLast.set 0 (zs.getD (zs.length - 1) (0, []))) i = kAt zs i := fun i h0 hi => by
    unfold kAt
    rw [List.getD_eq_getElem?_getD, List.getElem?_set_ne (by omega), List.getD_eq_getElem?_getD, List.getElem?_dropLast, if_pos hi]
  refine ⟨fun i h0 hl hne hpar => ?_, fun z => absurd z (by omega)⟩
  simp at hl
  rw [at1 i h0 hl, at1 _ (by omega) (by omega)]
  exact h i h0 (by omega)
theorem drop_perm {zs : List Z} (h2 : 2 ≤ zs.length) : (zs.getD 0 (0, []) :: zs.dropLast.set 0 (zs.getD (zs.length - 1) (0, []))).Perm zs := by
  match zs, h2 with
  | a :: b :: r, _ =>
    obtain ⟨m, l, e⟩ : ∃ m l, b :: r = m ++ [l] := ⟨(b :: r).dropLast, (b :: r).getLast (by simp), (List.dropLast_concat_getLast (by simp)).symm⟩
    rw [e]
    have e1 : (a :: (m ++ [l])).dropLast = a :: m := by
      rw [← List.cons_append, List.dropLast_concat]
    have e2 : (a :: (m ++ [l])).getD ((a :: (m ++ [l])).length - 1) (0, []) = l := by
      rw [List.getD_eq_getElem?_getD]
      simp
    rw [e1, e2, List.set_cons_zero]
    show (a :: l :: m).Perm _
    exact (List.perm_append_singleton l m).symm.cons a
theorem call_push (hu : X.A.units + 64 < cLine) : CallR X (.builtin "_heapq.heappush") rPush := by
  intro pins s σ H vs us Q I r h
  obtain ⟨L, t, k, zs, rfl, hL, hK, ht, hh, _, hzl, q⟩ := h
  cases r with
  | cons r1 r =>
    cases r with
    | cons r2 r =>
      cases r
      obtain rfl : _ = Value.ref L := r1
      obtain rfl : _ = Value.ref t := r2
      obtain ⟨hz, its, n, r, hlen, hl⟩ := I.lstM hL
      have hll : its.length = zs.length := by rw [← hlen]; simp
      have e0 : ZV (zs ++ [(t, k)]) = ZV zs ++ [V.ref t] := by simp
      have I1 := fun tk => I.lset (its' := its ++ [.ref t]) (ys := ZV (zs ++ [(t, k)])) (f := fun x => x.push (.ref t)) (t' := tk) hL hl (by simp) (by rw [e0]; exact r.append (.cons (show RelV (.ref t) (.ref t) from rfl) .nil)) (by simp; omega)
      have hl1 := IsL.update hl (fun x : Array Value => x.push (.ref t))
      refine call_fn kind_push plain_push entry_push (args_push _ _) ?_
      obtain ⟨hp_, g, d, tk, os⟩ := s
      have f2 := AutoSeq1.sub_list_list
      wp_walk using wpAny_loadPart' hl
      rw [pastItsLine_seq (by simp; omega)]
      wp_walk using wpAny_loadPart' hl1
      refine ⟨plainId_quiet plain_sift _, ?_⟩
      rw [show (its.toArray.push (Value.ref t)).size - 1 = zs.length by simp; omega]
      refine sift_up hu zs.length (I1 tk) upd_same (fun z hz => ?_) (by simp) (heap_push hh (t, k)) fun zs' s' pm hh' J => ?_
      · rcases List.mem_append.mp hz with hz | hz
        · exact ZK_upd hK hL (fun y hy => hy) z hz
        · rw [List.mem_singleton] at hz
          subst hz
          rw [upd_ne (ne_of ht hL (by intro q; cases q))]
          exact ht
      · rw [upd_upd] at J
        exact ⟨.non, _, J, rfl, q zs' (pm.trans (List.perm_append_singleton (t, k) zs)) hh'⟩
theorem past_set {its : List Value} {m i : Nat} {x : Value} (h : its.length ≤ sizeLine) : (Obj.mapSeq (fun xs => xs.setIfInBounds i x) { cls := Value.type "list", data := Data.seq its.toArray m }).data.pastItsLine = none :=
  pastItsLine_seq (by simp; omega)
theorem call_pop (hu : X.A.units + 64 < cLine) : CallR X (.builtin "_heapq.heappop") rPop := by
  intro pins s σ H vs us Q I r h
  obtain ⟨L, zs, rfl, hL, hK, hh, hne, q⟩ := h
  cases r with
  | cons r1 r =>
    cases r
    obtain rfl : _ = Value.ref L := r1
    obtain ⟨hz, its, n, r, hlen, hl⟩ := I.lstM hL
    have hll : its.length = zs.length := by rw [← hlen]; simp
    have h0 : 0 < zs.length := List.length_pos_iff.mpr hne
    have e0 := ZV_get r h0
    have eb : its.toArray.back? = some (.ref (zs.getD (zs.length - 1) (0, [])).1) := by
      rw [Array.back?, List.size_toArray, hll]
      exact ZV_get r (by omega)
    have ep : ZV zs.dropLast = (ZV zs).dropLast := by simp [ZV, List.map_dropLast]
    have rp : Vals (ZV zs.dropLast) its.dropLast := by
      rw [ep]
      have := r.take (zs.length - 1)
      rw [List.dropLast_eq_take, List.dropLast_eq_take, List.length_map, hll]
      exact this
    have I1 := fun tk => I.lset (its' := its.dropLast) (ys := ZV zs.dropLast) (f := fun x => x.pop) (t' := tk) hL hl (by simp) rp (by simp; simp at hz; omega)
    have hl1 := IsL.update hl (fun x : Array Value => x.pop)
    refine call_fn kind_pop plain_pop entry_pop (args_pop _) ?_
    obtain ⟨hp_, g, d, tk, os⟩ := s
    have f2 := AutoSeq1.sub_list_list
    wp_walk using wpAny_loadPart' hl
    rw [eb]
    wp_walk using wpAny_loadPart' hl
    rw [pastItsLine_seq (by simp; simp at hz; omega)]
    by_cases h1 : zs.length = 1
    · obtain ⟨z, rfl⟩ : ∃ z, zs = [z] := by
        match zs, h1 with
        | [z], _ => exact ⟨z, rfl⟩
      have hs : (its.toArray.size == 1) = true := by simp [hll]
      wp_walk using wpAny_loadPart' hl1
      exact ⟨.ref z.1, _, I1 tk, rfl, q z [] (.refl _) (fun i h0 hl => absurd hl (by simp)) (by simp)⟩
    · have hs : (its.toArray.size == 1) = false := by simp [hll]; exact h1
      wp_walk using wpAny_loadPart' hl1
      rw [e0]
      have h2 : 2 ≤ zs.length := by omega
      have e9 : ZV (zs.dropLast.set 0 (zs.getD (zs.length - 1) (0, []))) = (ZV zs.dropLast).set 0 (.ref (zs.getD (zs.length - 1) (0, [])).1) := by
        unfold ZV
        rw [List.map_set]
      rw [List.pop_toArray] at hl1
      have I2 := fun tk' => (I1 tk).lset (its' := its.dropLast.set 0 (.ref (zs.getD (zs.length - 1) (0, [])).1)) (ys := ZV (zs.dropLast.set 0 (zs.getD (zs.length - 1) (0, [])))) (f := fun x => x.setIfInBounds 0 (.ref (zs.getD (zs.length - 1) (0, [])).1)) (t' := tk') upd_same hl1 (by simp)
        (by rw [e9]; exact rp.set (show RelV (.ref _) (.ref _) from rfl) 0) (by simp; simp at hz; omega)
      wp_walk using wpAny_loadPart' hl1
      rw [past_set (by simp; simp at hz; omega)]
      wp_walk using wpAny_loadPart' hl1
      refine ⟨plainId_quiet plain_sift _, ?_⟩
      have pm := drop_perm h2
      refine sift_dn hu _ 0 rfl (I2 tk) upd_same (fun z hz => ?_) (by simp; omega) (heap_drop hh h2) fun zs' s' pm' hh' J => ?_
      · rw [upd_upd]
        exact ZK_upd hK hL (fun y hy => pm.mem_iff.mp (List.mem_cons_of_mem _ hy)) z hz
      · rw [upd_upd, upd_upd] at J
        refine ⟨.ref (zs.getD 0 (0, [])).1, _, J, rfl, q (zs.getD 0 (0, [])) zs' ((pm'.cons _).trans pm) hh' fun y hy => ?_⟩
        have hy : y ∈ zs := pm.mem_iff.mp (List.mem_cons_of_mem _ (pm'.mem_iff.mp hy))
        obtain ⟨i, hi, e⟩ := List.getElem_of_mem hy
        have := heap_min hh i hi
        unfold kAt at this
        rw [List.getD_eq_getElem?_getD (l := zs) (i := i), List.getElem?_eq_getElem hi, e] at this
        exact this
end
end TH

set_option Elab.async false
set_option linter.all false
set_option maxRecDepth 100000
set_option maxHeartbeats 4000000
namespace Toll
open PySem L2
/-! ### a net whose roads are as put -/
structure NetOk (N : NetD) : Prop where
  nd : (N.gates.map (·.1)).Nodup
  mi : ∀ r ∈ N.roads, 1 ≤ r.mi
  tl : ∀ r ∈ N.roads, 0 ≤ r.tl
  o1 : ∀ r ∈ N.roads, seesOf N.gates r.one ≠ none
  o2 : ∀ r ∈ N.roads, seesOf N.gates r.other ≠ none
/-- a drive of one road or more -/
inductive Drv (N : NetD) (g : Str) : Str → Int → Int → List Int → Prop where
  | one {i : Nat} {r : RoadD} (h : N.roads[i]? = some r) (ho : r.op = true) (e : r.one = g) : Drv N g r.other r.mi r.tl [(i : Int)]
  | more {v : Str} {m t : Int} {rs : List Int} {i : Nat} {r : RoadD} (d : Drv N g v m t rs) (hb : seesOf N.gates v = some false) (h : N.roads[i]? = some r) (ho : r.op = true) (e : r.one = v) : Drv N g r.other (m + r.mi) (t + r.tl) (rs ++ [(i : Int)])
/-- the road i goes on from the row at b -/
structure Goes (N : NetD) (limit : Int) (rows : List Row) (b i : Nat) (rb : Row) (r : RoadD) : Prop where
  hb : rows[b]? = some rb
  hr : N.roads[i]? = some r
  op : r.op = true
  fr : r.one = rb.nm
  bl : b = 0 ∨ seesOf N.gates rb.nm = some false
  lm : rb.mi + r.mi ≤ limit
def Dom (rows : List Row) (w : Str) (m t : Int) : Prop := ∃ j row, 0 < j ∧ rows[j]? = some row ∧ row.nm = w ∧ row.mi ≤ m ∧ row.tl ≤ t
def IsKey (N : NetD) (rb : Row) (r : RoadD) (b i : Nat) (k : List Int) : Prop := ∃ (t : Nat) (c : Bool), N.gates[t]? = some (r.other, c) ∧ k = [rb.tl + r.tl, rb.mi + r.mi, (t : Int), (i : Int), (b : Int)]
/-- a row is no later than a key: toll, minutes, turn -/
def RowKey (N : NetD) (row : Row) (k : List Int) : Prop := ∃ (t : Nat) (c : Bool) (tl mi tn rd bk : Int), N.gates[t]? = some (row.nm, c) ∧ k = [tl, mi, tn, rd, bk] ∧ (row.tl < tl ∨ row.tl = tl ∧ (row.mi < mi ∨ row.mi = mi ∧ (t : Int) ≤ tn))
def RowRow (N : NetD) (r1 r2 : Row) : Prop := ∃ (t1 t2 : Nat) (c1 c2 : Bool), N.gates[t1]? = some (r1.nm, c1) ∧ N.gates[t2]? = some (r2.nm, c2) ∧ (r1.tl < r2.tl ∨ r1.tl = r2.tl ∧ (r1.mi < r2.mi ∨ r1.mi = r2.mi ∧ t1 ≤ t2))
structure RInv (N : NetD) (g : Str) (limit : Int) (rows : List Row) (ks : List (List Int)) : Prop where
  r0 : rows[0]? = some ⟨g, 0, 0, -1, -1⟩
  r1 : ∀ k row, 0 < k → rows[k]? = some row → ∃ b i rb r, b < k ∧ Goes N limit rows b i rb r ∧ row = ⟨r.other, rb.mi + r.mi, rb.tl + r.tl, (i : Int), (b : Int)⟩
  q1 : ∀ k ∈ ks, ∃ b i rb r, Goes N limit rows b i rb r ∧ IsKey N rb r b i k
  srt : ∀ j k rj rk, 0 < j → j < k → rows[j]? = some rj → rows[k]? = some rk → RowRow N rj rk
  low : ∀ k row key, 0 < k → rows[k]? = some row → key ∈ ks → RowKey N row key
  dec : ∀ j k rj rk, 0 < j → j < k → rows[j]? = some rj → rows[k]? = some rk → rj.nm = rk.nm → rk.mi < rj.mi
def Cov (N : NetD) (limit : Int) (rows : List Row) (ks : List (List Int)) (n : Nat) : Prop := ∀ b i rb r, b < n → Goes N limit rows b i rb r → Dom rows r.other (rb.mi + r.mi) (rb.tl + r.tl) ∨ ∃ k ∈ ks, IsKey N rb r b i k
theorem get_app {α : Type} {l : List α} {x : α} {i : Nat} {y : α} (h : (l ++ [x])[i]? = some y) : l[i]? = some y ∨ (i = l.length ∧ y = x) := by
  rw [List.getElem?_append] at h
  split at h
  · exact .inl h
  · refine .inr ?_
    have hi : i - l.length = 0 := by
      have := (List.getElem?_eq_some_iff.mp h).1
      simp at this
      omega
    rw [hi] at h
    exact ⟨by omega, by simpa using h.symm⟩
theorem get_app1 {α : Type} {l : List α} {x : α} {i : Nat} {y : α} (h : l[i]? = some y) : (l ++ [x])[i]? = some y := by
  rw [List.getElem?_append_left (List.getElem?_eq_some_iff.mp h).1]
  exact h
theorem Goes.app {N : NetD} {limit : Int} {rows : List Row} {b i : Nat} {rb : Row} {r : RoadD} (h : Goes N limit rows b i rb r) (x : Row) : Goes N limit (rows ++ [x]) b i rb r := ⟨get_app1 h.hb, h.hr, h.op, h.fr, h.bl, h.lm⟩
theorem Goes.back {N : NetD} {limit : Int} {rows : List Row} {b i : Nat} {rb : Row} {r : RoadD} {x : Row} (h : Goes N limit (rows ++ [x]) b i rb r) (hb : b < rows.length) : Goes N limit rows b i rb r :=
  ⟨by have := h.hb; rw [List.getElem?_append_left hb] at this; exact this, h.hr, h.op, h.fr, h.bl, h.lm⟩
theorem Dom.app {rows : List Row} {w : Str} {m t : Int} (h : Dom rows w m t) (x : Row) : Dom (rows ++ [x]) w m t := by
  obtain ⟨j, row, h0, e, a, b, c⟩ := h
  exact ⟨j, row, h0, get_app1 e, a, b, c⟩
theorem nodup_at {gs : List (Str × Bool)} (nd : (gs.map (·.1)).Nodup) {s t : Nat} {nm : Str} {c d : Bool} (h1 : gs[s]? = some (nm, c)) (h2 : gs[t]? = some (nm, d)) : s = t := by
  obtain ⟨l1, e1⟩ := List.getElem?_eq_some_iff.mp h1
  obtain ⟨l2, e2⟩ := List.getElem?_eq_some_iff.mp h2
  exact (List.getElem_inj (xs := gs.map fun q : Str × Bool => q.1) (i := s) (j := t) (h₀ := by simpa using l1) (h₁ := by simpa using l2) nd).mp (by simp [e1, e2])
theorem turn_of {gs : List (Str × Bool)} {nm : Str} (h : seesOf gs nm ≠ none) : ∃ (t : Nat) (c : Bool), gs[t]? = some (nm, c) := by
  cases e : seesOf gs nm with
  | none => exact absurd e h
  | some c =>
    obtain ⟨j, hj, _⟩ := seesOf_at e
    exact ⟨j, c, hj⟩
theorem sees_at {gs : List (Str × Bool)} (nd : (gs.map (·.1)).Nodup) {t : Nat} {nm : Str} {c : Bool} (h : gs[t]? = some (nm, c)) : seesOf gs nm = some c := by
  cases e : seesOf gs nm with
  | none => exact absurd e (sees_mem (List.mem_of_getElem? h))
  | some d =>
    obtain ⟨j, hj, _⟩ := seesOf_at e
    have := nodup_at nd hj h
    subst this
    rw [h] at hj
    have := Option.some.inj hj
    simp at this
    rw [this]
section
variable {N : NetD} {g : Str} {limit : Int} {rows : List Row} {ks ks' : List (List Int)} {k : List Int}
/-- fewer keys -/
theorem RInv.sub (h : RInv N g limit rows ks) (hs : ∀ x ∈ ks', x ∈ ks) : RInv N g limit rows ks' := ⟨h.r0, h.r1, fun k hk => h.q1 k (hs k hk), h.srt, fun j row key a b c => h.low j row key a b (hs key c), h.dec⟩
theorem RInv.lenPos (h : RInv N g limit rows ks) : 0 < rows.length := (List.getElem?_eq_some_iff.mp h.r0).1
/-- the least key taken: what it stands for is a row beaten, or a new one -/
theorem cov_skip {b : Nat} (h : RInv N g limit rows (k :: ks)) (c : Cov N limit rows (k :: ks) rows.length) {tl mi tn rd bk : Int} (hk : k = [tl, mi, tn, rd, bk]) {j : Nat} {row : Row} (h0 : 0 < j) (hj : rows[j]? = some row) {cs : Bool} (ht : N.gates[tn.toNat]? = some (row.nm, cs)) (nd : (N.gates.map (·.1)).Nodup) (hm : row.mi ≤ mi) :
    Cov N limit rows ks rows.length := fun b i rb r hb hg => by
  rcases c b i rb r hb hg with d | ⟨q, hq, t, d, hd, e⟩
  · exact .inl d
  · rcases List.mem_cons.mp hq with z | z
    · rw [z, hk] at e
      simp only [List.cons.injEq, and_true] at e
      obtain ⟨e1, e2, e3, e4, e5⟩ := e
      obtain ⟨_, _, tl', mi', tn', rd', bk', _, ek, hle⟩ := h.low j row k h0 hj (List.mem_cons_self ..)
      rw [hk] at ek
      simp only [List.cons.injEq, and_true] at ek
      refine .inl ⟨j, row, h0, hj, ?_, by omega, by omega⟩
      rw [e3, Int.toNat_natCast, hd] at ht
      have := Option.some.inj ht
      simp at this
      exact this.1.symm
    · exact .inr ⟨q, z, t, d, hd, e⟩
/-- keys in order of toll, minutes, turn -/
theorem key3 {tl mi tn rd bk tl' mi' tn' rd' bk' : Int} (h : TH.kLe [tl, mi, tn, rd, bk] [tl', mi', tn', rd', bk']) : tl < tl' ∨ tl = tl' ∧ (mi < mi' ∨ mi = mi' ∧ tn ≤ tn') := by
  rw [TH.kLe_cons, TH.kLe_cons, TH.kLe_cons] at h
  omega
theorem IsKey.shape {rb : Row} {r : RoadD} {b i : Nat} (h : IsKey N rb r b i k) : ∃ t : Nat, k = [rb.tl + r.tl, rb.mi + r.mi, (t : Int), (i : Int), (b : Int)] := by
  obtain ⟨t, c, _, e⟩ := h
  exact ⟨t, e⟩
/-- the new row for the least key -/
theorem RInv.new (ok : NetOk N) (h : RInv N g limit rows (k :: ks)) {tl mi rd bk : Int} {tn : Nat} {nm : Str} {cs : Bool} (hk : k = [tl, mi, (tn : Int), rd, bk]) (hn : N.gates[tn]? = some (nm, cs)) (hle : ∀ y ∈ ks, TH.kLe k y)
    (hd : ∀ j row, 0 < j → rows[j]? = some row → row.nm = nm → mi < row.mi) : RInv N g limit (rows ++ [⟨nm, mi, tl, rd, bk⟩]) ks ∧ (∀ r ∈ N.roads, r.op = true → r.one = nm → ∀ (t : Nat) d, N.gates[t]? = some (r.other, d) → ∀ i : Int, ∀ b : Int, ∀ j row, 0 < j → (rows ++ [⟨nm, mi, tl, rd, bk⟩])[j]? = some row → RowKey N row [tl + r.tl, mi + r.mi, (t : Int), i, b]) := by
  obtain ⟨b, i, rb, r, hg, t, c, ht, ek⟩ := h.q1 k (List.mem_cons_self ..)
  have ek' := ek
  rw [hk] at ek
  simp only [List.cons.injEq, and_true] at ek
  obtain ⟨e1, e2, e3, e4, e5⟩ := ek
  have e3 : tn = t := by omega
  subst e3
  rw [hn] at ht
  have ht := Option.some.inj ht
  simp only [Prod.mk.injEq] at ht
  have hpos := h.lenPos
  have hbl : b < rows.length := (List.getElem?_eq_some_iff.mp hg.hb).1
  have low1 : ∀ j row, 0 < j → rows[j]? = some row → RowRow N row ⟨nm, mi, tl, rd, bk⟩ := fun j row h0 hj => by
    obtain ⟨t1, c1, a1, a2, a3, a4, a5, g1, ek1, hl⟩ := h.low j row k h0 hj (List.mem_cons_self ..)
    rw [hk] at ek1
    simp only [List.cons.injEq, and_true] at ek1
    exact ⟨t1, tn, c1, cs, g1, hn, by show row.tl < tl ∨ row.tl = tl ∧ (row.mi < mi ∨ row.mi = mi ∧ t1 ≤ tn); omega⟩
  refine ⟨⟨get_app1 h.r0, fun j row h0 hj => ?_, fun y hy => ?_, fun j l rj rl h0 hjl hj hl => ?_, fun j row key h0 hj hy => ?_, fun j l rj rl h0 hjl hj hl hnm => ?_⟩, fun r' hr' hop hone t' d' ht' i' b' j row h0 hj => ?_⟩
  · rcases get_app hj with e | ⟨e, er⟩
    · obtain ⟨b', i', rb', r', hb', hg', e'⟩ := h.r1 j row h0 e
      exact ⟨b', i', rb', r', hb', hg'.app _, e'⟩
    · exact ⟨b, i, rb, r, by omega, hg.app _, by rw [er, e1, e2, e4, e5, ht.1]⟩
  · obtain ⟨b', i', rb', r', hg', hk'⟩ := h.q1 y (List.mem_cons_of_mem _ hy)
    exact ⟨b', i', rb', r', hg'.app _, hk'⟩
  · rcases get_app hl with el | ⟨el, er⟩
    · rcases get_app hj with ej | ⟨ej, _⟩
      · exact h.srt j l rj rl h0 hjl ej el
      · have := (List.getElem?_eq_some_iff.mp el).1
        omega
    · rcases get_app hj with ej | ⟨ej, _⟩
      · rw [er]
        exact low1 j rj h0 ej
      · omega
  · rcases get_app hj with ej | ⟨ej, er⟩
    · exact h.low j row key h0 ej (List.mem_cons_of_mem _ hy)
    · obtain ⟨b', i', rb', r', hg', t', c', ht', ek1⟩ := h.q1 key (List.mem_cons_of_mem _ hy)
      have := hle key hy
      rw [hk, ek1] at this
      have := key3 this
      refine ⟨tn, cs, _, _, _, _, _, ?_, ek1, ?_⟩
      · rw [er]
        exact hn
      · rw [er]
        exact this
  · rcases get_app hl with el | ⟨el, er⟩
    · rcases get_app hj with ej | ⟨ej, _⟩
      · exact h.dec j l rj rl h0 hjl ej el hnm
      · have := (List.getElem?_eq_some_iff.mp el).1
        omega
    · rcases get_app hj with ej | ⟨ej, _⟩
      · rw [er] at hnm ⊢
        exact hd j rj h0 ej hnm
      · omega
  · have m1 := ok.mi r' hr'
    have m2 := ok.tl r' hr'
    rcases get_app hj with ej | ⟨ej, er⟩
    · obtain ⟨t1, t2, c1, c2, g1, g2, hl⟩ := low1 j row h0 ej
      refine ⟨t1, c1, _, _, _, _, _, g1, rfl, ?_⟩
      have hl : row.tl < tl ∨ row.tl = tl ∧ (row.mi < mi ∨ row.mi = mi ∧ t1 ≤ t2) := hl
      omega
    · refine ⟨tn, cs, _, _, _, _, _, by rw [er]; exact hn, rfl, ?_⟩
      rw [er]
      show tl < tl + r'.tl ∨ tl = tl + r'.tl ∧ (mi < mi + r'.mi ∨ mi = mi + r'.mi ∧ _)
      omega
/-- every drive within the limit is beaten by a row, or by what is still to come -/
theorem drv_cov (h : RInv N g limit rows ks) (c : Cov N limit rows ks rows.length) (ok : NetOk N) {w : Str} {m t : Int} {rs : List Int} (d : Drv N g w m t rs) (hm : m ≤ limit) :
    Dom rows w m t ∨ ∃ key ∈ ks, ∃ tl mi tn rd bk, key = [tl, mi, tn, rd, bk] ∧ (tl < t ∨ tl = t ∧ mi ≤ m) := by
  induction d with
  | @one i r hr ho e =>
    have hg : Goes N limit rows 0 i ⟨g, 0, 0, -1, -1⟩ r := ⟨h.r0, hr, ho, e, .inl rfl, by show 0 + r.mi ≤ limit; omega⟩
    rcases c 0 i _ r h.lenPos hg with d | ⟨key, hkey, t, c, _, e⟩
    · obtain ⟨j, row, h0, hj, a1, a2, a3⟩ := d
      exact .inl ⟨j, row, h0, hj, a1, by simpa using a2, by simpa using a3⟩
    · refine .inr ⟨key, hkey, _, _, _, _, _, e, ?_⟩
      show 0 + r.tl < r.tl ∨ 0 + r.tl = r.tl ∧ 0 + r.mi ≤ r.mi
      omega
  | @more v m' t' rs' i r d hb hr ho e ih =>
    have m1 := ok.mi r (List.mem_of_getElem? hr)
    have m2 := ok.tl r (List.mem_of_getElem? hr)
    rcases ih (by omega) with ⟨j, row, h0, hj, a1, a2, a3⟩ | ⟨key, hkey, tl, mi, tn, rd, bk, ek, hle⟩
    · have hg : Goes N limit rows j i row r := ⟨hj, hr, ho, by rw [a1]; exact e, .inr (by rw [a1]; exact hb), by omega⟩
      rcases c j i row r (List.getElem?_eq_some_iff.mp hj).1 hg with ⟨j', row', h0', hj', b1, b2, b3⟩ | ⟨key, hkey, t, c, _, e⟩
      · exact .inl ⟨j', row', h0', hj', b1, by omega, by omega⟩
      · refine .inr ⟨key, hkey, _, _, _, _, _, e, by omega⟩
    · exact .inr ⟨key, hkey, _, _, _, _, _, ek, by omega⟩
end
end Toll

set_option Elab.async false
set_option linter.all false
set_option maxRecDepth 100000
set_option maxHeartbeats 4000000
namespace Toll
open PySem L2
theorem nodup_lt : ∀ (n : Nat) (l : List Nat), l.Nodup → (∀ x ∈ l, x < n) → l.length ≤ n
  | 0, l, _, h => by
    cases l with
    | nil => simp
    | cons a l => exact absurd (h a (by simp)) (by omega)
  | n + 1, l, nd, h => by
    by_cases m : n ∈ l
    · have ih := nodup_lt n (l.erase n) (nd.erase n) fun x hx => by
        have h1 := (List.Nodup.mem_erase_iff nd).mp hx
        have := h x h1.2
        omega
      have := List.length_erase_of_mem m
      have : 0 < l.length := List.length_pos_of_mem m
      omega
    · have := nodup_lt n l nd fun x hx => by
        have := h x hx
        have : x ≠ n := fun e => m (by rw [← e]; exact hx)
        omega
      omega
section
variable {N : NetD} {g : Str} {limit : Int} {rows : List Row} {ks ks' : List (List Int)} {k : List Int}
theorem RInv.backs (h : RInv N g limit rows ks) : Backs rows := fun i r hr => by
  by_cases h0 : i = 0
  · subst h0
    rw [h.r0] at hr
    have := (Option.some.inj hr).symm
    subst this
    exact ⟨by show (-1 : Int) < 0; decide, .inl rfl⟩
  · obtain ⟨b, j, rb, rr, hb, _, e⟩ := h.r1 i r (by omega) hr
    subst e
    exact ⟨by show (b : Int) < i; omega, .inr (by show (0 : Int) ≤ b; omega)⟩
theorem RInv.drv (h : RInv N g limit rows ks) : ∀ (k : Nat) (row : Row), 0 < k → rows[k]? = some row → Drv N g row.nm row.mi row.tl (roadsOf rows (k : Int)) ∧ row.mi ≤ limit := by
  intro k
  induction k using Nat.strongRecOn with
  | ind k ih =>
    intro row h0 hk
    obtain ⟨b, i, rb, r, hb, hg, e⟩ := h.r1 k row h0 hk
    have st := roadsOf_step h.backs (p := (k : Int)) (by omega) (r := row) (by rw [Int.toNat_natCast]; exact hk)
    rw [st]
    subst e
    refine ⟨?_, hg.lm⟩
    by_cases hb0 : b = 0
    · subst hb0
      have e0 := hg.hb
      rw [h.r0] at e0
      have e0 := (Option.some.inj e0).symm
      subst e0
      show Drv N g r.other (0 + r.mi) (0 + r.tl) (roadsOf rows ((0 : Nat) : Int) ++ [(i : Int)])
      rw [roadsOf_end rows (by omega), Int.zero_add, Int.zero_add]
      exact .one hg.hr hg.op hg.fr
    · have d := (ih b hb rb (by omega) hg.hb).1
      rcases hg.bl with z | z
      · exact absurd z hb0
      · exact .more d z hg.hr hg.op hg.fr
theorem Goes.drv (h : RInv N g limit rows ks) {b i : Nat} {rb : Row} {r : RoadD} (hg : Goes N limit rows b i rb r) : Drv N g r.other (rb.mi + r.mi) (rb.tl + r.tl) (roadsOf rows (b : Int) ++ [(i : Int)]) := by
  by_cases hb0 : b = 0
  · subst hb0
    have e0 := hg.hb
    rw [h.r0] at e0
    have e0 := (Option.some.inj e0).symm
    subst e0
    show Drv N g r.other (0 + r.mi) (0 + r.tl) (roadsOf rows ((0 : Nat) : Int) ++ [(i : Int)])
    rw [roadsOf_end rows (by omega), Int.zero_add, Int.zero_add]
    exact .one hg.hr hg.op hg.fr
  · have d := (h.drv b rb (by omega) hg.hb).1
    rcases hg.bl with z | z
    · exact absurd z hb0
    · exact .more d z hg.hr hg.op hg.fr
theorem Drv.pos (ok : NetOk N) {w : Str} {m t : Int} {rs : List Int} (d : Drv N g w m t rs) : 1 ≤ m ∧ 0 ≤ t ∧ seesOf N.gates w ≠ none := by
  induction d with
  | one h ho e => exact ⟨ok.mi _ (List.mem_of_getElem? h), ok.tl _ (List.mem_of_getElem? h), ok.o2 _ (List.mem_of_getElem? h)⟩
  | more d hb h ho e ih =>
    have := ok.mi _ (List.mem_of_getElem? h)
    have := ok.tl _ (List.mem_of_getElem? h)
    exact ⟨by omega, by omega, ok.o2 _ (List.mem_of_getElem? h)⟩
theorem Drv.unit {u : Int} (hu : ∀ r ∈ N.roads, r.op = true → r.mi % u = 0) {w : Str} {m t : Int} {rs : List Int} (d : Drv N g w m t rs) : m % u = 0 := by
  induction d with
  | one h ho e => exact hu _ (List.mem_of_getElem? h) ho
  | more d hb h ho e ih =>
    have := hu _ (List.mem_of_getElem? h) ho
    rw [Int.add_emod, ih, this]
    simp
/-- more keys: those of the ways on from the last row -/
theorem RInv.grow (h : RInv N g limit rows ks) (hs : ∀ x ∈ ks', x ∈ ks ∨ (∃ b i rb r, Goes N limit rows b i rb r ∧ IsKey N rb r b i x) ∧ ∀ j row, 0 < j → rows[j]? = some row → RowKey N row x) : RInv N g limit rows ks' :=
  ⟨h.r0, h.r1, fun k hk => by
    rcases hs k hk with z | z
    · exact h.q1 k z
    · exact z.1, h.srt, fun j row key a b c => by
    rcases hs key c with z | z
    · exact h.low j row key a b z
    · exact z.2 j row a b, h.dec⟩
theorem cov_new {ks2 : List (List Int)} (nd : (N.gates.map (·.1)).Nodup) (c : Cov N limit rows (k :: ks) rows.length) {tl mi rd bk : Int} {tn : Nat} {nm : Str} {cs : Bool} (hpos : 0 < rows.length) (hk : k = [tl, mi, (tn : Int), rd, bk]) (hn : N.gates[tn]? = some (nm, cs))
    (hks : ∀ x ∈ ks, x ∈ ks2) (hp : ∀ i r, Goes N limit (rows ++ [⟨nm, mi, tl, rd, bk⟩]) rows.length i ⟨nm, mi, tl, rd, bk⟩ r → ∃ key ∈ ks2, IsKey N ⟨nm, mi, tl, rd, bk⟩ r rows.length i key) : Cov N limit (rows ++ [⟨nm, mi, tl, rd, bk⟩]) ks2 (rows ++ [(⟨nm, mi, tl, rd, bk⟩ : Row)]).length := fun b i rb r hb hg => by
  rcases get_app hg.hb with e | ⟨e, er⟩
  · have hbl := (List.getElem?_eq_some_iff.mp e).1
    rcases c b i rb r hbl (hg.back hbl) with d | ⟨q, hq, hik⟩
    · exact .inl (d.app _)
    · rcases List.mem_cons.mp hq with z | z
      · obtain ⟨t, d, hd, e2⟩ := hik
        rw [z, hk] at e2
        simp only [List.cons.injEq, and_true] at e2
        obtain ⟨e1, e2, e3, e4, e5⟩ := e2
        have e3 : tn = t := by omega
        subst e3
        rw [hn] at hd
        have hd := Option.some.inj hd
        simp only [Prod.mk.injEq] at hd
        exact .inl ⟨rows.length, ⟨nm, mi, tl, rd, bk⟩, hpos, (by rw [List.getElem?_append_right (Nat.le_refl _), Nat.sub_self]; rfl), hd.1, (by show mi ≤ rb.mi + r.mi; omega), (by show tl ≤ rb.tl + r.tl; omega)⟩
      · exact .inr ⟨q, hks q z, hik⟩
  · subst e er
    exact .inr (hp i r hg)
/-- the rows are few: by gates, and by minutes in units -/
theorem rows_few (ok : NetOk N) (h : RInv N g limit rows ks) {u : Int} (hu0 : 1 ≤ u) (hu : ∀ r ∈ N.roads, r.op = true → r.mi % u = 0) (h60 : N.gates.length ≤ 60) (hb : ∀ k row, 0 < k → rows[k]? = some row → row.mi ≤ 64 * u) : rows.length ≤ 3841 := by
  have code : ∀ k row, 0 < k → rows[k]? = some row → ∃ (t q : Nat), t < 60 ∧ q < 64 ∧ (∃ c, N.gates[t]? = some (row.nm, c)) ∧ row.mi = (q + 1) * u := fun k row h0 hk => by
    have d := (h.drv k row h0 hk).1
    obtain ⟨m1, _, ms⟩ := d.pos ok
    have mu := d.unit hu
    obtain ⟨t, c, ht⟩ := turn_of ms
    have tl := (List.getElem?_eq_some_iff.mp ht).1
    have e := Int.emod_add_mul_ediv row.mi u
    rw [mu, Int.zero_add] at e
    have hq1 : 1 ≤ row.mi / u := by
      rcases Int.lt_or_le 0 (row.mi / u) with z | z
      · omega
      · have : u * (row.mi / u) ≤ u * 0 := Int.mul_le_mul_of_nonneg_left z (by omega)
        omega
    have hq2 : row.mi / u ≤ 64 := by
      rcases Int.lt_or_le 64 (row.mi / u) with z | z
      · have h1 := hb k row h0 hk
        have : u * 65 ≤ u * (row.mi / u) := Int.mul_le_mul_of_nonneg_left (by omega) (by omega)
        omega
      · exact z
    refine ⟨t, (row.mi / u - 1).toNat, by omega, by omega, ⟨c, ht⟩, ?_⟩
    rw [Int.toNat_of_nonneg (by omega), show row.mi / u - 1 + 1 = row.mi / u by omega, Int.mul_comm]
    exact e.symm
  have pick : ∀ k : Nat, k < rows.length - 1 → ∃ c : Nat, c < 3840 ∧ ∃ row, rows[k + 1]? = some row ∧ ∃ t q : Nat, c = t * 64 + q ∧ q < 64 ∧ (∃ d, N.gates[t]? = some (row.nm, d)) ∧ row.mi = (q + 1) * u := fun k hk => by
    obtain ⟨t, q, h1, h2, h3, h4⟩ := code (k + 1) rows[k + 1] (by omega) (List.getElem?_eq_getElem (by omega))
    exact ⟨t * 64 + q, by omega, _, List.getElem?_eq_getElem (by omega), t, q, rfl, h2, h3, h4⟩
  have key := nodup_lt 3840 ((List.range (rows.length - 1)).map fun k => if hk : k < rows.length - 1 then (pick k hk).choose else 0) ?_ ?_
  · rw [List.length_map, List.length_range] at key
    omega
  · rw [List.Nodup, List.pairwise_map]
    refine List.Pairwise.imp_of_mem ?_ (List.nodup_range (n := rows.length - 1) |> fun z => (List.pairwise_lt_range (n := rows.length - 1)))
    intro a b ha hb2 hab
    have ha := List.mem_range.mp ha
    have hb2 := List.mem_range.mp hb2
    rw [dif_pos ha, dif_pos hb2]
    intro e
    obtain ⟨_, ra, hra, ta, qa, ea, qa64, ⟨da, hda⟩, ma⟩ := (pick a ha).choose_spec
    obtain ⟨_, rb, hrb, tb, qb, eb, qb64, ⟨db, hdb⟩, mb⟩ := (pick b hb2).choose_spec
    rw [ea, eb] at e
    have et : ta = tb := by omega
    have eq : qa = qb := by omega
    subst et eq
    rw [hda] at hdb
    have hnm := Option.some.inj hdb
    simp only [Prod.mk.injEq] at hnm
    have := h.dec (a + 1) (b + 1) ra rb (by omega) (by omega) hra hrb hnm.1
    rw [ma, mb] at this
    omega
  · intro x hx
    obtain ⟨k, hk, e⟩ := List.mem_map.mp hx
    have hk := List.mem_range.mp hk
    rw [dif_pos hk] at e
    have := (pick k hk).choose_spec.1
    omega
/-- the least key's minutes are few -/
theorem new_few (ok : NetOk N) (h : RInv N g limit rows (k :: ks)) (c : Cov N limit rows (k :: ks) rows.length) {M : Int} (hB : ∀ w m t rs, Drv N g w m t rs → m ≤ limit → ∃ m' t' rs', Drv N g w m' t' rs' ∧ m' ≤ limit ∧ t' ≤ t ∧ m' ≤ M)
    {tl mi rd bk : Int} {tn : Nat} {nm : Str} {cs : Bool} (hk : k = [tl, mi, (tn : Int), rd, bk]) (hn : N.gates[tn]? = some (nm, cs)) (hle : ∀ y ∈ ks, TH.kLe k y) (hb : ∀ j row, 0 < j → rows[j]? = some row → row.mi ≤ M)
    (hd : ∀ j row, 0 < j → rows[j]? = some row → row.nm = nm → mi < row.mi) : mi ≤ M := by
  obtain ⟨b, i, rb, r, hg, t, c', ht, ek⟩ := h.q1 k (List.mem_cons_self ..)
  rw [hk] at ek
  simp only [List.cons.injEq, and_true] at ek
  obtain ⟨e1, e2, e3, e4, e5⟩ := ek
  have e3 : tn = t := by omega
  subst e3
  rw [hn] at ht
  have ht := Option.some.inj ht
  simp only [Prod.mk.injEq] at ht
  have d := hg.drv h
  rw [← ht.1, ← e1, ← e2] at d
  obtain ⟨m', t', rs', d', l1, l2, l3⟩ := hB _ _ _ _ d (by have := hg.lm; omega)
  rcases drv_cov h c ok d' l1 with ⟨j, row, h0, hj, a1, a2, a3⟩ | ⟨key, hkey, tl2, mi2, tn2, rd2, bk2, ek2, hle2⟩
  · have := hd j row h0 hj a1
    have := hb j row h0 hj
    omega
  · rcases List.mem_cons.mp hkey with z | z
    · rw [z, hk] at ek2
      simp only [List.cons.injEq, and_true] at ek2
      omega
    · have := hle key z
      rw [hk, ek2] at this
      have := key3 this
      omega
end
end Toll

set_option Elab.async false
set_option linter.all false
set_option maxRecDepth 100000
set_option maxHeartbeats 4000000
namespace Toll
open PySem L2
theorem putK_le (c : List (Key × V)) (k : Key) (x : V) : (putK c k x).length ≤ c.length + 1 := by
  unfold putK
  split
  · rw [List.length_map]
    omega
  · rw [List.length_append]
    simp
structure Way where
  rd : Int
  tn : Int
  mi : Int
  tl : Int
def wayVs (x : Way) : List V := [.int x.rd, .int x.tn, .int x.mi, .int x.tl]
def WayV (H : Hp) (v : V) (x : Way) : Prop := ∃ t, v = .ref t ∧ H t = some (.tup (wayVs x))
theorem ways_same {H H' : Hp} {us : List V} {ws : List Way} (s : Same H H') (h : Paired (WayV H) us ws) : Paired (WayV H') us ws := L2.Paired.mapP h fun _ _ ⟨t, e, ht⟩ => ⟨t, e, s _ _ ht⟩
theorem ways_upd {H : Hp} {L : Addr} {xs : List V} {o : HO} {us : List V} {ws : List Way} (hL : H L = some (.lst xs)) (h : Paired (WayV H) us ws) : Paired (WayV (upd H L o)) us ws := L2.Paired.mapP h fun _ _ ⟨t, e, ht⟩ => ⟨t, e, by rw [upd_ne (ne_of ht hL (by intro z; cases z))]; exact ht⟩
def turnI (gs : List (Str × Bool)) (nm : Str) : Nat := gs.findIdx fun q => decide (q.1 = nm)
theorem turnI_at {gs : List (Str × Bool)} (nd : (gs.map (·.1)).Nodup) {t : Nat} {nm : Str} {c : Bool} (h : gs[t]? = some (nm, c)) : turnI gs nm = t := by
  obtain ⟨hl, e⟩ := List.getElem?_eq_some_iff.mp h
  unfold turnI
  rw [List.findIdx_eq hl]
  refine ⟨by rw [e]; exact decide_eq_true rfl, fun j hj => ?_⟩
  refine decide_eq_false fun z => ?_
  have := nodup_at nd (s := j) (t := t) (nm := nm) (c := gs[j].2) (d := c) (by rw [List.getElem?_eq_getElem (by omega), ← z]) h
  omega
/-- the open roads from a gate, ahead of the road i -/
def waysF (N : NetD) (nm : Str) : Nat → List Way
  | 0 => []
  | i + 1 => waysF N nm i ++ (match N.roads[i]? with
    | some r => if r.op = true ∧ r.one = nm then [⟨(i : Int), (turnI N.gates r.other : Int), r.mi, r.tl⟩] else []
    | none => [])
theorem waysF_step {N : NetD} {nm : Str} {i : Nat} {r : RoadD} (h : N.roads[i]? = some r) : waysF N nm (i + 1) = if r.op = true ∧ r.one = nm then waysF N nm i ++ [⟨(i : Int), (turnI N.gates r.other : Int), r.mi, r.tl⟩] else waysF N nm i := by
  conv => lhs; unfold waysF
  rw [h]
  show waysF N nm i ++ (if r.op = true ∧ r.one = nm then _ else []) = _
  by_cases e : r.op = true ∧ r.one = nm
  · rw [if_pos e, if_pos e]
  · rw [if_neg e, if_neg e, List.append_nil]
theorem waysF_len (N : NetD) (nm : Str) : ∀ i, (waysF N nm i).length ≤ i
  | 0 => Nat.le_refl _
  | i + 1 => by
    have := waysF_len N nm i
    unfold waysF
    rw [List.length_append]
    split
    · split <;> simp <;> omega
    · simp; omega
theorem waysF_mem {N : NetD} {nm : Str} {x : Way} : ∀ n, x ∈ waysF N nm n ↔ ∃ (i : Nat) (r : RoadD), i < n ∧ N.roads[i]? = some r ∧ r.op = true ∧ r.one = nm ∧ x = ⟨(i : Int), (turnI N.gates r.other : Int), r.mi, r.tl⟩
  | 0 => ⟨fun h => (by cases h), fun ⟨i, _, h, _⟩ => absurd h (by omega)⟩
  | n + 1 => by
    unfold waysF
    rw [List.mem_append, waysF_mem n]
    constructor
    · rintro (⟨i, r, h, z⟩ | h)
      · exact ⟨i, r, by omega, z⟩
      · cases e : N.roads[n]? with
        | none => rw [e] at h; cases h
        | some r =>
          rw [e] at h
          have h : x ∈ (if r.op = true ∧ r.one = nm then [(⟨(n : Int), (turnI N.gates r.other : Int), r.mi, r.tl⟩ : Way)] else []) := h
          split at h
          · rename_i c
            rw [List.mem_singleton] at h
            exact ⟨n, r, by omega, e, c.1, c.2, h⟩
          · cases h
    · rintro ⟨i, r, h, hr, ho, e, hx⟩
      by_cases z : i = n
      · subst z
        refine .inr ?_
        rw [hr]
        show x ∈ (if r.op = true ∧ r.one = nm then _ else [])
        rw [if_pos ⟨ho, e⟩, hx]
        exact List.mem_singleton.mpr rfl
      · exact .inl ⟨i, r, by omega, hr, ho, e, hx⟩
def wayKey (row : Row) (b : Nat) (x : Way) : List Int := [row.tl + x.tl, row.mi + x.mi, x.tn, x.rd, (b : Int)]
theorem turn_at {N : NetD} (ok : NetOk N) {r : RoadD} (h : r ∈ N.roads) : ∃ c, N.gates[turnI N.gates r.other]? = some (r.other, c) := by
  obtain ⟨t, c, ht⟩ := turn_of (ok.o2 r h)
  rw [turnI_at ok.nd ht]
  exact ⟨c, ht⟩
theorem keys_in {N : NetD} (ok : NetOk N) {limit : Int} {rows : List Row} {row : Row} (hbl : rows.length = 0 ∨ seesOf N.gates row.nm = some false) {x : Way} (hx : x ∈ waysF N row.nm N.roads.length) (hl : row.mi + x.mi ≤ limit) :
    ∃ i r, Goes N limit (rows ++ [row]) rows.length i row r ∧ IsKey N row r rows.length i (wayKey row rows.length x) := by
  obtain ⟨i, r, _, hr, ho, e, rfl⟩ := (waysF_mem _).mp hx
  obtain ⟨c, hc⟩ := turn_at ok (List.mem_of_getElem? hr)
  exact ⟨i, r, ⟨by rw [List.getElem?_append_right (Nat.le_refl _), Nat.sub_self]; rfl, hr, ho, e, hbl, hl⟩, _, c, hc, rfl⟩
theorem keys_out {N : NetD} (ok : NetOk N) {limit : Int} {rows : List Row} {row : Row} {i : Nat} {r : RoadD} (hg : Goes N limit (rows ++ [row]) rows.length i row r) :
    ∃ x ∈ waysF N row.nm N.roads.length, row.mi + x.mi ≤ limit ∧ IsKey N row r rows.length i (wayKey row rows.length x) := by
  obtain ⟨c, hc⟩ := turn_at ok (List.mem_of_getElem? hg.hr)
  exact ⟨_, (waysF_mem _).mpr ⟨i, r, (List.getElem?_eq_some_iff.mp hg.hr).1, hg.hr, hg.op, hg.fr, rfl⟩, hg.lm, _, c, hc, rfl⟩
theorem rinv0 (N : NetD) (g : Str) (limit : Int) : RInv N g limit [⟨g, 0, 0, -1, -1⟩] [] := by
  have no : ∀ (k : Nat) (row : Row), 0 < k → ([⟨g, 0, 0, -1, -1⟩] : List Row)[k]? = some row → False := fun k row h e => by
    have := (List.getElem?_eq_some_iff.mp e).1
    simp at this
    omega
  exact ⟨rfl, fun k row h e => (no k row h e).elim, fun k h => (by cases h), fun j k rj rk h _ e => (no j rj h e).elim, fun k row key h e => (no k row h e).elim, fun j k rj rk h _ e => (no j rj h e).elim⟩
theorem Cov.mono {N : NetD} {limit : Int} {rows : List Row} {ks ks' : List (List Int)} {n : Nat} (c : Cov N limit rows ks n) (h : ∀ x ∈ ks, x ∈ ks') : Cov N limit rows ks' n := fun b i rb r hb hg => by
  rcases c b i rb r hb hg with d | ⟨k, hk, e⟩
  · exact .inl d
  · exact .inr ⟨k, h k hk, e⟩
/-- what the rows are behind the loop -/
def RowsPost (N : NetD) (g : Str) (limit : Int) (goal : Option Str) (rows : List Row) : Prop := RInv N g limit rows [] ∧ rows.length ≤ 3842 ∧ match goal with
  | none => Cov N limit rows [] rows.length
  | some w => (Cov N limit rows [] rows.length ∧ ∀ j row, 0 < j → rows[j]? = some row → row.nm ≠ w) ∨ ∃ rows0 row, rows = rows0 ++ [row] ∧ 0 < rows0.length ∧ row.nm = w ∧ (∀ j r, 0 < j → rows0[j]? = some r → r.nm ≠ w) ∧ ∀ m t rs, Drv N g w m t rs → m ≤ limit → row.tl < t ∨ row.tl = t ∧ row.mi ≤ m
def goalV : Option Str → V
  | none => .non
  | some w => .str w
/-- all that the loop keeps, without the heap -/
structure Loop (N : NetD) (g : Str) (limit u : Int) (goal : Option Str) (rows : List Row) (ks : List (List Int)) (fk : List (Key × V)) : Prop where
  inv : RInv N g limit rows ks
  cov : Cov N limit rows ks rows.length
  f1 : ∀ nm v, valV fk (Sum.inr nm) = some v → ∃ j row, 0 < j ∧ rows[j]? = some row ∧ row.nm = nm ∧ v = .int row.mi ∧ ∀ j' row', 0 < j' → rows[j']? = some row' → row'.nm = nm → row.mi ≤ row'.mi
  f0 : ∀ nm, valV fk (Sum.inr nm) = none → ∀ j row, 0 < j → rows[j]? = some row → row.nm ≠ nm
  fl : fk.length ≤ rows.length
  mi : ∀ j row, 0 < j → rows[j]? = some row → row.mi ≤ 64 * u
  go : ∀ w, goal = some w → ∀ j row, 0 < j → rows[j]? = some row → row.nm ≠ w
/-- what is fixed ahead of the loop -/
structure Few (N : NetD) (g : Str) (limit u : Int) : Prop where
  u1 : 1 ≤ u
  un : ∀ r ∈ N.roads, r.op = true → r.mi % u = 0
  few : ∀ w m t rs, Drv N g w m t rs → m ≤ limit → ∃ m' t' rs', Drv N g w m' t' rs' ∧ m' ≤ limit ∧ t' ≤ t ∧ m' ≤ 64 * u
section
variable {N : NetD} {g : Str} {limit u : Int} {goal : Option Str} {rows : List Row} {ks ks' : List (List Int)} {fk : List (Key × V)} {k : List Int}
theorem Loop.len (ok : NetOk N) (h60 : N.gates.length ≤ 60) (fw : Few N g limit u) (h : Loop N g limit u goal rows ks fk) : rows.length ≤ 3841 := rows_few ok h.inv fw.u1 fw.un h60 h.mi
/-- a key that is beaten is left -/
theorem Loop.skip (ok : NetOk N) (h : Loop N g limit u goal rows ks fk) (hp : ∀ x, x ∈ ks ↔ x = k ∨ x ∈ ks') {tl mi tn rd bk : Int} (hk : k = [tl, mi, tn, rd, bk]) {nm : Str} {c : Bool} (hn : N.gates[tn.toNat]? = some (nm, c)) {f : Int} (hf : valV fk (Sum.inr nm) = some (.int f)) (hle : f ≤ mi) : Loop N g limit u goal rows ks' fk := by
  have inv2 : RInv N g limit rows (k :: ks') := h.inv.sub fun x hx => (hp x).mpr (List.mem_cons.mp hx)
  have cov2 : Cov N limit rows (k :: ks') rows.length := h.cov.mono fun x hx => List.mem_cons.mpr ((hp x).mp hx)
  obtain ⟨j, row, h0, hj, e1, e2, _⟩ := h.f1 nm _ hf
  injection e2 with e2
  exact ⟨inv2.sub fun x hx => List.mem_cons_of_mem _ hx, cov_skip (b := 0) inv2 cov2 hk h0 hj (by rw [e1]; exact hn) ok.nd (by omega), h.f1, h.f0, h.fl, h.mi, h.go⟩
/-- a new row, ahead of what goes on from it -/
theorem Loop.row (ok : NetOk N) (fw : Few N g limit u) (h : Loop N g limit u goal rows ks fk) (hp : ∀ x, x ∈ ks ↔ x = k ∨ x ∈ ks') (hmin : ∀ y ∈ ks', TH.kLe k y) {tl mi rd bk : Int} {tn : Nat} (hk : k = [tl, mi, (tn : Int), rd, bk]) {nm : Str} {c : Bool} (hn : N.gates[tn]? = some (nm, c))
    (hd : ∀ j row, 0 < j → rows[j]? = some row → row.nm = nm → mi < row.mi) : mi ≤ 64 * u ∧ RInv N g limit (rows ++ [⟨nm, mi, tl, rd, bk⟩]) ks' ∧
      (∀ r ∈ N.roads, r.op = true → r.one = nm → ∀ (t : Nat) d, N.gates[t]? = some (r.other, d) → ∀ i : Int, ∀ b : Int, ∀ j row, 0 < j → (rows ++ [⟨nm, mi, tl, rd, bk⟩])[j]? = some row → RowKey N row [tl + r.tl, mi + r.mi, (t : Int), i, b]) ∧
      Cov N limit rows (k :: ks') rows.length ∧ RInv N g limit rows (k :: ks') := by
  have inv2 : RInv N g limit rows (k :: ks') := h.inv.sub fun x hx => (hp x).mpr (List.mem_cons.mp hx)
  have cov2 : Cov N limit rows (k :: ks') rows.length := h.cov.mono fun x hx => List.mem_cons.mpr ((hp x).mp hx)
  obtain ⟨a1, a2⟩ := inv2.new ok hk hn hmin hd
  exact ⟨new_few ok inv2 cov2 fw.few hk hn hmin h.mi hd, a1, a2, cov2, inv2⟩
/-- .. and behind it -/
theorem Loop.next (ok : NetOk N) (fw : Few N g limit u) (h : Loop N g limit u goal rows ks fk) (hp : ∀ x, x ∈ ks ↔ x = k ∨ x ∈ ks') (hmin : ∀ y ∈ ks', TH.kLe k y) {tl mi rd bk : Int} {tn : Nat} (hk : k = [tl, mi, (tn : Int), rd, bk]) {nm : Str} {c : Bool} (hn : N.gates[tn]? = some (nm, c))
    (hd : ∀ j row, 0 < j → rows[j]? = some row → row.nm = nm → mi < row.mi) (hg : ∀ w, goal = some w → nm ≠ w) {ks2 : List (List Int)} (hm : ∀ x, x ∈ ks2 ↔ x ∈ ks' ∨ (c = false ∧ ∃ y ∈ waysF N nm N.roads.length, mi + y.mi ≤ limit ∧ x = wayKey ⟨nm, mi, tl, rd, bk⟩ rows.length y)) :
    Loop N g limit u goal (rows ++ [⟨nm, mi, tl, rd, bk⟩]) ks2 (putK fk (Sum.inr nm) (.int mi)) := by
  obtain ⟨m64, a1, a2, cov2, inv2⟩ := h.row ok fw hp hmin hk hn hd
  have hsee := sees_at ok.nd hn
  refine ⟨a1.grow fun x hx => ?_, cov_new ok.nd cov2 inv2.lenPos hk hn (fun x hx => (hm x).mpr (.inl hx)) fun i r hgo => ?_, fun nm' v e => ?_, fun nm' e j row h0 hj => ?_, Nat.le_trans (putK_le _ _ _) (by rw [List.length_append]; exact Nat.add_le_add_right h.fl 1), fun j row h0 hj => ?_, fun w hw j row h0 hj => ?_⟩
  · rcases (hm x).mp hx with e | ⟨e, y, hy, hl, ex⟩
    · exact .inl e
    · subst ex
      refine .inr ⟨?_, fun j row h0 hj => ?_⟩
      · obtain ⟨i, r, hg1, hk1⟩ := keys_in ok (limit := limit) (rows := rows) (row := ⟨nm, mi, tl, rd, bk⟩) (.inr (by rw [hsee, e])) hy hl
        exact ⟨_, i, _, r, hg1, hk1⟩
      · obtain ⟨i, r, _, hr, ho, er, rfl⟩ := (waysF_mem _).mp hy
        obtain ⟨d, hd'⟩ := turn_at ok (List.mem_of_getElem? hr)
        exact a2 r (List.mem_of_getElem? hr) ho er _ d hd' _ _ j row h0 hj
  · obtain ⟨y, hy, hl, hik⟩ := keys_out ok hgo
    refine ⟨_, (hm _).mpr (.inr ⟨?_, y, hy, hl, rfl⟩), hik⟩
    rcases hgo.bl with z | z
    · have := inv2.lenPos
      omega
    · rw [hsee] at z
      exact Option.some.inj z
  · rw [valV_put] at e
    by_cases y : (Sum.inr nm' : Key) = Sum.inr nm
    · rw [if_pos y] at e
      have e := Option.some.inj e
      refine ⟨rows.length, ⟨nm, mi, tl, rd, bk⟩, inv2.lenPos, by rw [List.getElem?_append_right (Nat.le_refl _), Nat.sub_self]; rfl, (key_inr.mp y).symm, e.symm, fun j' row' h0' hj' hnm => ?_⟩
      rcases get_app hj' with z | ⟨_, z⟩
      · exact Int.le_of_lt (hd j' row' h0' z (by rw [hnm, key_inr.mp y]))
      · rw [z]
        exact Int.le_refl mi
    · rw [if_neg y] at e
      obtain ⟨j, row, h0, hj, e1, e2, e3⟩ := h.f1 nm' v e
      refine ⟨j, row, h0, get_app1 hj, e1, e2, fun j' row' h0' hj' hnm => ?_⟩
      rcases get_app hj' with z | ⟨_, z⟩
      · exact e3 j' row' h0' z hnm
      · rw [z] at hnm
        exact absurd (by rw [← hnm]) y
  · rw [valV_put] at e
    by_cases y : (Sum.inr nm' : Key) = Sum.inr nm
    · rw [if_pos y] at e
      cases e
    · rw [if_neg y] at e
      rcases get_app hj with z | ⟨_, z⟩
      · exact h.f0 nm' e j row h0 z
      · rw [z]
        exact fun w => y (by rw [← w])
  · rcases get_app hj with z | ⟨_, z⟩
    · exact h.mi j row h0 z
    · rw [z]
      exact m64
  · rcases get_app hj with z | ⟨_, z⟩
    · exact h.go w hw j row h0 z
    · rw [z]
      exact hg w hw
/-- the first row at the goal -/
theorem Loop.last (ok : NetOk N) (h60 : N.gates.length ≤ 60) (fw : Few N g limit u) (h : Loop N g limit u goal rows ks fk) (hp : ∀ x, x ∈ ks ↔ x = k ∨ x ∈ ks') (hmin : ∀ y ∈ ks', TH.kLe k y) {tl mi rd bk : Int} {tn : Nat} (hk : k = [tl, mi, (tn : Int), rd, bk]) {nm : Str} {c : Bool} (hn : N.gates[tn]? = some (nm, c))
    (hd : ∀ j row, 0 < j → rows[j]? = some row → row.nm = nm → mi < row.mi) (hg : goal = some nm) : RowsPost N g limit goal (rows ++ [⟨nm, mi, tl, rd, bk⟩]) := by
  obtain ⟨m64, a1, a2, cov2, inv2⟩ := h.row ok fw hp hmin hk hn hd
  have l := h.len ok h60 fw
  subst hg
  refine ⟨a1.sub (by simp), by rw [List.length_append]; show rows.length + 1 ≤ 3842; omega, .inr ⟨rows, _, rfl, inv2.lenPos, rfl, h.go nm rfl, fun m t rs d hm => ?_⟩⟩
  show tl < t ∨ tl = t ∧ mi ≤ m
  rcases drv_cov inv2 cov2 ok d hm with ⟨j, row, h0, hj, e1, _⟩ | ⟨key, hkey, tl2, mi2, tn2, rd2, bk2, ek2, hle2⟩
  · exact absurd e1 (h.go nm rfl j row h0 hj)
  · rcases List.mem_cons.mp hkey with z | z
    · rw [z, hk] at ek2
      simp only [List.cons.injEq, and_true] at ek2
      omega
    · have := hmin key z
      rw [hk, ek2] at this
      have := key3 this
      omega
theorem Loop.post (ok : NetOk N) (h60 : N.gates.length ≤ 60) (fw : Few N g limit u) (h : Loop N g limit u goal rows [] fk) : RowsPost N g limit goal rows := by
  refine ⟨h.inv, Nat.le_trans (h.len ok h60 fw) (by decide), ?_⟩
  cases goal with
  | none => exact h.cov
  | some w => exact .inl ⟨h.cov, h.go w rfl⟩
end
/-! ### tuples stay -/
def TK (H H' : Hp) : Prop := ∀ t xs, H t = some (.tup xs) → H' t = some (.tup xs)
theorem TK.refl (H : Hp) : TK H H := fun _ _ e => e
theorem TK.trans {H H1 H2 : Hp} (a : TK H H1) (b : TK H1 H2) : TK H H2 := fun t xs e => b t xs (a t xs e)
theorem TK.same {H H' : Hp} (s : Same H H') : TK H H' := fun t xs e => s t _ e
theorem TK.up {H : Hp} {p : Addr} {u o : HO} (h : H p = some u) (hn : ∀ xs, u ≠ .tup xs) : TK H (upd H p o) := fun t xs e => by
  have : t ≠ p := fun z => by
    rw [z, h] at e
    exact hn xs (Option.some.inj e)
  rw [upd_ne this]
  exact e
theorem TK.keep {S : List Addr} {H H' : Hp} (k : Keep S H H') (hS : ∀ a ∈ S, ∀ xs, H a ≠ some (.tup xs)) : TK H H' := fun t xs e => k t _ e fun m => hS t m xs e
theorem rows_tk {H H' : Hp} (k : TK H H') {us : List V} {rows : List Row} (h : Paired (RowV H) us rows) : Paired (RowV H') us rows := L2.Paired.mapP h fun _ _ ⟨t, e, ht⟩ => ⟨t, e, k _ _ ht⟩
theorem ZK_tk {H H' : Hp} (k : TK H H') {zs : List TH.Z} (h : TH.ZK H zs) : TH.ZK H' zs := fun z hz => k _ _ (h z hz)
theorem perm_keys {z : TH.Z} {zs zs' : List TH.Z} (h : (z :: zs').Perm zs) : ∀ x, x ∈ zs.map (·.2) ↔ x = z.2 ∨ x ∈ zs'.map (·.2) := fun x => by
  rw [← (h.map (·.2)).mem_iff]
  simp
end Toll

set_option Elab.async false
set_option linter.all false
set_option maxRecDepth 100000
set_option maxHeartbeats 4000000
namespace Toll
open PySem L2
/-! ### names are apart -/
theorem sgn_inj {i j : Int} (hi0 : 0 ≤ i) (hi : i < 36) (hj0 : 0 ≤ j) (hj : j < 36) (h : sgn i = sgn j) : i = j := by
  have e : ∀ n : Nat, n < 36 → someS.cps.toList.getD n 0 = if n < 26 then 97 + n else 22 + n := fun n hn => by
    rw [someS_range, List.getD_eq_getElem?_getD]
    by_cases h : n < 26
    · rw [if_pos h, List.getElem?_append_left (by simp; omega), List.getElem?_range' (by omega)]
      simp
    · rw [if_neg h, List.getElem?_append_right (by simp; omega), List.length_range', List.getElem?_range' (by omega)]
      simp
      omega
  rw [sgn_def, sgn_def, e _ (by omega), e _ (by omega)] at h
  split at h <;> split at h <;> omega
theorem nameOf_inj8 {b s t : Int} (hb : 0 ≤ b) (hs : 0 ≤ s) (hs8 : s < 8) (ht : 0 ≤ t) (ht8 : t < 8) (h : nameOf b s = nameOf b t) : s = t := by
  by_cases h1 : b % 3 = 1
  · exact nameOf_inj h1 hs ht h
  · rw [nameOf_def, nameOf_def] at h
    have h := sx_inj h
    have hl := sg_len b
    by_cases h0 : b % 3 = 0
    · have e : ∀ u, u < 8 → nameL b u = (sg b).take (1 + u).toNat := fun u hu => by
        unfold nameL
        rw [if_pos ⟨h0, hu⟩]
      rw [e s hs8, e t ht8] at h
      have := congrArg List.length h
      rw [List.length_take, List.length_take, hl] at this
      omega
    · have h2 : b % 3 = 2 := by omega
      have e : ∀ u, u < 8 → nameL b u = ((sg b).set (b / 24 % (1 + b / 3 % 8)).toNat (sgn ((b / 2311 + u) % (if b / 24 % (1 + b / 3 % 8) = 0 then 26 else 36)))).take (1 + b / 3 % 8).toNat := fun u hu => by
        unfold nameL
        rw [if_neg (by omega), if_neg (by omega)]
      rw [e s hs8, e t ht8] at h
      have a0 := Int.emod_nonneg (b / 24) (b := 1 + b / 3 % 8) (by omega)
      have a1 := Int.emod_lt_of_pos (b / 24) (b := 1 + b / 3 % 8) (by omega)
      generalize hat : (b / 24 % (1 + b / 3 % 8)).toNat = at1 at h
      have hat1 : at1 < (1 + b / 3 % 8).toNat := by omega
      have hat8 : at1 < 8 := by omega
      have g := congrArg (fun l : List Nat => l[at1]?) h
      simp only [List.getElem?_take_of_lt hat1] at g
      rw [List.getElem?_set_self (by rw [hl]; exact hat8), List.getElem?_set_self (by rw [hl]; exact hat8)] at g
      have g := Option.some.inj g
      by_cases hz : b / 24 % (1 + b / 3 % 8) = 0
      · rw [if_pos hz] at g
        have := sgn_inj (by omega) (by omega) (by omega) (by omega) g
        omega
      · rw [if_neg hz] at g
        have := sgn_inj (by omega) (by omega) (by omega) (by omega) g
        omega
/-! ### the law's gates and lines -/
structure GsOk (gs : List (Str × Bool)) : Prop where
  nd : (gs.map (·.1)).Nodup
  l2 : 2 ≤ gs.length
  l60 : gs.length ≤ 60
  nm : ∀ q ∈ gs, NameOk q.1
abbrev GL (H : Hp) (gts : List Addr) (gs : List (Str × Bool)) : Prop := Paired (fun (t : Addr) (q : Str × Bool) => H t = some (.lst [.str q.1, .bl q.2])) gts gs
abbrev RL (H : Hp) (rts : List Addr) (rs : List RoadD) : Prop := Paired (fun (t : Addr) (r : RoadD) => H t = some (.lst (roadVs r))) rts rs
theorem GL.same {H H' : Hp} {gts : List Addr} {gs : List (Str × Bool)} (s : Same H H') (h : GL H gts gs) : GL H' gts gs := L2.Paired.mapP h fun _ _ e => s _ _ e
theorem RL.same {H H' : Hp} {rts : List Addr} {rs : List RoadD} (s : Same H H') (h : RL H rts rs) : RL H' rts rs := L2.Paired.mapP h fun _ _ e => s _ _ e
theorem GL.upd {H : Hp} {gts : List Addr} {gs : List (Str × Bool)} {L : Addr} {o : HO} (h : GL H gts gs) (hL : L ∉ gts) : GL (upd H L o) gts gs := paired_mem h fun a ha _ e => by
  rw [upd_ne (show a ≠ L from fun z => hL (by rw [← z]; exact ha))]
  exact e
theorem RL.upd {H : Hp} {rts : List Addr} {rs : List RoadD} {L : Addr} {o : HO} (h : RL H rts rs) (hL : L ∉ rts) : RL (upd H L o) rts rs := paired_mem h fun a ha _ e => by
  rw [upd_ne (show a ≠ L from fun z => hL (by rw [← z]; exact ha))]
  exact e
theorem GL.fresh {H : Hp} {gts : List Addr} {gs : List (Str × Bool)} {t : Addr} (h : GL H gts gs) (ht : H t = none) : t ∉ gts := fun m => by
  obtain ⟨j, hj⟩ := List.getElem?_of_mem m
  obtain ⟨q, _, e⟩ := paired_getL h hj
  rw [ht] at e
  cases e
theorem RL.fresh {H : Hp} {rts : List Addr} {rs : List RoadD} {t : Addr} (h : RL H rts rs) (ht : H t = none) : t ∉ rts := fun m => by
  obtain ⟨j, hj⟩ := List.getElem?_of_mem m
  obtain ⟨q, _, e⟩ := paired_getL h hj
  rw [ht] at e
  cases e
/-- names by number, truth by any -/
theorem gsOk_of {b : Int} {n : Nat} {f : Nat → Bool} (hb : 0 ≤ b) (h : n ≤ 8 ∨ b % 3 = 1) (h2 : 2 ≤ n) (h60 : n ≤ 60) : GsOk ((List.range n).map fun k : Nat => (nameOf b (k : Int), f k)) := by
  refine ⟨?_, by simpa using h2, by simpa using h60, fun q hq => ?_⟩
  · rw [List.map_map, List.Nodup, List.pairwise_map]
    refine List.Pairwise.imp_of_mem ?_ List.pairwise_lt_range
    intro i j hi hj hij e
    have hi := List.mem_range.mp hi
    have hj := List.mem_range.mp hj
    have e : nameOf b (i : Int) = nameOf b (j : Int) := e
    rcases h with h | h
    · have := nameOf_inj8 hb (by omega) (by omega) (by omega) (by omega) e
      omega
    · have := nameOf_inj h (by omega) (by omega) e
      omega
  · obtain ⟨k, hk, rfl⟩ := List.mem_map.mp hq
    have hk := List.mem_range.mp hk
    exact nameOk_of (by omega) (by omega)
structure LineOk (gs : List (Str × Bool)) (u : Int) (r : RoadD) : Prop where
  o1 : ∃ c, (r.one, c) ∈ gs
  o2 : ∃ c, (r.other, c) ∈ gs
  ne : r.one ≠ r.other
  mi : ∃ j : Int, 1 ≤ j ∧ j ≤ 6 ∧ r.mi = u * j
  tl : 0 ≤ r.tl ∧ r.tl ≤ 1000000
theorem netOk_of {gs : List (Str × Bool)} {rs : List RoadD} {u : Int} (hu : 1 ≤ u) (hg : GsOk gs) (hr : ∀ r ∈ rs, LineOk gs u r) : NetOk ⟨gs, rs⟩ := by
  refine ⟨hg.nd, fun r h => ?_, fun r h => (hr r h).tl.1, fun r h => ?_, fun r h => ?_⟩
  · obtain ⟨j, h1, _, e⟩ := (hr r h).mi
    rw [e]
    have : u * 1 ≤ u * j := Int.mul_le_mul_of_nonneg_left h1 (by omega)
    omega
  · obtain ⟨c, hc⟩ := (hr r h).o1
    exact sees_mem hc
  · obtain ⟨c, hc⟩ := (hr r h).o2
    exact sees_mem hc
theorem few_of {gs : List (Str × Bool)} {rs : List RoadD} {u limit : Int} (nm : Str) (hu : 1 ≤ u) (hr : ∀ r ∈ rs, LineOk gs u r) (hl : limit ≤ 64 * u) : Few ⟨gs, rs⟩ nm limit u := by
  refine ⟨hu, fun r h _ => ?_, fun w m t rs' d hm => ⟨m, t, rs', d, hm, Int.le_refl _, by omega⟩⟩
  obtain ⟨j, _, _, e⟩ := (hr r h).mi
  rw [e]
  exact Int.mul_emod_right u j
end Toll

set_option Elab.async false
set_option linter.all false
set_option maxRecDepth 100000
set_option maxHeartbeats 4000000
namespace Toll
open PySem L2
theorem leastF_step {rows : List Row} {nm : Str} {i : Nat} {r : Row} (hi : 0 < i) (hr : rows[i]? = some r) : leastF rows nm (i + 1) =
    if r.nm = nm then (match leastF rows nm i with
      | none => some i
      | some b => if r.tl < ((rows[b]?).map (·.tl)).getD 0 then some i else some b) else leastF rows nm i := by
  conv => lhs; unfold leastF
  rw [if_neg (by omega), hr]
  all_goals rfl
/-- what least tells -/
theorem leastF_spec {rows : List Row} {nm : Str} : ∀ n, n ≤ rows.length → match leastF rows nm n with
    | none => ∀ j r, 0 < j → j < n → rows[j]? = some r → r.nm ≠ nm
    | some b => 0 < b ∧ b < n ∧ ∃ rb, rows[b]? = some rb ∧ rb.nm = nm ∧ ∀ j r, 0 < j → j < n → rows[j]? = some r → r.nm = nm → rb.tl ≤ r.tl ∧ (r.tl = rb.tl → b ≤ j)
  | 0, _ => fun j r h0 h1 => by omega
  | 1, _ => by
    have : leastF rows nm 1 = none := by
      unfold leastF
      rw [if_pos rfl]
    rw [this]
    exact fun j r h0 h1 => by omega
  | i + 2, hn => by
    have ih := leastF_spec (rows := rows) (nm := nm) (i + 1) (by omega)
    obtain ⟨r, hr⟩ : ∃ r, rows[i + 1]? = some r := ⟨_, List.getElem?_eq_getElem (by omega)⟩
    rw [leastF_step (by omega) hr]
    by_cases hnm : r.nm = nm
    · rw [if_pos hnm]
      cases hl : leastF rows nm (i + 1) with
      | none =>
        rw [hl] at ih
        refine ⟨by omega, by omega, r, hr, hnm, fun j rj h0 h1 hj e => ?_⟩
        by_cases hji : j = i + 1
        · subst hji
          rw [hr] at hj
          cases hj
          exact ⟨Int.le_refl _, fun _ => Nat.le_refl _⟩
        · exact absurd e (ih j rj h0 (by omega) hj)
      | some b =>
        rw [hl] at ih
        obtain ⟨b0, b1, rb, hb, eb, hm⟩ := ih
        show match (if r.tl < ((rows[b]?).map (·.tl)).getD 0 then some (i + 1) else some b) with | none => _ | some b => _
        rw [hb]
        show match (if r.tl < rb.tl then some (i + 1) else some b) with | none => _ | some b => _
        by_cases ht : r.tl < rb.tl
        · rw [if_pos ht]
          refine ⟨by omega, by omega, r, hr, hnm, fun j rj h0 h1 hj e => ?_⟩
          by_cases hji : j = i + 1
          · subst hji
            rw [hr] at hj
            cases hj
            exact ⟨Int.le_refl _, fun _ => Nat.le_refl _⟩
          · have := hm j rj h0 (by omega) hj e
            exact ⟨by omega, fun z => by omega⟩
        · rw [if_neg ht]
          refine ⟨b0, by omega, rb, hb, eb, fun j rj h0 h1 hj e => ?_⟩
          by_cases hji : j = i + 1
          · subst hji
            rw [hr] at hj
            cases hj
            exact ⟨by omega, fun _ => by omega⟩
          · exact hm j rj h0 (by omega) hj e
    · rw [if_neg hnm]
      cases hl : leastF rows nm (i + 1) with
      | none =>
        rw [hl] at ih
        intro j rj h0 h1 hj
        by_cases hji : j = i + 1
        · subst hji
          rw [hr] at hj
          cases hj
          exact hnm
        · exact ih j rj h0 (by omega) hj
      | some b =>
        rw [hl] at ih
        obtain ⟨b0, b1, rb, hb, eb, hm⟩ := ih
        refine ⟨b0, by omega, rb, hb, eb, fun j rj h0 h1 hj e => ?_⟩
        by_cases hji : j = i + 1
        · subst hji
          rw [hr] at hj
          cases hj
          exact absurd e hnm
        · exact hm j rj h0 (by omega) hj e
section
variable {N : NetD} {g w : Str} {limit : Int} {rows : List Row}
/-- the least of the drives -/
def BestD (N : NetD) (g w : Str) (limit : Int) (t m : Int) (rs : List Int) : Prop := Drv N g w m t rs ∧ m ≤ limit ∧ ∀ m' t' rs', Drv N g w m' t' rs' → m' ≤ limit → t < t' ∨ t = t' ∧ m ≤ m'
theorem leg_none (ok : NetOk N) (h : RowsPost N g limit (some w) rows) (hl : leastF rows w rows.length = none) {m t : Int} {rs : List Int} (d : Drv N g w m t rs) : ¬ m ≤ limit := fun hm => by
  obtain ⟨inv, _, h⟩ := h
  have sp := leastF_spec (nm := w) rows.length (Nat.le_refl _)
  rw [hl] at sp
  rcases h with ⟨cov, hno⟩ | ⟨rows0, row, e, h0, ew, _, _⟩
  · rcases drv_cov inv cov ok d hm with ⟨j, row, h0, hj, a, _, _⟩ | ⟨_, hk, _⟩
    · exact hno j row h0 hj a
    · cases hk
  · have hx : rows[rows0.length]? = some row := by rw [e]; simp
    exact sp rows0.length row h0 (by rw [e]; simp) hx ew
theorem leg_some (ok : NetOk N) (h : RowsPost N g limit (some w) rows) {b : Nat} (hl : leastF rows w rows.length = some b) : ∃ rb, rows[b]? = some rb ∧ BestD N g w limit rb.tl rb.mi (roadsOf rows (b : Int)) := by
  obtain ⟨inv, _, h⟩ := h
  have sp := leastF_spec (nm := w) rows.length (Nat.le_refl _)
  rw [hl] at sp
  obtain ⟨b0, b1, rb, hb, eb, hm⟩ := sp
  rcases h with ⟨cov, hno⟩ | ⟨rows0, row, e, h0, ew, hu, hbest⟩
  · exact absurd eb (hno b rb b0 hb)
  · have hx : rows[rows0.length]? = some row := by rw [e]; simp
    have hlen : rows.length = rows0.length + 1 := by rw [e]; simp
    have hbe : b = rows0.length := by
      refine Classical.byContradiction fun z => ?_
      have hb2 := hb
      rw [e, List.getElem?_append_left (by omega)] at hb2
      exact hu b rb b0 hb2 eb
    subst hbe
    rw [hx] at hb
    cases hb
    obtain ⟨d, dl⟩ := inv.drv _ _ h0 hx
    rw [ew] at d
    exact ⟨_, hx, d, dl, hbest⟩
end
theorem Drv.roads {N : NetD} {g w : Str} {m t : Int} {rs : List Int} (d : Drv N g w m t rs) : ∀ i ∈ rs, 0 ≤ i ∧ i < (N.roads.length : Int) := by
  induction d with
  | one h _ _ =>
    have := (List.getElem?_eq_some_iff.mp h).1
    intro i hi
    rw [List.mem_singleton] at hi
    omega
  | more d _ h _ _ ih =>
    have := (List.getElem?_eq_some_iff.mp h).1
    intro i hi
    rcases List.mem_append.mp hi with z | z
    · exact ih i z
    · rw [List.mem_singleton] at z
      omega
end Toll

set_option Elab.async false
set_option linter.all false
set_option maxRecDepth 100000
set_option maxHeartbeats 4000000
namespace Toll
open PySem L2
/-- the least of what there is -/
def Best (S : Int → Prop) : Option Int → Prop
  | none => ∀ t, ¬ S t
  | some c => S c ∧ ∀ t, S t → c ≤ t
theorem Best.iff {S S' : Int → Prop} (h : ∀ t, S t ↔ S' t) {o : Option Int} (b : Best S o) : Best S' o := by
  have : S = S' := funext fun t => propext (h t)
  rw [← this]
  exact b
theorem Best.uniq {S : Int → Prop} {o o' : Option Int} (b : Best S o) (b' : Best S o') : o = o' := by
  cases o with
  | none => cases o' with
    | none => rfl
    | some c => exact absurd b'.1 (b c)
  | some c => cases o' with
    | none => exact absurd b.1 (b' c)
    | some c' =>
      have := b.2 _ b'.1
      have := b'.2 _ b.1
      rw [show c = c' by omega]
def minO : Option Int → Option Int → Option Int
  | none, b => b
  | a, none => a
  | some a, some b => some (if b < a then b else a)
theorem Best.or {S S' : Int → Prop} {o o' : Option Int} (b : Best S o) (b' : Best S' o') : Best (fun t => S t ∨ S' t) (minO o o') := by
  cases o with
  | none => cases o' with
    | none => exact fun t h => h.elim (b t) (b' t)
    | some c => exact ⟨.inr b'.1, fun t h => h.elim (fun z => absurd z (b t)) (b'.2 t)⟩
  | some a => cases o' with
    | none => exact ⟨.inl b.1, fun t h => h.elim (b.2 t) (fun z => absurd z (b' t))⟩
    | some c =>
      show Best _ (some (if c < a then c else a))
      by_cases h : c < a
      · rw [if_pos h]
        exact ⟨.inr b'.1, fun t z => z.elim (fun z => by have := b.2 t z; omega) (b'.2 t)⟩
      · rw [if_neg h]
        exact ⟨.inl b.1, fun t z => z.elim (b.2 t) (fun z => by have := b'.2 t z; omega)⟩
section
variable {N : NetD} {one : Str} {u : Int}
/-- the road k makes the last step of a drive of M minutes and toll t to w -/
def LineS (N : NetD) (one : Str) (M : Int) (w : Str) (k : Nat) (t : Int) : Prop := ∃ r, N.roads[k]? = some r ∧ r.op = true ∧ r.other = w ∧ ((r.one = one ∧ r.mi = M ∧ t = r.tl) ∨ ∃ m' t' rs, Drv N one r.one m' t' rs ∧ seesOf N.gates r.one = some false ∧ M = m' + r.mi ∧ t = t' + r.tl)
theorem drv_line {M : Int} {w : Str} {t : Int} : (∃ rs, Drv N one w M t rs) ↔ ∃ k, k < N.roads.length ∧ LineS N one M w k t := by
  constructor
  · rintro ⟨rs, d⟩
    cases d with
    | one h ho e => exact ⟨_, (List.getElem?_eq_some_iff.mp h).1, _, h, ho, rfl, .inl ⟨e, rfl, rfl⟩⟩
    | more d hb h ho e =>
      subst e
      exact ⟨_, (List.getElem?_eq_some_iff.mp h).1, _, h, ho, rfl, .inr ⟨_, _, _, d, hb, rfl, rfl⟩⟩
  · rintro ⟨k, _, r, h, ho, rfl, ⟨e, rfl, rfl⟩ | ⟨m', t', rs, d, hb, rfl, rfl⟩⟩
    · exact ⟨_, .one h ho e⟩
    · exact ⟨_, .more d hb h ho rfl⟩
/-- what the law keeps of minute m -/
def CostAt (N : NetD) (one : Str) (u : Int) (m : Nat) (fk : List (Key × V)) : Prop := ∀ w, ∃ o : Option Int, valV fk (Sum.inr w) = o.map V.int ∧ Best (fun t => ∃ rs, Drv N one w (u * (m : Int)) t rs) o
/-- the same of the first i roads -/
def PartAt (N : NetD) (one : Str) (u : Int) (m i : Nat) (fk : List (Key × V)) : Prop := ∀ w, ∃ o : Option Int, valV fk (Sum.inr w) = o.map V.int ∧ Best (fun t => ∃ k, k < i ∧ LineS N one (u * (m : Int)) w k t) o
theorem part0 (N : NetD) (one : Str) (u : Int) (m : Nat) : PartAt N one u m 0 [] := fun w => ⟨none, valV_nil, fun t ⟨k, h, _⟩ => by omega⟩
theorem part_all {m : Nat} {fk : List (Key × V)} (h : PartAt N one u m N.roads.length fk) : CostAt N one u m fk := fun w => by
  obtain ⟨o, e, b⟩ := h w
  exact ⟨o, e, b.iff fun t => drv_line.symm⟩
/-- a road that makes no drive of these minutes -/
theorem part_skip {m i : Nat} {fk : List (Key × V)} (h : PartAt N one u m i fk) (hn : ∀ w t, ¬ LineS N one (u * (m : Int)) w i t) : PartAt N one u m (i + 1) fk := fun w => by
  obtain ⟨o, e, b⟩ := h w
  refine ⟨o, e, b.iff fun t => ⟨fun ⟨k, hk, z⟩ => ⟨k, by omega, z⟩, fun ⟨k, hk, z⟩ => ?_⟩⟩
  by_cases hki : k = i
  · subst hki
    exact absurd z (hn w t)
  · exact ⟨k, by omega, z⟩
/-- the tolls that the road i gives -/
theorem line_tolls {m i j : Nat} {r : RoadD} (hu : 1 ≤ u) (hr : N.roads[i]? = some r) (ho : r.op = true) (hj : r.mi = u * (j : Int)) (hle : j ≤ m) {o : Option Int} (hb : Best (fun t => ∃ rs, Drv N one r.one (u * ((m - j : Nat) : Int)) t rs) o) :
    Best (fun t => LineS N one (u * (m : Int)) r.other i t) (minO (if m - j = 0 ∧ r.one = one then some r.tl else none) (if seesOf N.gates r.one = some false then o.map (· + r.tl) else none)) := by
  have eu : ∀ a : Int, u * (m : Int) = a + r.mi ↔ a = u * ((m - j : Nat) : Int) := fun a => by
    rw [hj, show ((m - j : Nat) : Int) = (m : Int) - (j : Int) by omega, Int.mul_sub]
    omega
  have b1 : Best (fun t => m - j = 0 ∧ r.one = one ∧ t = r.tl) (if m - j = 0 ∧ r.one = one then some r.tl else none) := by
    by_cases h : m - j = 0 ∧ r.one = one
    · rw [if_pos h]
      exact ⟨⟨h.1, h.2, rfl⟩, fun t z => by have := z.2.2; omega⟩
    · rw [if_neg h]
      exact fun t z => h ⟨z.1, z.2.1⟩
  have b2 : Best (fun t => seesOf N.gates r.one = some false ∧ ∃ t' rs, Drv N one r.one (u * ((m - j : Nat) : Int)) t' rs ∧ t = t' + r.tl) (if seesOf N.gates r.one = some false then o.map (· + r.tl) else none) := by
    by_cases h : seesOf N.gates r.one = some false
    · rw [if_pos h]
      cases o with
      | none => exact fun t ⟨_, t', rs, d, _⟩ => hb t' ⟨rs, d⟩
      | some c =>
        obtain ⟨⟨rs, d⟩, hm⟩ := hb
        exact ⟨⟨h, c, rs, d, rfl⟩, fun t ⟨_, t', rs', d', e⟩ => by have := hm t' ⟨rs', d'⟩; show c + r.tl ≤ t; omega⟩
    · rw [if_neg h]
      exact fun t z => h z.1
  refine (b1.or b2).iff fun t => ⟨?_, ?_⟩
  · rintro (⟨h1, h2, h3⟩ | ⟨h1, t', rs, d, h3⟩)
    · refine ⟨r, hr, ho, rfl, .inl ⟨h2, ?_, h3⟩⟩
      rw [hj, show j = m by omega]
    · exact ⟨r, hr, ho, rfl, .inr ⟨_, t', rs, d, h1, (eu _).mpr rfl, h3⟩⟩
  · rintro ⟨r', hr', _, _, h⟩
    have er : r = r' := Option.some.inj (hr.symm.trans hr')
    subst er
    rcases h with ⟨h1, h2, h3⟩ | ⟨m', t', rs, d, h1, h2, h3⟩
    · refine .inl ⟨?_, h1, h3⟩
      have := (eu 0).mp (by omega)
      have : u * ((m - j : Nat) : Int) = 0 := this.symm
      rcases Int.mul_eq_zero.mp this with z | z <;> omega
    · rw [(eu m').mp h2] at d
      exact .inr ⟨h1, t', rs, d, h3⟩
/-- what is put for it -/
def putC (fk : List (Key × V)) (w : Str) (c : Int) : List (Key × V) := putK fk (Sum.inr w) (V.int c)
theorem part_line {m i : Nat} {r : RoadD} {fk : List (Key × V)} (h : PartAt N one u m i fk) (hr : N.roads[i]? = some r) {o : Option Int} (hb : Best (fun t => LineS N one (u * (m : Int)) r.other i t) o) :
    ∃ x : Option Int, valV fk (Sum.inr r.other) = x.map V.int ∧ (∀ c, o = some c → (∀ a, x = some a → c < a) → PartAt N one u m (i + 1) (putC fk r.other c)) ∧ (∀ c, o = some c → ∀ a, x = some a → ¬ c < a → PartAt N one u m (i + 1) fk) ∧ (o = none → PartAt N one u m (i + 1) fk) := by
  obtain ⟨x, ex, bx⟩ := h r.other
  have oth : ∀ w, w ≠ r.other → ∃ y : Option Int, valV fk (Sum.inr w) = y.map V.int ∧ Best (fun t => ∃ k, k < i + 1 ∧ LineS N one (u * (m : Int)) w k t) y := fun w hw => by
    obtain ⟨y, ey, b⟩ := h w
    refine ⟨y, ey, b.iff fun t => ⟨fun ⟨k, hk, z⟩ => ⟨k, by omega, z⟩, fun ⟨k, hk, z⟩ => ?_⟩⟩
    by_cases hki : k = i
    · subst hki
      obtain ⟨r', hr', _, e, _⟩ := z
      have er : r = r' := Option.some.inj (hr.symm.trans hr')
      rw [← er] at e
      exact absurd e.symm hw
    · exact ⟨k, by omega, z⟩
  have bb : Best (fun t => ∃ k, k < i + 1 ∧ LineS N one (u * (m : Int)) r.other k t) (minO x o) := (bx.or hb).iff fun t => ⟨fun z => z.elim (fun ⟨k, hk, z⟩ => ⟨k, by omega, z⟩) fun z => ⟨i, by omega, z⟩, fun ⟨k, hk, z⟩ => by
    by_cases hki : k = i
    · subst hki
      exact .inr z
    · exact .inl ⟨k, by omega, z⟩⟩
  have keep : minO x o = x → PartAt N one u m (i + 1) fk := fun e w => by
    by_cases hw : w = r.other
    · subst hw
      rw [e] at bb
      exact ⟨x, ex, bb⟩
    · exact oth w hw
  refine ⟨x, ex, fun c ec hc w => ?_, fun c ec a ea hc => keep ?_, fun ec => keep ?_⟩
  · by_cases hw : w = r.other
    · subst hw
      refine ⟨some c, by unfold putC; rw [valV_put, if_pos rfl]; rfl, ?_⟩
      have : minO x o = some c := by
        rw [ec]
        cases x with
        | none => rfl
        | some a =>
          show some (if c < a then c else a) = _
          rw [if_pos (hc a rfl)]
      rw [this] at bb
      exact bb
    · obtain ⟨y, ey, b⟩ := oth w hw
      refine ⟨y, ?_, b⟩
      rw [← ey]
      unfold putC
      rw [valV_put, if_neg (by intro z; injection z with z; exact hw z)]
  · rw [ec, ea]
    show some (if c < a then c else a) = _
    rw [if_neg hc]
  · rw [ec]
    cases x <;> rfl
/-- a road too long for these minutes makes none -/
theorem line_far {m i j : Nat} {r : RoadD} (ok : NetOk N) (hu : 1 ≤ u) (hr : N.roads[i]? = some r) (h : r.op = false ∨ (r.mi = u * (j : Int) ∧ m < j)) (w : Str) (t : Int) : ¬ LineS N one (u * (m : Int)) w i t := by
  rintro ⟨r', hr', ho, _, hd⟩
  have er : r = r' := Option.some.inj (hr.symm.trans hr')
  subst er
  rcases h with h | ⟨h, hlt⟩
  · rw [h] at ho
    cases ho
  · have hlt : u * (m : Int) < u * (j : Int) := by
      have := Int.mul_le_mul_of_nonneg_left (show (m : Int) + 1 ≤ (j : Int) by omega) (show 0 ≤ u by omega)
      rw [Int.mul_add] at this
      omega
    rcases hd with ⟨_, h2, _⟩ | ⟨m', t', rs, d, _, h2, _⟩
    · omega
    · have := (d.pos ok).1
      omega
end
end Toll

set_option Elab.async false
set_option linter.all false
set_option maxRecDepth 100000
set_option maxHeartbeats 4000000
namespace Toll
open PySem L2
section
variable {N : NetD} {one w : Str} {u : Int}
/-- the least of the minutes below n -/
def LeastP (N : NetD) (one w : Str) (u : Int) (n : Nat) : Option (Int × Nat) → Prop
  | none => ∀ (j : Nat) t rs, j < n → ¬ Drv N one w (u * (j : Int)) t rs
  | some (c, m) => m < n ∧ (∃ rs, Drv N one w (u * (m : Int)) c rs) ∧ ∀ (j : Nat) t rs, j < n → Drv N one w (u * (j : Int)) t rs → c < t ∨ c = t ∧ m ≤ j
theorem least0 (N : NetD) (one w : Str) (u : Int) : LeastP N one w u 0 none := fun j t rs h => by omega
theorem least_skip {n : Nat} {o : Option (Int × Nat)} (h : LeastP N one w u n o) (hn : ∀ t rs, Drv N one w (u * (n : Int)) t rs → ∃ c m, o = some (c, m) ∧ c ≤ t) : LeastP N one w u (n + 1) o := by
  cases o with
  | none =>
    intro j t rs hj d
    by_cases e : j = n
    · subst e
      obtain ⟨c, m, z, _⟩ := hn t rs d
      cases z
    · exact h j t rs (by omega) d
  | some q =>
    obtain ⟨c, m⟩ := q
    obtain ⟨h1, h2, h3⟩ := h
    refine ⟨by omega, h2, fun j t rs hj d => ?_⟩
    by_cases e : j = n
    · subst e
      obtain ⟨c', m', z, hc⟩ := hn t rs d
      cases z
      omega
    · exact h3 j t rs (by omega) d
theorem least_new {n : Nat} {o : Option (Int × Nat)} {c : Int} (h : LeastP N one w u n o) (hb : Best (fun t => ∃ rs, Drv N one w (u * (n : Int)) t rs) (some c)) (hn : ∀ a m, o = some (a, m) → c < a) : LeastP N one w u (n + 1) (some (c, n)) := by
  obtain ⟨⟨rs, d⟩, hm⟩ := hb
  refine ⟨by omega, ⟨rs, d⟩, fun j t rs' hj d' => ?_⟩
  by_cases e : j = n
  · subst e
    have := hm t ⟨rs', d'⟩
    omega
  · cases o with
    | none => exact absurd d' (h j t rs' (by omega))
    | some q =>
      obtain ⟨a, m⟩ := q
      have h1 := hn a m rfl
      have := h.2.2 j t rs' (by omega) d'
      omega
def ltB : Option Int → Option (Int × Nat) → Bool
  | none, _ => false
  | some _, none => true
  | some c, some (a, _) => decide (c < a)
def bestV (H : Hp) (bv : V) : Option (Int × Nat) → Prop
  | none => bv = .non
  | some (c, m) => ∃ T, bv = .ref T ∧ H T = some (.tup [.int c, .int (m : Int)])
theorem bestV.same {H H' : Hp} {bv : V} {o : Option (Int × Nat)} (h : bestV H bv o) (s : Same H H') : bestV H' bv o := by
  cases o with
  | none => exact h
  | some q =>
    obtain ⟨T, e, hT⟩ := h
    exact ⟨T, e, s _ _ hT⟩
/-- the gates that a drive passes -/
def WalkP (N : NetD) (g w : Str) (rs : List Int) : Prop := ∃ ga : Nat → Str, ga 0 = g ∧ ga rs.length = w ∧ ∀ k x, rs[k]? = some x → ∃ (i : Nat) (r : RoadD), x = (i : Int) ∧ N.roads[i]? = some r ∧ r.op = true ∧ r.one = ga k ∧ (0 < k → seesOf N.gates (ga k) = some false) ∧ r.other = ga (k + 1)
theorem Drv.walk {g : Str} {m t : Int} {rs : List Int} (d : Drv N g w m t rs) : WalkP N g w rs ∧ 0 < rs.length := by
  induction d with
  | @one i r h ho e =>
    refine ⟨⟨fun k => if k = 0 then g else r.other, rfl, rfl, fun k x hx => ?_⟩, by simp⟩
    have hk : k = 0 := by
      have := (List.getElem?_eq_some_iff.mp hx).1
      simp at this
      exact this
    subst hk
    have hx : (i : Int) = x := by simpa using hx
    exact ⟨i, r, hx.symm, h, ho, e, fun z => absurd z (by omega), rfl⟩
  | @more v m t rs i r d hb h ho e ih =>
    obtain ⟨⟨ga, a0, a1, hw⟩, hp⟩ := ih
    obtain ⟨f, f1, f2⟩ : ∃ f : Nat → Str, (∀ k, k ≤ rs.length → f k = ga k) ∧ f (rs.length + 1) = r.other := ⟨fun k => if k ≤ rs.length then ga k else r.other, fun k hk => if_pos hk, if_neg (by omega)⟩
    refine ⟨⟨f, by rw [f1 0 (by omega)]; exact a0, by rw [List.length_append, List.length_singleton]; exact f2, fun k x hx => ?_⟩, by simp⟩
    rcases get_app hx with z | ⟨ek, ex⟩
    · have := (List.getElem?_eq_some_iff.mp z).1
      rw [f1 k (by omega), f1 (k + 1) (by omega)]
      exact hw k x z
    · subst ek
      rw [f1 _ (Nat.le_refl _), f2, a1]
      exact ⟨i, r, ex, h, ho, e, fun _ => hb, rfl⟩
def tlOf (N : NetD) (x : Int) : Int := ((N.roads[x.toNat]?).map (·.tl)).getD 0
def miOf (N : NetD) (x : Int) : Int := ((N.roads[x.toNat]?).map (·.mi)).getD 0
theorem Drv.sums {g : Str} {m t : Int} {rs : List Int} (d : Drv N g w m t rs) : (rs.map (tlOf N)).foldl (· + ·) 0 = t ∧ (rs.map (miOf N)).foldl (· + ·) 0 = m := by
  have one : ∀ {i : Nat} {r : RoadD}, N.roads[i]? = some r → tlOf N (i : Int) = r.tl ∧ miOf N (i : Int) = r.mi := fun {i r} h => by
    unfold tlOf miOf
    rw [Int.toNat_natCast, h]
    exact ⟨rfl, rfl⟩
  induction d with
  | one h _ _ =>
    rw [List.map_singleton, List.map_singleton]
    show 0 + _ = _ ∧ 0 + _ = _
    rw [(one h).1, (one h).2]
    omega
  | more d _ h _ _ ih =>
    rw [List.map_append, List.map_append, List.foldl_append, List.foldl_append, ih.1, ih.2]
    show _ + tlOf N _ = _ ∧ _ + miOf N _ = _
    rw [(one h).1, (one h).2]
    exact ⟨rfl, rfl⟩
/-- the least of the drives in time, minute by minute -/
theorem least_leg {limit rest : Int} {most : Nat} (ok : NetOk N) (hu : 1 ≤ u) (hun : ∀ r ∈ N.roads, r.op = true → r.mi % u = 0) (hl : limit = u * (most : Int) + rest) (h0 : 0 ≤ rest) (h1 : rest < u) {o : Option (Int × Nat)} (h : LeastP N one w u (most + 1) o) :
    (o = none ↔ ∀ m t rs, Drv N one w m t rs → ¬ m ≤ limit) ∧ ∀ c k, o = some (c, k) → ∀ t m rs, BestD N one w limit t m rs → t = c ∧ m = u * (k : Int) := by
  have tm : ∀ m t rs, Drv N one w m t rs → m ≤ limit → ∃ j : Nat, j < most + 1 ∧ m = u * (j : Int) := fun m t rs d hm => by
    have p := (d.pos ok).1
    have e := d.unit hun
    have e2 := Int.mul_ediv_add_emod m u
    have q0 : 0 ≤ m / u := Int.ediv_nonneg (by omega) (by omega)
    refine ⟨(m / u).toNat, ?_, by rw [Int.toNat_of_nonneg q0]; omega⟩
    have : m / u < (most : Int) + 1 := by
      refine Classical.byContradiction fun z => ?_
      have := Int.mul_le_mul_of_nonneg_left (show (most : Int) + 1 ≤ m / u by omega) (show 0 ≤ u by omega)
      rw [Int.mul_add] at this
      omega
    omega
  have lim : ∀ j : Nat, j < most + 1 → u * (j : Int) ≤ limit := fun j hj => by
    have := Int.mul_le_mul_of_nonneg_left (show (j : Int) ≤ (most : Int) by omega) (show 0 ≤ u by omega)
    omega
  refine ⟨⟨fun e m t rs d hm => ?_, fun hn => ?_⟩, fun c k e t m rs ⟨d, dl, db⟩ => ?_⟩
  · subst e
    obtain ⟨j, hj, rfl⟩ := tm m t rs d hm
    exact h j t rs hj d
  · cases o with
    | none => rfl
    | some q =>
      obtain ⟨c, k⟩ := q
      obtain ⟨hk, ⟨rs, d⟩, _⟩ := h
      exact absurd (lim k hk) (hn _ _ _ d)
  · subst e
    obtain ⟨hk, ⟨rs', d'⟩, hm⟩ := h
    obtain ⟨j, hj, rfl⟩ := tm m t rs d dl
    have a := hm j t rs hj d
    have b := db _ _ _ d' (lim k hk)
    have ec : t = c := by omega
    subst ec
    have a : k ≤ j := by omega
    have b : u * (j : Int) ≤ u * (k : Int) := by omega
    have := Int.mul_le_mul_of_nonneg_left (show (k : Int) ≤ (j : Int) by omega) (show 0 ≤ u by omega)
    exact ⟨rfl, by omega⟩
end
end Toll

set_option Elab.async false
set_option linter.all false
set_option maxRecDepth 100000
set_option maxHeartbeats 4000000
namespace Toll
open PySem L2
theorem mod_nat (c : Int) {n : Nat} (h : 0 < n) : ∃ i : Nat, c % (n : Int) = (i : Int) ∧ i < n := by
  have h1 := Int.emod_nonneg c (b := (n : Int)) (by omega)
  have h2 := Int.emod_lt_of_pos c (b := (n : Int)) (by omega)
  exact ⟨(c % (n : Int)).toNat, by omega, by omega⟩
theorem sees_new {gs : List (Str × Bool)} (nd : (gs.map (·.1)).Nodup) {i : Nat} {gq : Str × Bool} (hgq : gs[i]? = some gq) : seesOf (gs.take i) gq.1 = none := by
  have il : i < gs.length := (List.getElem?_eq_some_iff.mp hgq).1
  rw [seesOf_none]
  intro m
  obtain ⟨q', hq', e⟩ := List.mem_map.mp m
  obtain ⟨j, hj⟩ := List.getElem?_of_mem hq'
  have jl := (List.getElem?_eq_some_iff.mp hj).1
  rw [List.length_take] at jl
  rw [List.getElem?_take_of_lt (by omega)] at hj
  have := nodup_at nd (s := j) (t := i) (nm := gq.1) (c := q'.2) (d := gq.2) (by rw [hj, ← e]) hgq
  omega
theorem foldl_sum : ∀ (l : List Int) (a : Int), l.foldl (· + ·) a = a + l.sum
  | [], a => by simp
  | x :: l, a => by
    rw [List.foldl_cons, foldl_sum l, List.sum_cons]
    omega
theorem Drv.sum {N : NetD} {g w : Str} {m t : Int} {rs : List Int} (d : Drv N g w m t rs) : (rs.map (tlOf N)).sum = t ∧ (rs.map (miOf N)).sum = m := by
  have h := d.sums
  rw [foldl_sum, foldl_sum] at h
  omega
theorem tlOf_at {N : NetD} {i : Nat} {r : RoadD} (h : N.roads[i]? = some r) : tlOf N (i : Int) = r.tl ∧ miOf N (i : Int) = r.mi := by
  unfold tlOf miOf
  rw [Int.toNat_natCast, h]
  exact ⟨rfl, rfl⟩
theorem emod_two {y L : Int} (h0 : 0 ≤ y) (h1 : y < 2 * L) : y % L = if y < L then y else y - L := by
  by_cases h : y < L
  · rw [if_pos h]
    exact Int.emod_eq_of_lt h0 h
  · rw [if_neg h, ← Int.emod_eq_of_lt (a := y - L) (b := L) (by omega) (by omega)]
    exact (Int.sub_emod_right y L).symm
theorem gl_get {H : Hp} {gts : List Addr} {gs : List (Str × Bool)} (hG : GL H gts gs) {x : Int} (a0 : 0 ≤ x) (a1 : x < (gs.length : Int)) : ∃ (t : Addr) (q : Str × Bool), atI (gts.map V.ref) x = some (.ref t) ∧ H t = some (.lst [.str q.1, .bl q.2]) ∧ gs[x.toNat]? = some q := by
  obtain ⟨q, hq⟩ : ∃ q, gs[x.toNat]? = some q := ⟨_, List.getElem?_eq_getElem (by omega)⟩
  obtain ⟨t, ht, hl⟩ := paired_get hG hq
  exact ⟨t, q, atI_of (j := x.toNat) (by omega) (by rw [List.getElem?_map, ht]; rfl), hl, hq⟩
end Toll

set_option Elab.async false
set_option linter.all false
set_option maxRecDepth 100000
set_option maxHeartbeats 4000000
namespace Toll
open PySem L2
/-! ### what the search tells is one and the same -/
theorem kLe_anti : ∀ {a b : List Int}, TH.kLe a b → TH.kLe b a → a = b
  | [], [], _, _ => rfl
  | [], y :: b, _, h => by
    unfold TH.kLe at h
    rw [TH.kLt_nilc] at h
    cases h
  | x :: a, [], h, _ => by
    unfold TH.kLe at h
    rw [TH.kLt_nilc] at h
    cases h
  | x :: a, y :: b, h1, h2 => by
    rw [TH.kLe_cons] at h1 h2
    have : x = y := by omega
    subst this
    rw [kLe_anti (h1.elim (fun z => absurd z (Int.lt_irrefl x)) (·.2)) (h2.elim (fun z => absurd z (Int.lt_irrefl x)) (·.2))]
def Beat (N : NetD) (rows : List Row) (k : List Int) : Prop := ∃ j row, 0 < j ∧ rows[j]? = some row ∧ (∃ c, N.gates[(k.getD 2 0).toNat]? = some (row.nm, c)) ∧ row.mi ≤ k.getD 1 0
def newKeys (N : NetD) (limit : Int) (row : Row) (b : Nat) : List (List Int) := ((waysF N row.nm N.roads.length).filter fun x => decide (row.mi + x.mi ≤ limit)).map (wayKey row b)
def keyRow (nm : Str) (k : List Int) : Row := ⟨nm, k.getD 1 0, k.getD 0 0, k.getD 3 0, k.getD 4 0⟩
/-- from rows and keys to the rows told -/
inductive Run (N : NetD) (limit : Int) (goal : Option Str) : List Row → List (List Int) → List Row → Prop
  | done {rows : List Row} : Run N limit goal rows [] rows
  | skip {rows : List Row} {ks ks' : List (List Int)} {k : List Int} {fin : List Row} (hp : ks.Perm (k :: ks')) (hm : ∀ y ∈ ks', TH.kLe k y) (hb : Beat N rows k) (h : Run N limit goal rows ks' fin) : Run N limit goal rows ks fin
  | last {rows : List Row} {ks ks' : List (List Int)} {k : List Int} {nm : Str} {c : Bool} (hp : ks.Perm (k :: ks')) (hm : ∀ y ∈ ks', TH.kLe k y) (hb : ¬ Beat N rows k) (hn : N.gates[(k.getD 2 0).toNat]? = some (nm, c)) (hg : goal = some nm) : Run N limit goal rows ks (rows ++ [keyRow nm k])
  | next {rows : List Row} {ks ks' : List (List Int)} {k : List Int} {nm : Str} {c : Bool} {fin : List Row} (hp : ks.Perm (k :: ks')) (hm : ∀ y ∈ ks', TH.kLe k y) (hb : ¬ Beat N rows k) (hn : N.gates[(k.getD 2 0).toNat]? = some (nm, c)) (hg : ¬ goal = some nm)
      (h : Run N limit goal (rows ++ [keyRow nm k]) (ks' ++ if c = true then [] else newKeys N limit (keyRow nm k) rows.length) fin) : Run N limit goal rows ks fin
section
variable {N : NetD} {limit : Int} {goal : Option Str} {rows fin fin' : List Row} {ks ks' : List (List Int)} {k : List Int}
theorem min_one {a b : List (List Int)} {x y : List Int} (ha : ks.Perm (x :: a)) (hb : ks'.Perm (y :: b)) (p : ks.Perm ks') (ma : ∀ z ∈ a, TH.kLe x z) (mb : ∀ z ∈ b, TH.kLe y z) : x = y ∧ a.Perm b := by
  have h : (x :: a).Perm (y :: b) := ha.symm.trans (p.trans hb)
  have e : x = y := by
    have h1 : x ∈ y :: b := h.mem_iff.mp (List.mem_cons_self ..)
    have h2 : y ∈ x :: a := h.mem_iff.mpr (List.mem_cons_self ..)
    rcases List.mem_cons.mp h1 with z | z
    · exact z
    · rcases List.mem_cons.mp h2 with w | w
      · exact w.symm
      · exact kLe_anti (ma y w) (mb x z)
  subst e
  exact ⟨rfl, h.cons_inv⟩
theorem no_keys {x : List Int} {a : List (List Int)} (h : ([] : List (List Int)).Perm (x :: a)) : False := by
  have := h.length_eq
  simp at this
theorem Run.uniq (h : Run N limit goal rows ks fin) : ∀ {ks2 fin2}, ks.Perm ks2 → Run N limit goal rows ks2 fin2 → fin = fin2 := by
  induction h with
  | done =>
    intro ks2 fin2 p h2
    have := p.nil_eq
    subst this
    cases h2 with
    | done => rfl
    | skip hp => exact (no_keys hp).elim
    | last hp => exact (no_keys hp).elim
    | next hp => exact (no_keys hp).elim
  | skip hp hm hb _ ih =>
    intro ks2 fin2 p h2
    cases h2 with
    | done => exact (no_keys (p.symm.trans hp)).elim
    | skip hp2 hm2 hb2 h2 =>
      obtain ⟨e, q⟩ := min_one hp hp2 p hm hm2
      exact ih q h2
    | last hp2 hm2 hb2 =>
      obtain ⟨e, q⟩ := min_one hp hp2 p hm hm2
      subst e
      exact absurd hb hb2
    | next hp2 hm2 hb2 =>
      obtain ⟨e, q⟩ := min_one hp hp2 p hm hm2
      subst e
      exact absurd hb hb2
  | last hp hm hb hn hg =>
    intro ks2 fin2 p h2
    cases h2 with
    | done => exact (no_keys (p.symm.trans hp)).elim
    | skip hp2 hm2 hb2 =>
      obtain ⟨e, q⟩ := min_one hp hp2 p hm hm2
      subst e
      exact absurd hb2 hb
    | last hp2 hm2 hb2 hn2 hg2 =>
      obtain ⟨e, q⟩ := min_one hp hp2 p hm hm2
      subst e
      rw [hn] at hn2
      cases hn2
      rfl
    | next hp2 hm2 hb2 hn2 hg2 =>
      obtain ⟨e, q⟩ := min_one hp hp2 p hm hm2
      subst e
      rw [hn] at hn2
      cases hn2
      exact absurd hg hg2
  | next hp hm hb hn hg _ ih =>
    intro ks2 fin2 p h2
    cases h2 with
    | done => exact (no_keys (p.symm.trans hp)).elim
    | skip hp2 hm2 hb2 =>
      obtain ⟨e, q⟩ := min_one hp hp2 p hm hm2
      subst e
      exact absurd hb2 hb
    | last hp2 hm2 hb2 hn2 hg2 =>
      obtain ⟨e, q⟩ := min_one hp hp2 p hm hm2
      subst e
      rw [hn] at hn2
      cases hn2
      exact absurd hg2 hg
    | next hp2 hm2 hb2 hn2 hg2 h2 =>
      obtain ⟨e, q⟩ := min_one hp hp2 p hm hm2
      subst e
      rw [hn] at hn2
      cases hn2
      exact ih (q.append_right _) h2
theorem Run.perm (h : Run N limit goal rows ks fin) (p : ks'.Perm ks) : Run N limit goal rows ks' fin := by
  cases h with
  | done =>
    have := p.symm.nil_eq
    subst this
    exact .done
  | skip hp hm hb h => exact .skip (p.trans hp) hm hb h
  | last hp hm hb hn hg => exact .last (p.trans hp) hm hb hn hg
  | next hp hm hb hn hg h => exact .next (p.trans hp) hm hb hn hg h
end
/-- the rows told of a gate -/
def RunOf (N : NetD) (g : Str) (limit : Int) (goal : Option Str) (rows : List Row) : Prop := Run N limit goal [⟨g, 0, 0, -1, -1⟩] (newKeys N limit ⟨g, 0, 0, -1, -1⟩ 0) rows
theorem RunOf.uniq {N : NetD} {g : Str} {limit : Int} {goal : Option Str} {rows rows' : List Row} (h : RunOf N g limit goal rows) (h' : RunOf N g limit goal rows') : rows = rows' := Run.uniq h (.refl _) h'
def legOf (rows : List Row) (w : Str) : Option (Int × Int × List Int) := (leastF rows w rows.length).bind fun b => (rows[b]?).map fun rb => (rb.tl, rb.mi, roadsOf rows (b : Int))
def LegIs (N : NetD) (g w : Str) (limit : Int) (o : Option (Int × Int × List Int)) : Prop := ∃ rows, RunOf N g limit (some w) rows ∧ legOf rows w = o
theorem LegIs.uniq {N : NetD} {g w : Str} {limit : Int} {o o' : Option (Int × Int × List Int)} (h : LegIs N g w limit o) (h' : LegIs N g w limit o') : o = o' := by
  obtain ⟨r, h, e⟩ := h
  obtain ⟨r', h', e'⟩ := h'
  have := h.uniq h'
  subst this
  exact e.symm.trans e'
/-- of the loop's test -/
theorem Loop.beat {N : NetD} {g : Str} {limit u : Int} {goal : Option Str} {rows : List Row} {ks : List (List Int)} {fk : List (Key × V)} (h : Loop N g limit u goal rows ks fk) {k : List Int} {nm : Str} {c : Bool} (hn : N.gates[(k.getD 2 0).toNat]? = some (nm, c)) :
    Beat N rows k ↔ ∃ f, valV fk (Sum.inr nm) = some (.int f) ∧ f ≤ k.getD 1 0 := by
  constructor
  · rintro ⟨j, row, h0, hj, ⟨d, hd⟩, hm⟩
    rw [hn] at hd
    cases hd
    cases e : valV fk (Sum.inr row.nm : Key) with
    | none => exact absurd rfl (h.f0 _ e j row h0 hj)
    | some v =>
      obtain ⟨j2, row2, _, _, _, ev, hle⟩ := h.f1 _ _ e
      subst ev
      exact ⟨_, rfl, Int.le_trans (hle j row h0 hj rfl) hm⟩
  · rintro ⟨f, e, hf⟩
    obtain ⟨j, row, h0, hj, en, ev, _⟩ := h.f1 _ _ e
    injection ev with ev
    subst ev en
    exact ⟨j, row, h0, hj, ⟨c, hn⟩, hf⟩
end Toll
namespace Toll
open PySem L2
theorem keys_mem {a b : List (List Int)} {ws : List Way} {row : Row} {n : Nat} {limit : Int} (p : a.Perm (b ++ (ws.filter fun x => decide (row.mi + x.mi ≤ limit)).map (wayKey row n))) : ∀ k, k ∈ a ↔ k ∈ b ∨ ∃ x ∈ ws, row.mi + x.mi ≤ limit ∧ k = wayKey row n x := fun k => by
  rw [p.mem_iff, List.mem_append, List.mem_map]
  constructor
  · rintro (h | ⟨x, hx, e⟩)
    · exact .inl h
    · rw [List.mem_filter] at hx
      exact .inr ⟨x, hx.1, of_decide_eq_true hx.2, e.symm⟩
  · rintro (h | ⟨x, hx, hl, e⟩)
    · exact .inl h
    · exact .inr ⟨x, List.mem_filter.mpr ⟨hx, decide_eq_true hl⟩, e.symm⟩
theorem filt_yes {ws : List Way} {i : Nat} {y : Way} {f : Way → Bool} (h : ws[i]? = some y) (hf : f y = true) : (ws.take (i + 1)).filter f = (ws.take i).filter f ++ [y] := by
  rw [List.take_add_one, h, List.filter_append]
  simp [hf]
theorem filt_no {ws : List Way} {i : Nat} {y : Way} {f : Way → Bool} (h : ws[i]? = some y) (hf : f y = false) : (ws.take (i + 1)).filter f = (ws.take i).filter f := by
  rw [List.take_add_one, h, List.filter_append]
  simp [hf]
end Toll

set_option Elab.async false
set_option linter.all false
set_option maxRecDepth 100000
set_option maxHeartbeats 4000000
namespace TH
open PySem PySem.Calls PySem.SeqAt PySem.W PyProof.Rows L2
variable {X : Cx}
/-- k > j, tuples of ints -/
def rGtK (K : PySem.W.Frag) : R2 := fun x y H Q => ∃ (a b : Addr) (k j : List Int), x = .ref a ∧ y = .ref b ∧ SqT K H a (k.map V.int) ∧ SqT K H b (j.map V.int) ∧ Q (.bl (kLt j k)) H
theorem dpAll_ks {K : PySem.W.Frag} {H : Hp} : ∀ k : List Int, DpAll K H (k.map V.int) (k.map PyData.int)
  | [] => .nil
  | n :: k => .cons (.int n) (dpAll_ks k)
theorem op_gtK (hu : X.A.units + 64 < cLine) : OpR X (compareOp .Gt) (rGtK X.K) := by
  intro pins s σ H x y v u Q I rx ry h
  obtain ⟨a, b, k, j, rfl, rfl, ha, hb, q⟩ := h
  obtain ⟨as, r1⟩ := Dp.reads I (kD k) (.ref a) v (.tup ha (dpAll_ks k)) rx
  obtain ⟨bs, r2⟩ := Dp.reads I (kD j) (.ref b) u (.tup hb (dpAll_ks j)) ry
  have dk : (kD k).depth = 1 := by unfold kD; simp only [PyData.depth]; rw [depth_ints]
  have hk : alike (kD k) (kD j) = true := by unfold kD; simp only [alike]; exact alike_ints k j
  have R := rcGt_alike (kD k) (kD j) X.A s v u as bs r1 r2 hk (by unfold kD; intro z; cases z) (by rw [dk]; omega)
  have z : wpAny (model X.prog X.w) X.A (compareOp .Gt v u) (EP X pins σ Q) X.xe s := R X.prog X.w X.xe (EP X pins σ Q) ⟨.bl _, H, I, rfl, q⟩
  exact z
end TH

set_option Elab.async false
set_option linter.all false
set_option maxRecDepth 100000
set_option maxHeartbeats 4000000
namespace Toll
open PySem L2
/-! ### rows picked -/
def pickF (f : Row → Bool) : List V → List Row → List V
  | u :: us, r :: rs => if f r = true then u :: pickF f us rs else pickF f us rs
  | _, _ => []
theorem pickF_nil (f : Row → Bool) : pickF f [] [] = [] := rfl
theorem pickF_snoc {f : Row → Bool} {u : V} {r : Row} : ∀ {us : List V} {rs : List Row}, us.length = rs.length → pickF f (us ++ [u]) (rs ++ [r]) = if f r = true then pickF f us rs ++ [u] else pickF f us rs
  | [], [], _ => by
    show (if f r = true then u :: pickF f [] [] else pickF f [] []) = _
    rfl
  | [], _ :: _, h => by simp at h
  | _ :: _, [], h => by simp at h
  | v :: us, q :: rs, h => by
    have ih := pickF_snoc (f := f) (u := u) (r := r) (us := us) (rs := rs) (by simpa using h)
    show (if f q = true then v :: pickF f (us ++ [u]) (rs ++ [r]) else pickF f (us ++ [u]) (rs ++ [r])) = if f r = true then (if f q = true then v :: pickF f us rs else pickF f us rs) ++ [u] else (if f q = true then v :: pickF f us rs else pickF f us rs)
    rw [ih]
    by_cases h1 : f q = true
    · rw [if_pos h1, if_pos h1]
      by_cases h2 : f r = true
      · rw [if_pos h2, if_pos h2]
        rfl
      · rw [if_neg h2, if_neg h2]
    · rw [if_neg h1, if_neg h1]
theorem pickF_paired {f : Row → Bool} {F : V → Row → Prop} : ∀ {us : List V} {rs : List Row}, Paired F us rs → Paired F (pickF f us rs) (rs.filter f)
  | _, _, .nil => .nil
  | u :: us, r :: rs, .cons h t => by
    have ih := pickF_paired (f := f) t
    show Paired F (if f r = true then u :: pickF f us rs else pickF f us rs) _
    by_cases h1 : f r = true
    · rw [if_pos h1, List.filter_cons_of_pos h1]
      exact .cons h ih
    · rw [if_neg h1, List.filter_cons_of_neg h1]
      exact ih
theorem pickF_step {f : Row → Bool} {us : List V} {rs : List Row} (hl : us.length = rs.length) {i : Nat} {u : V} {r : Row} (hu : us[i]? = some u) (hr : rs[i]? = some r) : pickF f (us.take (i + 1)) (rs.take (i + 1)) = if f r = true then pickF f (us.take i) (rs.take i) ++ [u] else pickF f (us.take i) (rs.take i) := by
  rw [List.take_add_one, List.take_add_one, hu, hr]
  exact pickF_snoc (by rw [List.length_take, List.length_take, hl])
theorem filter_one {f : Row → Bool} {rs : List Row} {k : Nat} {x : Row} (hk : rs[k]? = some x) (h : ∀ j r, rs[j]? = some r → (f r = true ↔ j = k)) : (rs.filter f).length = 1 := by
  have kl := (List.getElem?_eq_some_iff.mp hk).1
  have e : rs = rs.take k ++ x :: rs.drop (k + 1) := by
    obtain ⟨l, ex⟩ := List.getElem?_eq_some_iff.mp hk
    rw [← ex, ← List.drop_eq_getElem_cons l, List.take_append_drop]
  have h1 : (rs.take k).filter f = [] := by
    rw [List.filter_eq_nil_iff]
    intro r hr
    obtain ⟨j, hj⟩ := List.getElem?_of_mem hr
    have jl := (List.getElem?_eq_some_iff.mp hj).1
    rw [List.length_take] at jl
    rw [List.getElem?_take_of_lt (by omega)] at hj
    intro z
    have := (h j r hj).mp z
    omega
  have h2 : (rs.drop (k + 1)).filter f = [] := by
    rw [List.filter_eq_nil_iff]
    intro r hr
    obtain ⟨j, hj⟩ := List.getElem?_of_mem hr
    rw [List.getElem?_drop] at hj
    intro z
    have := (h _ r hj).mp z
    omega
  have h3 : f x = true := (h k x hk).mpr rfl
  rw [e, List.filter_append, List.filter_cons_of_pos h3, h1, h2]
  rfl
/-- rows by their gates -/
structure ByGate (H : Hp) (D : Addr) (us : List V) (rows : List Row) : Prop where
  fk : ∃ fk : List (Key × V), H D = some (.dK fk) ∧ ∀ nm : Str, (valV fk (Sum.inr nm) = none ∧ pickF (fun r => decide (r.nm = nm)) us rows = []) ∨ ∃ L, valV fk (Sum.inr nm) = some (.ref L) ∧ H L = some (.lst (pickF (fun r => decide (r.nm = nm)) us rows))
theorem ByGate.same {H H' : Hp} {D : Addr} {us : List V} {rows : List Row} (h : ByGate H D us rows) (s : Same H H') : ByGate H' D us rows := by
  obtain ⟨fk, h1, h2⟩ := h
  refine ⟨fk, s _ _ h1, fun nm => ?_⟩
  rcases h2 nm with h | ⟨L, e, h⟩
  · exact .inl h
  · exact .inr ⟨L, e, s _ _ h⟩
def beatF (nm : Str) (m t : Int) (r : Row) : Bool := decide (r.nm = nm) && (decide (r.mi ≤ m) && decide (r.tl ≤ t))
theorem filter_two (nm : Str) (m t : Int) (rows : List Row) : (rows.filter fun r => decide (r.nm = nm)).filter (fun r => decide (r.mi ≤ m) && decide (r.tl ≤ t)) = rows.filter (beatF nm m t) := by
  rw [List.filter_filter]
  congr 1
  funext r
  unfold beatF
  rw [Bool.and_comm]
section
variable {N : NetD} {g : Str} {limit : Int} {rows : List Row}
theorem dom_filter {nm : Str} {m t : Int} (h : Dom rows nm m t) : (rows.drop 1).filter (beatF nm m t) ≠ [] := by
  obtain ⟨j, row, h0, hj, e, h1, h2⟩ := h
  intro z
  rw [List.filter_eq_nil_iff] at z
  have hm : row ∈ rows.drop 1 := List.mem_of_getElem? (i := j - 1) (by rw [List.getElem?_drop, show 1 + (j - 1) = j by omega]; exact hj)
  refine z row hm ?_
  unfold beatF
  rw [decide_eq_true e, decide_eq_true h1, decide_eq_true h2]
  rfl
/-- no row beats another one of its gate -/
theorem one_filter (h : RInv N g limit rows []) (nd : (N.gates.map (·.1)).Nodup) {k : Nat} {row : Row} (h0 : 0 < k) (hk : rows[k]? = some row) : ((rows.drop 1).filter (beatF row.nm row.mi row.tl)).length = 1 := by
  refine filter_one (k := k - 1) (x := row) (by rw [List.getElem?_drop, show 1 + (k - 1) = k by omega]; exact hk) fun j r hj => ?_
  rw [List.getElem?_drop] at hj
  unfold beatF
  simp only [Bool.and_eq_true, decide_eq_true_eq]
  constructor
  · rintro ⟨e, h1, h2⟩
    rcases Nat.lt_trichotomy (1 + j) k with z | z | z
    · have := h.dec (1 + j) k r row (by omega) z hj hk e
      omega
    · omega
    · have hd := h.dec k (1 + j) row r h0 z hk hj e.symm
      obtain ⟨t1, t2, c1, c2, g1, g2, hl⟩ := h.srt k (1 + j) row r h0 z hk hj
      omega
  · intro e
    have : 1 + j = k := by omega
    rw [this, hk] at hj
    cases hj
    exact ⟨rfl, Int.le_refl _, Int.le_refl _⟩
theorem row_le (h : RInv N g limit rows []) {k : Nat} {r1 r2 : Row} (h1 : 1 < k) (e1 : rows[k - 1]? = some r1) (e2 : rows[k]? = some r2) : ∃ (t1 t2 : Nat) (c1 c2 : Bool), N.gates[t1]? = some (r1.nm, c1) ∧ N.gates[t2]? = some (r2.nm, c2) ∧ TH.kLe [r1.tl, r1.mi, (t1 : Int)] [r2.tl, r2.mi, (t2 : Int)] := by
  obtain ⟨t1, t2, c1, c2, g1, g2, hl⟩ := h.srt (k - 1) k r1 r2 (by omega) (by omega) e1 e2
  refine ⟨t1, t2, c1, c2, g1, g2, ?_⟩
  rw [TH.kLe_cons, TH.kLe_cons, TH.kLe_cons]
  rcases hl with h | ⟨h, h' | ⟨h', h''⟩⟩
  · exact .inl h
  · exact .inr ⟨h, .inl h'⟩
  · refine .inr ⟨h, .inr ⟨h', ?_⟩⟩
    rcases Int.lt_or_eq_of_le (show (t1 : Int) ≤ (t2 : Int) by omega) with z | z
    · exact .inl z
    · exact .inr ⟨z, TH.kLe_refl []⟩
theorem row_names (h : RInv N g limit rows []) (ok : NetOk N) {k : Nat} {row : Row} (h0 : 0 < k) (hk : rows[k]? = some row) : seesOf N.gates row.nm ≠ none := by
  obtain ⟨b, i, rb, r, _, hg, e⟩ := h.r1 k row h0 hk
  subst e
  exact ok.o2 r (List.mem_of_getElem? hg.hr)
theorem sees_in {gs : List (Str × Bool)} {nm : Str} (h : seesOf gs nm ≠ none) : ∃ c, (nm, c) ∈ gs := by
  obtain ⟨t, c, ht⟩ := turn_of h
  exact ⟨c, List.mem_of_getElem? ht⟩
end
end Toll
namespace Toll
open PySem L2
theorem rowsD_ne {rows : List Row} (h : rows ≠ []) : PyData.eqv (rowsD rows) (rowsD []) = false := by
  cases rows with
  | nil => exact absurd rfl h
  | cons r rs => rfl
end Toll
namespace Toll
open PySem L2
theorem paired_app {α β : Type} {F : α → β → Prop} : ∀ {l : List α} {m : List β} {l' : List α} {m' : List β}, Paired F l m → Paired F l' m' → Paired F (l ++ l') (m ++ m')
  | _, _, _, _, .nil, h => h
  | _, _, _, _, .cons r t, h => .cons r (paired_app t h)
end Toll
namespace Toll
open PySem L2
theorem cut_last (xs : List V) (x : V) : cutV (xs ++ [x]) none (some (-1)) = xs := by
  unfold cutV
  rw [HT.sIx_none, Nat.sub_zero, List.drop_zero]
  have e : HT.sIx (xs ++ [x]).length (xs ++ [x]).length (some (-1)) = xs.length := by
    rw [List.length_append, List.length_singleton]
    unfold HT.sIx
    simp
    omega
  rw [e]
  simp
end Toll

set_option Elab.async false
set_option linter.all false
set_option maxRecDepth 100000
set_option maxHeartbeats 4000000
namespace Toll
open PySem L2
/-! ### sightings, ways -/
def SeenV (H : Hp) (v : V) (q : Int × Str) : Prop := ∃ t, v = .ref t ∧ H t = some (.tup [.int q.1, .str q.2])
def PassV (H : Hp) (v : V) (q : Str × Int) : Prop := ∃ t, v = .ref t ∧ H t = some (.tup [.str q.1, .int q.2])
theorem seen_same {H H' : Hp} {us : List V} {ss : List (Int × Str)} (s : Same H H') (h : Paired (SeenV H) us ss) : Paired (SeenV H') us ss := L2.Paired.mapP h fun _ _ ⟨t, e, ht⟩ => ⟨t, e, s _ _ ht⟩
theorem pass_same {H H' : Hp} {us : List V} {ss : List (Str × Int)} (s : Same H H') (h : Paired (PassV H) us ss) : Paired (PassV H') us ss := L2.Paired.mapP h fun _ _ ⟨t, e, ht⟩ => ⟨t, e, s _ _ ht⟩
theorem pass_tk {H H' : Hp} (k : TK H H') {us : List V} {ss : List (Str × Int)} (h : Paired (PassV H) us ss) : Paired (PassV H') us ss := L2.Paired.mapP h fun _ _ ⟨t, e, ht⟩ => ⟨t, e, k _ _ ht⟩
theorem seen_tk {H H' : Hp} (k : TK H H') {us : List V} {ss : List (Int × Str)} (h : Paired (SeenV H) us ss) : Paired (SeenV H') us ss := L2.Paired.mapP h fun _ _ ⟨t, e, ht⟩ => ⟨t, e, k _ _ ht⟩
def seenRef (N : NetD) : Int → List (Int × Str) → Option Bool
  | _, [] => none
  | ah, q :: r => if seesOf N.gates q.2 = none then some true else if q.1 < ah then some false else seenRef N q.1 r
def otherOf (N : NetD) (x : Int) : Str := ((N.roads[x.toNat]?).map (·.other)).getD (Str.ofString "")
def walkT (N : NetD) (t : Int) : List Int → List (Str × Int)
  | [] => []
  | x :: r => (otherOf N x, t + miOf N x) :: walkT N (t + miOf N x) r
theorem walkT_snoc (N : NetD) (x : Int) : ∀ (l : List Int) (t : Int), walkT N t (l ++ [x]) = walkT N t l ++ [(otherOf N x, t + (l.map (miOf N)).sum + miOf N x)]
  | [], t => by simp [walkT]
  | y :: l, t => by
    have ih := walkT_snoc N x l (t + miOf N y)
    show (otherOf N y, t + miOf N y) :: walkT N (t + miOf N y) (l ++ [x]) = _
    rw [ih, List.map_cons, List.sum_cons]
    show _ = (otherOf N y, t + miOf N y) :: (walkT N (t + miOf N y) l ++ _)
    rw [Int.add_assoc t (miOf N y)]
theorem walkT_len (N : NetD) : ∀ (l : List Int) (t : Int), (walkT N t l).length = l.length
  | [], _ => rfl
  | x :: l, t => by
    show (walkT N _ l).length + 1 = l.length + 1
    rw [walkT_len N l]
theorem walkT_at (N : NetD) : ∀ (l : List Int) (t : Int) (i : Nat) (x : Int), l[i]? = some x → (walkT N t l)[i]? = some (otherOf N x, t + ((l.take i).map (miOf N)).sum + miOf N x)
  | [], _, _, _, h => by simp at h
  | y :: l, t, 0, x, h => by
    have : y = x := by simpa using h
    subst this
    simp [walkT]
  | y :: l, t, i + 1, x, h => by
    have ih := walkT_at N l (t + miOf N y) i x (by simpa using h)
    show (walkT N (t + miOf N y) l)[i]? = _
    rw [ih, List.take_succ_cons, List.map_cons, List.sum_cons, Int.add_assoc t (miOf N y)]
abbrev LegD := Int × Int × List Int
/-- the legs of sightings -/
def LegsAt (N : NetD) (ss : List (Int × Str)) (legs : List LegD) : Prop := ∀ i a b l, ss[i]? = some a → ss[i + 1]? = some b → legs[i]? = some l → BestD N a.2 b.2 (b.1 - a.1) l.1 l.2.1 l.2.2 ∧ LegIs N a.2 b.2 (b.1 - a.1) (some l) ∧ l.2.2.length ≤ 4000
inductive GOut where
  | no (k : Nat)
  | way (legs : List LegD)
def GuessP (N : NetD) (ss : List (Int × Str)) : GOut → Prop
  | .no k => ∃ legs : List LegD, legs.length = k ∧ LegsAt N ss legs ∧ ∃ a b, ss[k]? = some a ∧ ss[k + 1]? = some b ∧ (∀ m t rs, Drv N a.2 b.2 m t rs → ¬ m ≤ b.1 - a.1) ∧ LegIs N a.2 b.2 (b.1 - a.1) none
  | .way legs => legs.length + 1 = ss.length ∧ LegsAt N ss legs
theorem legs_same {N : NetD} {ss : List (Int × Str)} {l1 l2 : List LegD} (h1 : LegsAt N ss l1) (h2 : LegsAt N ss l2) {i : Nat} (hs : i + 1 < ss.length) (hi1 : i < l1.length) (hi2 : i < l2.length) : l1[i]? = l2[i]? := by
  obtain ⟨a, ha⟩ : ∃ a, ss[i]? = some a := ⟨_, List.getElem?_eq_getElem (by omega)⟩
  obtain ⟨b, hb⟩ : ∃ b, ss[i + 1]? = some b := ⟨_, List.getElem?_eq_getElem (by omega)⟩
  obtain ⟨x, hx⟩ : ∃ x, l1[i]? = some x := ⟨_, List.getElem?_eq_getElem hi1⟩
  obtain ⟨y, hy⟩ : ∃ y, l2[i]? = some y := ⟨_, List.getElem?_eq_getElem hi2⟩
  rw [hx, hy]
  exact (h1 i a b x ha hb hx).2.1.uniq (h2 i a b y ha hb hy).2.1
theorem no_way {N : NetD} {ss : List (Int × Str)} {k : Nat} {legs : List LegD} (h : GuessP N ss (.no k)) (h2 : LegsAt N ss legs) (hl : k < legs.length) : False := by
  obtain ⟨_, _, _, a, b, ha, hb, _, hn⟩ := h
  obtain ⟨x, hx⟩ : ∃ x, legs[k]? = some x := ⟨_, List.getElem?_eq_getElem hl⟩
  have := hn.uniq (h2 k a b x ha hb hx).2.1
  cases this
theorem GuessP.uniq {N : NetD} {ss : List (Int × Str)} : ∀ {o o' : GOut}, GuessP N ss o → GuessP N ss o' → o = o'
  | .no k, .no k', h, h' => by
    have : k = k' := by
      rcases Nat.lt_trichotomy k k' with z | z | z
      · obtain ⟨l, hl, hs, _⟩ := h'
        exact (no_way h hs (by omega)).elim
      · exact z
      · obtain ⟨l, hl, hs, _⟩ := h
        exact (no_way h' hs (by omega)).elim
    rw [this]
  | .no k, .way legs, h, h' => by
    obtain ⟨_, _, _, a, b, ha, hb, _⟩ := id h
    have := (List.getElem?_eq_some_iff.mp hb).1
    have := h'.1
    exact (no_way h h'.2 (by omega)).elim
  | .way legs, .no k, h, h' => by
    obtain ⟨_, _, _, a, b, ha, hb, _⟩ := id h'
    have := (List.getElem?_eq_some_iff.mp hb).1
    have := h.1
    exact (no_way h' h.2 (by omega)).elim
  | .way legs, .way legs', h, h' => by
    have e : legs = legs' := by
      apply List.ext_getElem?
      intro i
      by_cases hi : i < legs.length
      · exact legs_same h.2 h'.2 (by have := h.1; omega) hi (by have := h.1; have := h'.1; omega)
      · rw [List.getElem?_eq_none (by omega), List.getElem?_eq_none (by have := h.1; have := h'.1; omega)]
    rw [e]
def tollsOf (legs : List LegD) : Int := (legs.map fun l => l.1).sum
def roadsAll (legs : List LegD) : List Int := (legs.map fun l => l.2.2).flatten
/-- what is passed behind the first sighting, of the first n legs -/
def passU (N : NetD) (ss : List (Int × Str)) (legs : List LegD) : Nat → List (Str × Int)
  | 0 => []
  | n + 1 => passU N ss legs n ++ (match ss[n]?, ss[n + 1]?, legs[n]? with
    | some a, some b, some l => walkT N a.1 l.2.2.dropLast ++ [(b.2, b.1)]
    | _, _, _ => [])
theorem passU_step {N : NetD} {ss : List (Int × Str)} {legs : List LegD} {n : Nat} {a b : Int × Str} {l : LegD} (ha : ss[n]? = some a) (hb : ss[n + 1]? = some b) (hl : legs[n]? = some l) : passU N ss legs (n + 1) = passU N ss legs n ++ (walkT N a.1 l.2.2.dropLast ++ [(b.2, b.1)]) := by
  conv => lhs; unfold passU
  rw [ha, hb, hl]
theorem passU_grow {N : NetD} {ss : List (Int × Str)} {legs : List LegD} (x : LegD) : ∀ n, n ≤ legs.length → passU N ss (legs ++ [x]) n = passU N ss legs n
  | 0, _ => rfl
  | n + 1, h => by
    have ih := passU_grow (N := N) (ss := ss) (legs := legs) x n (by omega)
    unfold passU
    rw [ih, List.getElem?_append_left (by omega)]
theorem LegsAt.snoc {N : NetD} {ss : List (Int × Str)} {legs : List LegD} (h : LegsAt N ss legs) {a b : Int × Str} {l : LegD} (ha : ss[legs.length]? = some a) (hb : ss[legs.length + 1]? = some b) (h1 : BestD N a.2 b.2 (b.1 - a.1) l.1 l.2.1 l.2.2) (h2 : LegIs N a.2 b.2 (b.1 - a.1) (some l)) (h3 : l.2.2.length ≤ 4000) : LegsAt N ss (legs ++ [l]) := fun i a' b' l' ha' hb' hl' => by
  rcases get_app hl' with z | ⟨z, e⟩
  · exact h i a' b' l' ha' hb' z
  · subst z
    rw [ha] at ha'
    rw [hb] at hb'
    cases ha'
    cases hb'
    subst e
    exact ⟨h1, h2, h3⟩
theorem roadsAll_snoc (legs : List LegD) (l : LegD) : roadsAll (legs ++ [l]) = roadsAll legs ++ l.2.2 := by
  unfold roadsAll
  rw [List.map_append, List.flatten_append]
  simp
theorem tollsOf_snoc (legs : List LegD) (l : LegD) : tollsOf (legs ++ [l]) = tollsOf legs + l.1 := by
  unfold tollsOf
  rw [List.map_append, List.sum_append]
  simp
end Toll
namespace Toll
open PySem L2
theorem cut_dropLast (xs : List V) : cutV xs none (some (-1)) = xs.dropLast := by
  unfold cutV
  rw [HT.sIx_none, Nat.sub_zero, List.drop_zero, List.dropLast_eq_take]
  have e : HT.sIx xs.length xs.length (some (-1)) = xs.length - 1 := by
    unfold HT.sIx
    simp
    omega
  rw [e]
theorem map_int_at {ns : List Int} {i : Nat} {x : V} (h : (ns.map V.int)[i]? = some x) : ∃ z, ns[i]? = some z ∧ x = V.int z := by
  rw [List.getElem?_map] at h
  cases e : ns[i]? with
  | none => rw [e] at h; cases h
  | some z => rw [e] at h; exact ⟨z, rfl, (Option.some.inj h).symm⟩
end Toll
namespace Toll
open PySem L2
theorem passU_len {N : NetD} {ss : List (Int × Str)} {legs : List LegD} (h : LegsAt N ss legs) : ∀ n, (passU N ss legs n).length ≤ 4000 * n
  | 0 => Nat.le_refl _
  | n + 1 => by
    have ih := passU_len h n
    unfold passU
    rw [List.length_append]
    cases ha : ss[n]? with
    | none => simp; omega
    | some a =>
      cases hb : ss[n + 1]? with
      | none => simp; omega
      | some b =>
        cases hl : legs[n]? with
        | none => simp; omega
        | some l =>
          have hd := h n a b l ha hb hl
          have hp := hd.1.1.walk.2
          show _ + (walkT N a.1 l.2.2.dropLast ++ [(b.2, b.1)]).length ≤ _
          rw [List.length_append, walkT_len, List.length_dropLast, List.length_singleton]
          omega
end Toll
namespace Toll
open PySem L2
structure SeenOk (gs : List (Str × Bool)) (u : Int) (ss : List (Int × Str)) : Prop where
  nm : ∀ q ∈ ss, ∃ c, (q.2, c) ∈ gs
  t0 : ∀ q ∈ ss, 0 ≤ q.1
  gap : ∀ (i : Nat) (a b : Int × Str), ss[i]? = some a → ss[i + 1]? = some b → ∃ most rest : Int, b.1 = a.1 + u * most + rest ∧ 0 ≤ most ∧ most ≤ 20 ∧ 0 ≤ rest ∧ rest < u
theorem SeenOk.ok {gs : List (Str × Bool)} {rs : List RoadD} {u : Int} {ss : List (Int × Str)} (h : SeenOk gs u ss) (hu : 1 ≤ u) : ∀ (n i : Nat), n = ss.length - i → ∀ ah : Int, (∀ q, ss[i]? = some q → ah ≤ q.1) → seenRef ⟨gs, rs⟩ ah (ss.drop i) = none
  | 0, i, hn, ah, _ => by
    rw [List.drop_eq_nil_of_le (by omega)]
    rfl
  | n + 1, i, hn, ah, ha => by
    have il : i < ss.length := by omega
    have e : ss.drop i = ss[i] :: ss.drop (i + 1) := List.drop_eq_getElem_cons il
    have hi : ss[i]? = some ss[i] := List.getElem?_eq_getElem il
    rw [e]
    show (if seesOf gs ss[i].2 = none then some true else if ss[i].1 < ah then some false else seenRef _ ss[i].1 (ss.drop (i + 1))) = none
    obtain ⟨c, hc⟩ := h.nm _ (List.mem_of_getElem? hi)
    rw [if_neg (sees_mem (q := (ss[i].2, c)) hc), if_neg (by have := ha _ hi; omega)]
    refine SeenOk.ok h hu n (i + 1) (by omega) _ fun q hq => ?_
    obtain ⟨most, rest, e, m0, _, r0, _⟩ := h.gap i _ q hi hq
    have := Int.mul_nonneg (show 0 ≤ u by omega) m0
    omega
theorem SeenOk.ref {gs : List (Str × Bool)} {rs : List RoadD} {u : Int} {ss : List (Int × Str)} (h : SeenOk gs u ss) (hu : 1 ≤ u) : seenRef ⟨gs, rs⟩ 0 ss = none := by
  have := h.ok (rs := rs) hu ss.length 0 (by omega) 0 fun q hq => h.t0 q (List.mem_of_getElem? hq)
  rwa [List.drop_zero] at this
theorem SeenOk.legs {gs : List (Str × Bool)} {rs : List RoadD} {u : Int} {ss : List (Int × Str)} (h : SeenOk gs u ss) (hu : 1 ≤ u) (hr : ∀ r ∈ rs, LineOk gs u r) (i : Nat) (a b : Int × Str) (ha : ss[i]? = some a) (hb : ss[i + 1]? = some b) : seesOf gs a.2 ≠ none ∧ seesOf gs b.2 ≠ none ∧ a.1 ≤ b.1 ∧ ∃ u', Few ⟨gs, rs⟩ a.2 (b.1 - a.1) u' := by
  obtain ⟨c, hc⟩ := h.nm a (List.mem_of_getElem? ha)
  obtain ⟨d, hd⟩ := h.nm b (List.mem_of_getElem? hb)
  obtain ⟨most, rest, e, m0, m1, r0, r1⟩ := h.gap i a b ha hb
  have h1 := Int.mul_nonneg (show 0 ≤ u by omega) m0
  have h2 := Int.mul_le_mul_of_nonneg_left m1 (show 0 ≤ u by omega)
  exact ⟨sees_mem (q := (a.2, c)) hc, sees_mem (q := (b.2, d)) hd, by omega, u, few_of a.2 hu hr (by omega)⟩
theorem SeenOk.snoc {gs : List (Str × Bool)} {u : Int} {ss : List (Int × Str)} (h : SeenOk gs u ss) {q : Int × Str} {c : Bool} (hc : (q.2, c) ∈ gs) (h0 : 0 ≤ q.1) (hg : ∀ a, ss[ss.length - 1]? = some a → ∃ most rest : Int, q.1 = a.1 + u * most + rest ∧ 0 ≤ most ∧ most ≤ 20 ∧ 0 ≤ rest ∧ rest < u) : SeenOk gs u (ss ++ [q]) := by
  refine ⟨fun x hx => ?_, fun x hx => ?_, fun i a b ha hb => ?_⟩
  · rcases List.mem_append.mp hx with z | z
    · exact h.nm x z
    · rw [List.mem_singleton] at z
      subst z
      exact ⟨c, hc⟩
  · rcases List.mem_append.mp hx with z | z
    · exact h.t0 x z
    · rw [List.mem_singleton] at z
      subst z
      exact h0
  · rcases get_app hb with z | ⟨z, e⟩
    · have := (List.getElem?_eq_some_iff.mp z).1
      rw [List.getElem?_append_left (by omega)] at ha
      exact h.gap i a b ha z
    · subst e
      rw [List.getElem?_append_left (by omega)] at ha
      exact hg a (by rw [show ss.length - 1 = i by omega]; exact ha)
end Toll

set_option Elab.async false
set_option linter.all false
set_option maxRecDepth 100000
set_option maxHeartbeats 4000000
namespace Toll
open PySem L2
section
variable {N : NetD} {one w : Str} {u limit rest : Int} {most : Nat}
theorem drv_mult (ok : NetOk N) (hu : 1 ≤ u) (hun : ∀ r ∈ N.roads, r.op = true → r.mi % u = 0) (hl : limit = u * (most : Int) + rest) (h1 : rest < u) {m t : Int} {rs : List Int} (d : Drv N one w m t rs) (hm : m ≤ limit) : ∃ j : Nat, j < most + 1 ∧ m = u * (j : Int) := by
  have p := (d.pos ok).1
  have e := d.unit hun
  have e2 := Int.mul_ediv_add_emod m u
  have q0 : 0 ≤ m / u := Int.ediv_nonneg (by omega) (by omega)
  refine ⟨(m / u).toNat, ?_, by rw [Int.toNat_of_nonneg q0]; omega⟩
  have : m / u < (most : Int) + 1 := by
    refine Classical.byContradiction fun z => ?_
    have := Int.mul_le_mul_of_nonneg_left (show (most : Int) + 1 ≤ m / u by omega) (show 0 ≤ u by omega)
    rw [Int.mul_add] at this
    omega
  omega
theorem least_best (ok : NetOk N) (hu : 1 ≤ u) (hun : ∀ r ∈ N.roads, r.op = true → r.mi % u = 0) (hl : limit = u * (most : Int) + rest) (h0 : 0 ≤ rest) (h1 : rest < u) {c : Int} {k : Nat} (h : LeastP N one w u (most + 1) (some (c, k))) : ∃ rs, BestD N one w limit c (u * (k : Int)) rs := by
  obtain ⟨hk, ⟨rs, d⟩, hm⟩ := h
  have lim : u * (k : Int) ≤ limit := by
    have := Int.mul_le_mul_of_nonneg_left (show (k : Int) ≤ (most : Int) by omega) (show 0 ≤ u by omega)
    omega
  refine ⟨rs, d, lim, fun m' t' rs' d' hl' => ?_⟩
  obtain ⟨j, hj, rfl⟩ := drv_mult ok hu hun hl h1 d' hl'
  have a := hm j t' rs' hj d'
  rcases a with a | ⟨a, b⟩
  · exact .inl a
  · exact .inr ⟨a, Int.mul_le_mul_of_nonneg_left (by omega) (by omega)⟩
theorem BestD.toll {c c' m m' : Int} {rs rs' : List Int} (h : BestD N one w limit c m rs) (h' : BestD N one w limit c' m' rs') : c = c' ∧ m = m' := by
  have a := h.2.2 _ _ _ h'.1 h'.2.1
  have b := h'.2.2 _ _ _ h.1 h.2.1
  omega
end
def Joined (N : NetD) (a b : Int × Str) : Prop := ∃ m t rs, Drv N a.2 b.2 m t rs ∧ m ≤ b.1 - a.1
inductive DOut where
  | no (k : Nat)
  | way (tolls : List Int)
def TollsAt (N : NetD) (ss : List (Int × Str)) (tolls : List Int) : Prop := ∀ (i : Nat) (a b : Int × Str) (t : Int), ss[i]? = some a → ss[i + 1]? = some b → tolls[i]? = some t → ∃ m rs, BestD N a.2 b.2 (b.1 - a.1) t m rs
def DueP (N : NetD) (ss : List (Int × Str)) : DOut → Prop
  | .no k => ∃ tolls : List Int, tolls.length = k ∧ TollsAt N ss tolls ∧ ∃ a b, ss[k]? = some a ∧ ss[k + 1]? = some b ∧ ¬ Joined N a b
  | .way tolls => tolls.length + 1 = ss.length ∧ TollsAt N ss tolls
def DOut.of : GOut → DOut
  | .no k => .no k
  | .way legs => .way (legs.map (·.1))
theorem GuessP.due {N : NetD} {ss : List (Int × Str)} : ∀ {o : GOut}, GuessP N ss o → DueP N ss (DOut.of o) := by
  have h : ∀ {legs : List LegD}, LegsAt N ss legs → TollsAt N ss (legs.map (·.1)) := fun {legs} h i a b t ha hb ht => by
    rw [List.getElem?_map] at ht
    cases e : legs[i]? with
    | none => rw [e] at ht; cases ht
    | some l =>
      rw [e] at ht
      cases ht
      exact ⟨_, _, (h i a b l ha hb e).1⟩
  intro o g
  cases o with
  | no k =>
    obtain ⟨legs, e, hl, a, b, ha, hb, hn, _⟩ := g
    exact ⟨legs.map (·.1), by rw [List.length_map]; exact e, h hl, a, b, ha, hb, fun ⟨m, t, rs, d, hm⟩ => hn m t rs d hm⟩
  | way legs => exact ⟨by rw [List.length_map]; exact g.1, h g.2⟩
theorem tolls_join {N : NetD} {ss : List (Int × Str)} {tolls : List Int} (h : TollsAt N ss tolls) {k : Nat} (hk : k < tolls.length) {a b : Int × Str} (ha : ss[k]? = some a) (hb : ss[k + 1]? = some b) : Joined N a b := by
  obtain ⟨m, rs, d, l, _⟩ := h k a b _ ha hb (List.getElem?_eq_getElem hk)
  exact ⟨m, _, rs, d, l⟩
theorem DueP.uniq {N : NetD} {ss : List (Int × Str)} : ∀ {o o' : DOut}, DueP N ss o → DueP N ss o' → o = o'
  | .no k, .no k', h, h' => by
    obtain ⟨l, e, hl, a, b, ha, hb, hn⟩ := h
    obtain ⟨l', e', hl', a', b', ha', hb', hn'⟩ := h'
    have : k = k' := by
      rcases Nat.lt_trichotomy k k' with z | z | z
      · exact absurd (tolls_join hl' (by omega) ha hb) hn
      · exact z
      · exact absurd (tolls_join hl (by omega) ha' hb') hn'
    rw [this]
  | .no k, .way t, h, h' => by
    obtain ⟨l, e, hl, a, b, ha, hb, hn⟩ := h
    have := (List.getElem?_eq_some_iff.mp hb).1
    have := h'.1
    exact absurd (tolls_join h'.2 (by omega) ha hb) hn
  | .way t, .no k, h, h' => by
    obtain ⟨l, e, hl, a, b, ha, hb, hn⟩ := h'
    have := (List.getElem?_eq_some_iff.mp hb).1
    have := h.1
    exact absurd (tolls_join h.2 (by omega) ha hb) hn
  | .way t, .way t', h, h' => by
    have e : t = t' := by
      apply List.ext_getElem?
      intro i
      by_cases hi : i < t.length
      · have h1 := h.1
        have h2 := h'.1
        obtain ⟨a, ha⟩ : ∃ a, ss[i]? = some a := ⟨_, List.getElem?_eq_getElem (by omega)⟩
        obtain ⟨b, hb⟩ : ∃ b, ss[i + 1]? = some b := ⟨_, List.getElem?_eq_getElem (by omega)⟩
        obtain ⟨x, hx⟩ : ∃ x, t[i]? = some x := ⟨_, List.getElem?_eq_getElem hi⟩
        obtain ⟨y, hy⟩ : ∃ y, t'[i]? = some y := ⟨_, List.getElem?_eq_getElem (by omega)⟩
        obtain ⟨_, _, b1⟩ := h.2 i a b x ha hb hx
        obtain ⟨_, _, b2⟩ := h'.2 i a b y ha hb hy
        rw [hx, hy, (b1.toll b2).1]
      · have h1 := h.1
        have h2 := h'.1
        rw [List.getElem?_eq_none (by omega), List.getElem?_eq_none (by omega)]
    rw [e]
theorem TollsAt.snoc {N : NetD} {ss : List (Int × Str)} {tolls : List Int} (h : TollsAt N ss tolls) {a b : Int × Str} {t m : Int} {rs : List Int} (ha : ss[tolls.length]? = some a) (hb : ss[tolls.length + 1]? = some b) (hd : BestD N a.2 b.2 (b.1 - a.1) t m rs) : TollsAt N ss (tolls ++ [t]) := fun i a' b' t' ha' hb' ht' => by
  rcases get_app ht' with z | ⟨z, e⟩
  · exact h i a' b' t' ha' hb' z
  · subst z
    rw [ha] at ha'
    rw [hb] at hb'
    cases ha'
    cases hb'
    subst e
    exact ⟨m, rs, hd⟩
theorem sum_snoc (l : List Int) (x : Int) : (l ++ [x]).sum = l.sum + x := by
  rw [List.sum_append]
  simp
def dueVs : DOut → List V
  | .no k => [.str "none", .int (k : Int)]
  | .way tolls => [.str "way", .int tolls.sum]
def dueD : DOut → PyData
  | .no k => .tuple [.str "none", .int (k : Int)]
  | .way tolls => .tuple [.str "way", .int tolls.sum]
theorem dueD_ok (o : DOut) : okD 1 (dueD o) := by
  have l1 : PyData.strOk ("none" : Str) = true := by decide +kernel
  have l2 : PyData.strOk ("way" : Str) = true := by decide +kernel
  cases o with
  | no k =>
    refine okD_tup fun d hd => ?_
    simp only [List.mem_cons, List.not_mem_nil, or_false] at hd
    rcases hd with rfl | rfl
    · exact okD_str l1
    · exact okD_int _
  | way t =>
    refine okD_tup fun d hd => ?_
    simp only [List.mem_cons, List.not_mem_nil, or_false] at hd
    rcases hd with rfl | rfl
    · exact okD_str l2
    · exact okD_int _
theorem dueD_dp {K : PySem.W.Frag} {H : Hp} {a : Addr} (o : DOut) (h : H a = some (.tup (dueVs o))) : Dp K H (.ref a) (dueD o) := by
  cases o with
  | no k => exact .tup (SqT.of h) (.cons (.str _) (.cons (.int _) .nil))
  | way t => exact .tup (SqT.of h) (.cons (.str _) (.cons (.int _) .nil))
end Toll

set_option Elab.async false
set_option linter.all false
set_option maxRecDepth 100000
set_option maxHeartbeats 4000000
namespace Toll
open PySem L2
/-! ### the net's lists as data -/
def roadD1 (r : RoadD) : PyData := .tuple [.str r.one, .str r.other, .int r.mi, .int r.tl, .bool r.op]
def gateD1 (q : Str × Bool) : PyData := .tuple [.str q.1, .bool q.2]
def roadsD (rs : List RoadD) : PyData := .list (rs.map roadD1)
def gatesD (gs : List (Str × Bool)) : PyData := .list (gs.map gateD1)
theorem dpAll_roads {K : PySem.W.Frag} {H : Hp} : ∀ {us : List V} {rs : List RoadD}, Paired (RoadV H) us rs → DpAll K H us (rs.map roadD1)
  | _, _, .nil => .nil
  | _, _, .cons ⟨t, e, h⟩ r => by
    subst e
    exact .cons (.tup (SqT.of h) (.cons (.str _) (.cons (.str _) (.cons (.int _) (.cons (.int _) (.cons (.bl _) .nil)))))) (dpAll_roads r)
theorem dpAll_gates {K : PySem.W.Frag} {H : Hp} : ∀ {us : List V} {gs : List (Str × Bool)}, Paired (GateV H) us gs → DpAll K H us (gs.map gateD1)
  | _, _, .nil => .nil
  | _, _, .cons ⟨t, e, h⟩ r => by
    subst e
    exact .cons (.tup (SqT.of h) (.cons (.str _) (.cons (.bl _) .nil))) (dpAll_gates r)
theorem dp_roads {K : PySem.W.Frag} {H : Hp} {a : Addr} {us : List V} {rs : List RoadD} (h : SqL K H a us) (p : Paired (RoadV H) us rs) : Dp K H (.ref a) (roadsD rs) := .lst h (dpAll_roads p)
theorem dp_gates {K : PySem.W.Frag} {H : Hp} {a : Addr} {us : List V} {gs : List (Str × Bool)} (h : SqL K H a us) (p : Paired (GateV H) us gs) : Dp K H (.ref a) (gatesD gs) := .lst h (dpAll_gates p)
theorem roadsD_ok {rs : List RoadD} (h : ∀ r ∈ rs, PyData.strOk r.one = true ∧ PyData.strOk r.other = true) : okD 2 (roadsD rs) := okD_list fun d hd => by
  obtain ⟨r, hr, rfl⟩ := List.mem_map.mp hd
  obtain ⟨h1, h2⟩ := h r hr
  refine okD_tup fun e he => ?_
  simp only [List.mem_cons, List.not_mem_nil, or_false] at he
  rcases he with rfl | rfl | rfl | rfl | rfl
  · exact okD_str h1
  · exact okD_str h2
  · exact okD_int _
  · exact okD_int _
  · exact okD_bool _
theorem gatesD_ok {gs : List (Str × Bool)} (h : ∀ q ∈ gs, PyData.strOk q.1 = true) : okD 2 (gatesD gs) := okD_list fun d hd => by
  obtain ⟨q, hq, rfl⟩ := List.mem_map.mp hd
  refine okD_tup fun e he => ?_
  simp only [List.mem_cons, List.not_mem_nil, or_false] at he
  rcases he with rfl | rfl
  · exact okD_str (h q hq)
  · exact okD_bool _
theorem roadsV_tk {H H' : Hp} (k : TK H H') {us : List V} {rs : List RoadD} (h : Paired (RoadV H) us rs) : Paired (RoadV H') us rs := L2.Paired.mapP h fun _ _ ⟨t, e, ht⟩ => ⟨t, e, k _ _ ht⟩
theorem gatesV_tk {H H' : Hp} (k : TK H H') {us : List V} {rs : List (Str × Bool)} (h : Paired (GateV H) us rs) : Paired (GateV H') us rs := L2.Paired.mapP h fun _ _ ⟨t, e, ht⟩ => ⟨t, e, k _ _ ht⟩
end Toll
namespace Toll
open PySem L2
/-- what guess told -/
def FoundV (H : Hp) (T : Addr) (ss : List (Int × Str)) (N : NetD) : GOut → Prop
  | .no k => H T = some (.tup [.str "none", .int (k : Int)])
  | .way legs => ∃ (R L : Addr) (ws : List V) (q0 : Int × Str), R ≠ L ∧ H T = some (.tup [.str "way", .int (tollsOf legs), .ref R, .ref L]) ∧ H R = some (.lst ((roadsAll legs).map V.int)) ∧ H L = some (.lst ws) ∧ ss[0]? = some q0 ∧ Paired (PassV H) ws ((q0.2, q0.1) :: passU N ss legs legs.length)
theorem FoundV.same {H H' : Hp} {T : Addr} {ss : List (Int × Str)} {N : NetD} {go : GOut} (s : Same H H') (h : FoundV H T ss N go) : FoundV H' T ss N go := by
  cases go with
  | no k => exact s _ _ h
  | way legs =>
    obtain ⟨R, L, ws, q0, h0, h1, h2, h3, h4, h5⟩ := h
    exact ⟨R, L, ws, q0, h0, s _ _ h1, s _ _ h2, s _ _ h3, h4, pass_same s h5⟩
theorem SeenOk.names {gs : List (Str × Bool)} {u : Int} {ss : List (Int × Str)} (h : SeenOk gs u ss) (ok : GsOk gs) : ∀ q ∈ ss, q.2.length ≤ 1000 ∧ PyData.strOk q.2 = true := fun q hq => by
  obtain ⟨c, hc⟩ := h.nm q hq
  have h2 := ok.nm _ hc
  have h1 : q.2.length ≤ 8 := h2.1
  exact ⟨by omega, h2.2.1⟩
end Toll

set_option Elab.async false
set_option linter.all false
set_option maxRecDepth 100000
set_option maxHeartbeats 4000000
namespace Toll
open PySem L2
section
variable {N : NetD} {g w : Str} {limit : Int} {rows : List Row}
theorem rows_none (ok : NetOk N) (inv : RInv N g limit rows []) (cov : Cov N limit rows [] rows.length) (hl : leastF rows w rows.length = none) : ∀ m t rs, Drv N g w m t rs → ¬ m ≤ limit := fun m t rs d hm => by
  have sp := leastF_spec (nm := w) rows.length (Nat.le_refl _)
  rw [hl] at sp
  rcases drv_cov inv cov ok d hm with ⟨j, row, h0, hj, a, _, _⟩ | ⟨_, hk, _⟩
  · exact sp j row h0 (List.getElem?_eq_some_iff.mp hj).1 hj a
  · cases hk
theorem rows_best (ok : NetOk N) (inv : RInv N g limit rows []) (cov : Cov N limit rows [] rows.length) {b : Nat} (hl : leastF rows w rows.length = some b) : ∃ rb, 0 < b ∧ rows[b]? = some rb ∧ rb.nm = w ∧ BestD N g w limit rb.tl rb.mi (roadsOf rows (b : Int)) := by
  have sp := leastF_spec (nm := w) rows.length (Nat.le_refl _)
  rw [hl] at sp
  obtain ⟨b0, b1, rb, hb, eb, hm⟩ := sp
  obtain ⟨d, dl⟩ := inv.drv b rb b0 hb
  rw [eb] at d
  refine ⟨rb, b0, hb, eb, d, dl, fun m' t' rs' d' hl' => ?_⟩
  rcases drv_cov inv cov ok d' hl' with ⟨j, row, h0, hj, a, h1, h2⟩ | ⟨_, hk, _⟩
  · obtain ⟨k1, k2⟩ := hm j row h0 (List.getElem?_eq_some_iff.mp hj).1 hj a
    by_cases hlt : rb.tl < t'
    · exact .inl hlt
    · have et : row.tl = rb.tl := by omega
      have hbj := k2 et
      refine .inr ⟨by omega, ?_⟩
      by_cases hj2 : b = j
      · subst hj2
        rw [hb] at hj
        cases hj
        exact h1
      · obtain ⟨t1, t2, c1, c2, g1, g2, hs⟩ := inv.srt b j rb row b0 (by omega) hb hj
        omega
  · cases hk
end
/-- the tolls of the rows of a name, but the first -/
def tollsF (w : Str) (rows : List Row) : List Int := ((rows.drop 1).filter fun r => decide (r.nm = w)).map (·.tl)
theorem tollsF_step {w : Str} {rows : List Row} {i : Nat} {r : Row} (h : rows[i]? = some r) : tollsF w (rows.take (i + 1)) = if 0 < i ∧ r.nm = w then tollsF w (rows.take i) ++ [r.tl] else tollsF w (rows.take i) := by
  unfold tollsF
  rw [List.take_add_one, h]
  show (((rows.take i ++ [r]).drop 1).filter _).map _ = _
  by_cases h0 : 0 < i
  · have il := (List.getElem?_eq_some_iff.mp h).1
    have e : (rows.take i ++ [r]).drop 1 = (rows.take i).drop 1 ++ [r] := by
      rw [List.drop_append_of_le_length (by rw [List.length_take]; omega)]
    rw [e, List.filter_append, List.map_append]
    by_cases hn : r.nm = w
    · rw [if_pos ⟨h0, hn⟩]
      simp [hn]
    · rw [if_neg (fun z => hn z.2)]
      simp [hn]
  · have : i = 0 := by omega
    subst this
    rw [if_neg (by omega)]
    rfl
theorem tollsF_mem {w : Str} {rows : List Row} {t : Int} : t ∈ tollsF w rows ↔ ∃ j r, 0 < j ∧ rows[j]? = some r ∧ r.nm = w ∧ r.tl = t := by
  unfold tollsF
  constructor
  · intro h
    obtain ⟨r, hr, e⟩ := List.mem_map.mp h
    rw [List.mem_filter] at hr
    obtain ⟨j, hj⟩ := List.getElem?_of_mem hr.1
    rw [List.getElem?_drop] at hj
    exact ⟨1 + j, r, by omega, hj, of_decide_eq_true hr.2, e⟩
  · rintro ⟨j, r, h0, hj, hn, e⟩
    refine List.mem_map.mpr ⟨r, List.mem_filter.mpr ⟨List.mem_of_getElem? (i := j - 1) (by rw [List.getElem?_drop, show 1 + (j - 1) = j by omega]; exact hj), decide_eq_true hn⟩, e⟩
theorem tollsF_len (w : Str) (rows : List Row) : (tollsF w rows).length ≤ rows.length := by
  unfold tollsF
  rw [List.length_map]
  refine Nat.le_trans (List.length_filter_le _ _) ?_
  rw [List.length_drop]
  omega
theorem tollsF_nil {w : Str} {rows : List Row} (h : tollsF w rows = []) : leastF rows w rows.length = none := by
  cases hl : leastF rows w rows.length with
  | none => rfl
  | some b =>
    have sp := leastF_spec (nm := w) rows.length (Nat.le_refl _)
    rw [hl] at sp
    obtain ⟨b0, b1, rb, hb, eb, hm⟩ := sp
    have := (tollsF_mem (w := w)).mpr ⟨b, rb, b0, hb, eb, rfl⟩
    rw [h] at this
    cases this
theorem tollsF_min {w : Str} {rows : List Row} {b : Nat} (hl : leastF rows w rows.length = some b) : ∃ rb, 0 < b ∧ rows[b]? = some rb ∧ rb.nm = w ∧ rb.tl ∈ tollsF w rows ∧ ∀ m, m ∈ tollsF w rows → (∀ y ∈ tollsF w rows, m ≤ y) → m = rb.tl := by
  have sp := leastF_spec (nm := w) rows.length (Nat.le_refl _)
  rw [hl] at sp
  obtain ⟨b0, b1, rb, hb, eb, hm⟩ := sp
  have hmem : rb.tl ∈ tollsF w rows := tollsF_mem.mpr ⟨b, rb, b0, hb, eb, rfl⟩
  refine ⟨rb, b0, hb, eb, hmem, fun m hm1 hm2 => ?_⟩
  obtain ⟨j, r, h0, hj, hn, e⟩ := tollsF_mem.mp hm1
  have h1 := hm2 _ hmem
  have h2 := (hm j r h0 (List.getElem?_eq_some_iff.mp hj).1 hj hn).1
  omega
/-! ### a way as data -/
def passD1 (q : Str × Int) : PyData := .tuple [.str q.1, .int q.2]
def wayD (t : Int) (rs : List Int) (ps : List (Str × Int)) : PyData := .tuple [.str "way", .int t, intsD rs, .list (ps.map passD1)]
theorem dpAll_pass {K : PySem.W.Frag} {H : Hp} : ∀ {us : List V} {ps : List (Str × Int)}, Paired (PassV H) us ps → DpAll K H us (ps.map passD1)
  | _, _, .nil => .nil
  | _, _, .cons ⟨t, e, h⟩ r => by
    subst e
    exact .cons (.tup (SqT.of h) (.cons (.str _) (.cons (.int _) .nil))) (dpAll_pass r)
theorem dp_way {K : PySem.W.Frag} {H : Hp} {T R L : Addr} {t : Int} {rs : List Int} {ws : List V} {ps : List (Str × Int)} (hT : H T = some (.tup [.str "way", .int t, .ref R, .ref L])) (hR : H R = some (.lst (rs.map V.int))) (hL : H L = some (.lst ws)) (hW : Paired (PassV H) ws ps) : Dp K H (.ref T) (wayD t rs ps) :=
  .tup (SqT.of hT) (.cons (.str _) (.cons (.int _) (.cons (dp_ints (SqL.of hR)) (.cons (.lst (SqL.of hL) (dpAll_pass hW)) .nil))))
theorem passL_ok {ps : List (Str × Int)} (h : ∀ q ∈ ps, PyData.strOk q.1 = true) : okD 2 (.list (ps.map passD1)) := okD_list fun d hd => by
  obtain ⟨q, hq, rfl⟩ := List.mem_map.mp hd
  refine okD_tup fun e he => ?_
  simp only [List.mem_cons, List.not_mem_nil, or_false] at he
  rcases he with rfl | rfl
  · exact okD_str (h q hq)
  · exact okD_int _
theorem okD.mono {k j : Nat} {d : PyData} (h : okD k d) (hkj : k ≤ j) : okD j d := ⟨h.1, Nat.le_trans h.2 hkj⟩
theorem wayD_ok {t : Int} {rs : List Int} {ps : List (Str × Int)} (h : ∀ q ∈ ps, PyData.strOk q.1 = true) : okD 3 (wayD t rs ps) := okD_tup fun e he => by
  have l2 : PyData.strOk ("way" : Str) = true := by decide +kernel
  simp only [List.mem_cons, List.not_mem_nil, or_false] at he
  rcases he with rfl | rfl | rfl | rfl
  · exact (okD_str l2).mono (by omega)
  · exact (okD_int _).mono (by omega)
  · exact (intsD_ok rs).mono (by omega)
  · exact passL_ok h
theorem walkT_names {N : NetD} {nmOk : Str → Prop} (h : ∀ r ∈ N.roads, nmOk r.other) : ∀ (l : List Int) (t : Int), (∀ x ∈ l, 0 ≤ x ∧ x < (N.roads.length : Int)) → ∀ q ∈ walkT N t l, nmOk q.1
  | [], _, _, q, hq => by cases hq
  | x :: l, t, hv, q, hq => by
    rcases List.mem_cons.mp hq with e | e
    · subst e
      obtain ⟨x0, x1⟩ := hv x (List.mem_cons_self ..)
      show nmOk (otherOf N x)
      obtain ⟨r, hr⟩ : ∃ r, N.roads[x.toNat]? = some r := ⟨_, List.getElem?_eq_getElem (by omega)⟩
      unfold otherOf
      rw [hr]
      exact h r (List.mem_of_getElem? hr)
    · exact walkT_names h l _ (fun y hy => hv y (List.mem_cons_of_mem _ hy)) q e
theorem passU_names {N : NetD} {nmOk : Str → Prop} (h : ∀ r ∈ N.roads, nmOk r.other) {ss : List (Int × Str)} (hs : ∀ q ∈ ss, nmOk q.2) {legs : List LegD} (hl : LegsAt N ss legs) : ∀ n, ∀ q ∈ passU N ss legs n, nmOk q.1
  | 0, q, hq => by cases hq
  | n + 1, q, hq => by
    unfold passU at hq
    rcases List.mem_append.mp hq with e | e
    · exact passU_names h hs hl n q e
    · cases ha : ss[n]? with
      | none => rw [ha] at e; cases e
      | some a =>
        cases hb : ss[n + 1]? with
        | none => rw [ha, hb] at e; cases e
        | some b =>
          cases hg : legs[n]? with
          | none => rw [ha, hb, hg] at e; cases e
          | some l =>
            rw [ha, hb, hg] at e
            have e : q ∈ walkT N a.1 l.2.2.dropLast ++ [(b.2, b.1)] := e
            rcases List.mem_append.mp e with z | z
            · exact walkT_names h _ _ (fun x hx => (hl n a b l ha hb hg).1.1.roads x ((List.dropLast_sublist _).mem hx)) q z
            · rw [List.mem_singleton] at z
              subst z
              exact hs b (List.mem_of_getElem? hb)
end Toll
namespace Toll
open PySem L2
theorem tollsF_none {w : Str} {rows : List Row} (hl : leastF rows w rows.length = none) : tollsF w rows = [] := by
  cases e : tollsF w rows with
  | nil => rfl
  | cons x xs =>
    have sp := leastF_spec (nm := w) rows.length (Nat.le_refl _)
    rw [hl] at sp
    have hx : x ∈ tollsF w rows := by rw [e]; exact List.mem_cons_self ..
    obtain ⟨j, r, h0, hj, hn, _⟩ := tollsF_mem.mp hx
    exact absurd hn (sp j r h0 (List.getElem?_eq_some_iff.mp hj).1 hj)
theorem ints_ne {x : Int} {xs : List Int} : PyData.eqv (intsD (x :: xs)) (intsD []) = false := rfl
end Toll

set_option Elab.async false
set_option linter.all false
set_option maxRecDepth 100000
set_option maxHeartbeats 4000000
namespace Toll
open PySem L2
/-! ### a way, road by road -/
def offL (legs : List LegD) (n : Nat) : Nat := (roadsAll (legs.take n)).length
theorem offL_zero (legs : List LegD) : offL legs 0 = 0 := rfl
theorem offL_all (legs : List LegD) : offL legs legs.length = (roadsAll legs).length := by
  unfold offL
  rw [List.take_length]
theorem offL_step {legs : List LegD} {i : Nat} {l : LegD} (h : legs[i]? = some l) : offL legs (i + 1) = offL legs i + l.2.2.length := by
  unfold offL
  rw [List.take_add_one, h]
  show (roadsAll (legs.take i ++ [l])).length = _
  rw [roadsAll_snoc, List.length_append]
theorem roadsAll_at {legs : List LegD} {i j : Nat} {l : LegD} (h : legs[i]? = some l) (hj : j < l.2.2.length) : (roadsAll legs)[offL legs i + j]? = l.2.2[j]? := by
  have il := (List.getElem?_eq_some_iff.mp h).1
  have e : legs = legs.take i ++ l :: legs.drop (i + 1) := by
    obtain ⟨l0, ex⟩ := List.getElem?_eq_some_iff.mp h
    rw [← ex, ← List.drop_eq_getElem_cons l0, List.take_append_drop]
  have e2 : roadsAll legs = roadsAll (legs.take i) ++ (l.2.2 ++ roadsAll (legs.drop (i + 1))) := by
    conv => lhs; rw [e]
    unfold roadsAll
    rw [List.map_append, List.flatten_append, List.map_cons, List.flatten_cons]
  rw [e2]
  unfold offL
  rw [List.getElem?_append_right (by omega), Nat.add_sub_cancel_left, List.getElem?_append_left hj]
theorem off_find {legs : List LegD} : ∀ m, m ≤ legs.length → ∀ k, k < offL legs m → ∃ (i j : Nat) (l : LegD), i < m ∧ legs[i]? = some l ∧ j < l.2.2.length ∧ k = offL legs i + j
  | 0, _, k, h => absurd h (by rw [offL_zero]; omega)
  | m + 1, hm, k, h => by
    obtain ⟨l, hl⟩ : ∃ l, legs[m]? = some l := ⟨_, List.getElem?_eq_getElem (by omega)⟩
    by_cases hk : k < offL legs m
    · obtain ⟨i, j, l', hi, h1, h2, h3⟩ := off_find m (by omega) k hk
      exact ⟨i, j, l', by omega, h1, h2, h3⟩
    · rw [offL_step hl] at h
      exact ⟨m, k - offL legs m, l, by omega, hl, by omega, by omega⟩
section
variable {N : NetD} {ss : List (Int × Str)} {legs : List LegD} {q0 : Int × Str}
theorem passU_off (hl : LegsAt N ss legs) (hs : legs.length + 1 = ss.length) : ∀ n, n ≤ legs.length → (passU N ss legs n).length = offL legs n
  | 0, _ => rfl
  | n + 1, h => by
    have ih := passU_off hl hs n (by omega)
    obtain ⟨l, hll⟩ : ∃ l, legs[n]? = some l := ⟨_, List.getElem?_eq_getElem (by omega)⟩
    obtain ⟨a, ha⟩ : ∃ a, ss[n]? = some a := ⟨_, List.getElem?_eq_getElem (by omega)⟩
    obtain ⟨b, hb⟩ : ∃ a, ss[n + 1]? = some a := ⟨_, List.getElem?_eq_getElem (by omega)⟩
    have hp := (hl n a b l ha hb hll).1.1.walk.2
    rw [passU_step ha hb hll, offL_step hll, List.length_append, ih, List.length_append, walkT_len, List.length_dropLast, List.length_singleton]
    omega
theorem passU_pre (n m : Nat) : ∃ r, passU N ss legs (n + m) = passU N ss legs n ++ r := by
  induction m with
  | zero => exact ⟨[], by simp⟩
  | succ m ih =>
    obtain ⟨r, e⟩ := ih
    show ∃ r, passU N ss legs (n + m) ++ _ = passU N ss legs n ++ r
    rw [e]
    exact ⟨_, List.append_assoc _ _ _⟩
/-- the gate and time at the sighting i -/
theorem pass_sight (hl : LegsAt N ss legs) (hs : legs.length + 1 = ss.length) (h0 : ss[0]? = some q0) : ∀ i a, i ≤ legs.length → ss[i]? = some a → ((q0.2, q0.1) :: passU N ss legs i)[offL legs i]? = some (a.2, a.1)
  | 0, a, _, ha => by
    rw [h0] at ha
    cases ha
    rfl
  | i + 1, b, hi, hb => by
    obtain ⟨l, hll⟩ : ∃ l, legs[i]? = some l := ⟨_, List.getElem?_eq_getElem (by omega)⟩
    obtain ⟨a, ha⟩ : ∃ a, ss[i]? = some a := ⟨_, List.getElem?_eq_getElem (by omega)⟩
    have hlen := passU_off hl hs (i + 1) hi
    have hp := (hl i a b l ha hb hll).1.1.walk.2
    have hst := offL_step hll
    have h2 := passU_off hl hs i (by omega)
    rw [show offL legs (i + 1) = (offL legs (i + 1) - 1) + 1 by omega, List.getElem?_cons_succ, passU_step ha hb hll, List.getElem?_append_right (by omega), List.getElem?_append_right (by rw [walkT_len, List.length_dropLast]; omega), walkT_len, List.length_dropLast, h2]
    rw [show offL legs (i + 1) - 1 - offL legs i - (l.2.2.length - 1) = 0 by omega]
    rfl
theorem pass_at (hl : LegsAt N ss legs) (hs : legs.length + 1 = ss.length) (h0 : ss[0]? = some q0) {i j : Nat} {a b : Int × Str} {l : LegD} (ha : ss[i]? = some a) (hb : ss[i + 1]? = some b) (hll : legs[i]? = some l) (hj : j ≤ l.2.2.length) :
    ((q0.2, q0.1) :: passU N ss legs legs.length)[offL legs i + j]? = some (if j = 0 then (a.2, a.1) else if j = l.2.2.length then (b.2, b.1) else (otherOf N (l.2.2.getD (j - 1) 0), a.1 + ((l.2.2.take j).map (miOf N)).sum)) := by
  have il := (List.getElem?_eq_some_iff.mp hll).1
  have hlen := passU_off hl hs (i + 1) (by omega)
  have hlen0 := passU_off hl hs i (by omega)
  have hst := offL_step hll
  have hp := (hl i a b l ha hb hll).1.1.walk.2
  obtain ⟨r, e⟩ := passU_pre (N := N) (ss := ss) (legs := legs) (i + 1) (legs.length - (i + 1))
  rw [show i + 1 + (legs.length - (i + 1)) = legs.length by omega] at e
  rw [e, ← List.cons_append, List.getElem?_append_left (by rw [List.length_cons]; omega)]
  by_cases j0 : j = 0
  · subst j0
    rw [if_pos rfl, passU_step ha hb hll, ← List.cons_append, List.getElem?_append_left (by rw [List.length_cons]; omega)]
    exact pass_sight hl hs h0 i a (by omega) ha
  · rw [if_neg j0]
    by_cases jl : j = l.2.2.length
    · rw [if_pos jl, jl, ← hst]
      exact pass_sight hl hs h0 (i + 1) b (by omega) hb
    · rw [if_neg jl, show offL legs i + j = (offL legs i + (j - 1)) + 1 by omega, List.getElem?_cons_succ, passU_step ha hb hll, List.getElem?_append_right (by omega), hlen0, Nat.add_sub_cancel_left, List.getElem?_append_left (by rw [walkT_len, List.length_dropLast]; omega)]
      have hx : l.2.2.dropLast[j - 1]? = some (l.2.2.getD (j - 1) 0) := by
        rw [List.getElem?_dropLast, if_pos (by omega), List.getD_eq_getElem?_getD, List.getElem?_eq_getElem (by omega)]
        rfl
      rw [walkT_at N _ _ _ _ hx]
      have ht : (l.2.2.dropLast.take (j - 1)).map (miOf N) = (l.2.2.take (j - 1)).map (miOf N) := by
        rw [List.dropLast_eq_take, List.take_take, Nat.min_eq_left (by omega)]
      rw [ht]
      congr 2
      have hx2 : l.2.2[j - 1]? = some (l.2.2.getD (j - 1) 0) := by
        rw [List.getD_eq_getElem?_getD, List.getElem?_eq_getElem (by omega)]
        rfl
      rw [show l.2.2.take j = l.2.2.take (j - 1 + 1) by rw [show j - 1 + 1 = j by omega], List.take_add_one, hx2]
      show _ = _ + ((l.2.2.take (j - 1) ++ [l.2.2.getD (j - 1) 0]).map (miOf N)).sum
      rw [List.map_append, List.sum_append]
      show _ = _ + (_ + (miOf N (l.2.2.getD (j - 1) 0) + 0))
      omega
end
/-- what the law asks of a way -/
structure WayOk (N : NetD) (ss : List (Int × Str)) (rs : List Int) (ps : List (Str × Int)) (t : Int) (n : Nat) (off : Nat → Nat) : Prop where
  ln : n + 1 = ss.length
  len : ps.length = rs.length + 1
  first : ∃ q0, ss[0]? = some q0 ∧ ps[0]? = some (q0.2, q0.1)
  join : ∀ k x, rs[k]? = some x → ∃ (i : Nat) (r : RoadD) (p q : Str × Int), x = (i : Int) ∧ N.roads[i]? = some r ∧ r.op = true ∧ ps[k]? = some p ∧ ps[k + 1]? = some q ∧ r.one = p.1 ∧ r.other = q.1 ∧ p.2 + r.mi ≤ q.2
  sum : (rs.map (tlOf N)).sum = t
  off0 : off 0 = 0
  offn : off n = rs.length
  seg : ∀ i, i < n → ∃ b, ss[i + 1]? = some b ∧ off i < off (i + 1) ∧ off (i + 1) ≤ rs.length ∧ ps[off (i + 1)]? = some (b.2, b.1) ∧
    ∀ k, off i ≤ k → k + 1 < off (i + 1) → ∃ (j : Nat) (r : RoadD) (p q : Str × Int), rs[k]? = some (j : Int) ∧ N.roads[j]? = some r ∧ ps[k]? = some p ∧ ps[k + 1]? = some q ∧ q.2 = p.2 + r.mi ∧ seesOf N.gates q.1 = some false ∧ q.2 < b.1
theorem take_sum_le {N : NetD} (ok : NetOk N) : ∀ (l : List Int) (j : Nat), (∀ x ∈ l, 0 ≤ x ∧ x < (N.roads.length : Int)) → j < l.length → ((l.take j).map (miOf N)).sum < (l.map (miOf N)).sum := by
  have pos : ∀ x : Int, 0 ≤ x → x < (N.roads.length : Int) → 1 ≤ miOf N x := fun x x0 x1 => by
    obtain ⟨r, hr⟩ : ∃ r, N.roads[x.toNat]? = some r := ⟨_, List.getElem?_eq_getElem (by omega)⟩
    unfold miOf
    rw [hr]
    exact ok.mi r (List.mem_of_getElem? hr)
  intro l
  induction l with
  | nil => intro j _ h; simp at h
  | cons x l ih =>
    intro j hv hj
    have p := pos x (hv x (List.mem_cons_self ..)).1 (hv x (List.mem_cons_self ..)).2
    rw [List.map_cons, List.sum_cons]
    cases j with
    | zero =>
      show (0 : Int) < _
      have nn : ∀ l : List Int, (∀ x ∈ l, 0 ≤ x ∧ x < (N.roads.length : Int)) → 0 ≤ (l.map (miOf N)).sum := by
        intro l
        induction l with
        | nil => intro _; exact Int.le_refl 0
        | cons y l ih =>
          intro hv
          have p := pos y (hv y (List.mem_cons_self ..)).1 (hv y (List.mem_cons_self ..)).2
          have := ih fun z hz => hv z (List.mem_cons_of_mem _ hz)
          rw [List.map_cons, List.sum_cons]
          omega
      have := nn l fun z hz => hv z (List.mem_cons_of_mem _ hz)
      omega
    | succ j =>
      have := ih j (fun z hz => hv z (List.mem_cons_of_mem _ hz)) (by simpa using hj)
      rw [List.take_succ_cons, List.map_cons, List.sum_cons]
      omega
theorem way_ok {N : NetD} (ok : NetOk N) {ss : List (Int × Str)} {legs : List LegD} {q0 : Int × Str} (hl : LegsAt N ss legs) (hs : legs.length + 1 = ss.length) (h0 : ss[0]? = some q0) : WayOk N ss (roadsAll legs) ((q0.2, q0.1) :: passU N ss legs legs.length) (tollsOf legs) legs.length (offL legs) := by
  -- of one road of one leg
  have one : ∀ {i j : Nat} {l : LegD}, legs[i]? = some l → j < l.2.2.length → ∃ (a b : Int × Str) (x : Int) (n : Nat) (r : RoadD) (p q : Str × Int), ss[i]? = some a ∧ ss[i + 1]? = some b ∧ (roadsAll legs)[offL legs i + j]? = some x ∧ x = (n : Int) ∧ N.roads[n]? = some r ∧ r.op = true ∧
      ((q0.2, q0.1) :: passU N ss legs legs.length)[offL legs i + j]? = some p ∧ ((q0.2, q0.1) :: passU N ss legs legs.length)[offL legs i + j + 1]? = some q ∧ r.one = p.1 ∧ r.other = q.1 ∧ p.2 + r.mi ≤ q.2 ∧ (j + 1 < l.2.2.length → q.2 = p.2 + r.mi ∧ seesOf N.gates q.1 = some false ∧ q.2 < b.1) ∧ (j + 1 = l.2.2.length → q = (b.2, b.1)) := fun {i j l} hll hj => by
    have il := (List.getElem?_eq_some_iff.mp hll).1
    obtain ⟨a, ha⟩ : ∃ a, ss[i]? = some a := ⟨_, List.getElem?_eq_getElem (by omega)⟩
    obtain ⟨b, hb⟩ : ∃ a, ss[i + 1]? = some a := ⟨_, List.getElem?_eq_getElem (by omega)⟩
    have hd := (hl i a b l ha hb hll).1
    obtain ⟨⟨ga, g0, g1, hw⟩, hp⟩ := hd.1.walk
    have hsum := (Drv.sum hd.1).2
    have hrd := hd.1.roads
    obtain ⟨x, hx⟩ : ∃ x, l.2.2[j]? = some x := ⟨_, List.getElem?_eq_getElem hj⟩
    obtain ⟨n, r, rfl, hr, hop, h1, h2, h3⟩ := hw j x hx
    have pj := pass_at hl hs h0 ha hb hll (j := j) (by omega)
    have pj1 := pass_at hl hs h0 ha hb hll (j := j + 1) (by omega)
    have tj : ((l.2.2.take (j + 1)).map (miOf N)).sum = ((l.2.2.take j).map (miOf N)).sum + r.mi := by
      rw [List.take_add_one, hx]
      show ((l.2.2.take j ++ [(n : Int)]).map (miOf N)).sum = _
      rw [List.map_append, List.sum_append]
      show _ + (miOf N (n : Int) + 0) = _
      rw [(tlOf_at hr).2, Int.add_zero]
    have hoj : otherOf N (l.2.2.getD j 0) = r.other := by
      rw [List.getD_eq_getElem?_getD, hx]
      show otherOf N (n : Int) = _
      unfold otherOf
      rw [Int.toNat_natCast, hr]
      rfl
    -- the place ahead
    have P : ∃ p : Str × Int, ((q0.2, q0.1) :: passU N ss legs legs.length)[offL legs i + j]? = some p ∧ p.1 = ga j ∧ p.2 = a.1 + ((l.2.2.take j).map (miOf N)).sum := by
      by_cases j0 : j = 0
      · subst j0
        rw [if_pos rfl] at pj
        exact ⟨_, pj, g0.symm, by simp⟩
      · rw [if_neg j0, if_neg (by omega)] at pj
        refine ⟨_, pj, ?_, rfl⟩
        obtain ⟨y, hy⟩ : ∃ y, l.2.2[j - 1]? = some y := ⟨_, List.getElem?_eq_getElem (by omega)⟩
        obtain ⟨n', r', rfl, hr', _, _, _, h3'⟩ := hw (j - 1) y hy
        rw [show j - 1 + 1 = j by omega] at h3'
        show otherOf N (l.2.2.getD (j - 1) 0) = _
        rw [List.getD_eq_getElem?_getD, hy]
        show otherOf N (n' : Int) = _
        unfold otherOf
        rw [Int.toNat_natCast, hr']
        exact h3'
    obtain ⟨p, hpp, p1, p2⟩ := P
    rw [if_neg (by omega)] at pj1
    refine ⟨a, b, (n : Int), n, r, p, _, ha, hb, by rw [roadsAll_at hll hj]; exact hx, rfl, hr, hop, hpp, pj1, by rw [p1]; exact h1, ?_, ?_, fun hlt => ?_, fun he => by rw [if_pos he]⟩
    · by_cases he : j + 1 = l.2.2.length
      · rw [if_pos he]
        show r.other = b.2
        rw [h3, he]
        exact g1
      · rw [if_neg he]
        exact hoj.symm
    · by_cases he : j + 1 = l.2.2.length
      · rw [if_pos he]
        show p.2 + r.mi ≤ b.1
        have hm := hd.2.1
        rw [he, List.take_length, hsum] at tj
        omega
      · rw [if_neg he]
        show p.2 + r.mi ≤ a.1 + ((l.2.2.take (j + 1)).map (miOf N)).sum
        omega
    · rw [if_neg (by omega)]
      refine ⟨by show a.1 + ((l.2.2.take (j + 1)).map (miOf N)).sum = p.2 + r.mi; omega, ?_, ?_⟩
      · obtain ⟨y, hy⟩ : ∃ y, l.2.2[j + 1]? = some y := ⟨_, List.getElem?_eq_getElem hlt⟩
        obtain ⟨_, _, _, _, _, _, h2', _⟩ := hw (j + 1) y hy
        show seesOf N.gates (otherOf N (l.2.2.getD j 0)) = _
        rw [hoj, h3]
        exact h2' (by omega)
      · show a.1 + ((l.2.2.take (j + 1)).map (miOf N)).sum < b.1
        have := take_sum_le ok l.2.2 (j + 1) hrd hlt
        rw [hsum] at this
        have := hd.2.1
        omega
  have hfind : ∀ k, k < (roadsAll legs).length → ∃ (i j : Nat) (l : LegD), legs[i]? = some l ∧ j < l.2.2.length ∧ k = offL legs i + j := fun k hk => by
    rw [← offL_all] at hk
    obtain ⟨i, j, l, _, h1, h2, h3⟩ := off_find legs.length (Nat.le_refl _) k hk
    exact ⟨i, j, l, h1, h2, h3⟩
  refine ⟨hs, by rw [List.length_cons, passU_off hl hs _ (Nat.le_refl _), offL_all], ⟨q0, h0, rfl⟩, fun k x hx => ?_, ?_, rfl, offL_all legs, fun i hi => ?_⟩
  · obtain ⟨i, j, l, h1, h2, rfl⟩ := hfind k (List.getElem?_eq_some_iff.mp hx).1
    obtain ⟨a, b, x', n, r, p, q, _, _, hx', en, hr, hop, hp, hq, e1, e2, e3, _⟩ := one h1 h2
    rw [hx] at hx'
    cases hx'
    exact ⟨n, r, p, q, en, hr, hop, hp, hq, e1, e2, e3⟩
  · have : ∀ ls : List LegD, (∀ l ∈ ls, (l.2.2.map (tlOf N)).sum = l.1) → ((roadsAll ls).map (tlOf N)).sum = tollsOf ls := by
      intro ls
      induction ls with
      | nil => intro _; rfl
      | cons l ls ih =>
        intro h
        have := ih fun x hx => h x (List.mem_cons_of_mem _ hx)
        have h1 := h l (List.mem_cons_self ..)
        unfold roadsAll tollsOf at *
        rw [List.map_cons, List.flatten_cons, List.map_append, List.sum_append, List.map_cons, List.sum_cons, h1, this]
    refine this legs fun l hlm => ?_
    obtain ⟨i, hi⟩ := List.getElem?_of_mem hlm
    have il := (List.getElem?_eq_some_iff.mp hi).1
    obtain ⟨a, ha⟩ : ∃ a, ss[i]? = some a := ⟨_, List.getElem?_eq_getElem (by omega)⟩
    obtain ⟨b, hb⟩ : ∃ a, ss[i + 1]? = some a := ⟨_, List.getElem?_eq_getElem (by omega)⟩
    exact (Drv.sum (hl i a b l ha hb hi).1.1).1
  · obtain ⟨l, hll⟩ : ∃ l, legs[i]? = some l := ⟨_, List.getElem?_eq_getElem hi⟩
    obtain ⟨a, ha⟩ : ∃ a, ss[i]? = some a := ⟨_, List.getElem?_eq_getElem (by omega)⟩
    obtain ⟨b, hb⟩ : ∃ a, ss[i + 1]? = some a := ⟨_, List.getElem?_eq_getElem (by omega)⟩
    have hp := (hl i a b l ha hb hll).1.1.walk.2
    have hst := offL_step hll
    have hle : offL legs (i + 1) ≤ (roadsAll legs).length := by
      have : ∀ n m, offL legs n ≤ offL legs (n + m) := fun n m => by
        induction m with
        | zero => exact Nat.le_refl _
        | succ m ih =>
          cases e : legs[n + m]? with
          | none =>
            have := List.getElem?_eq_none_iff.mp e
            unfold offL at *
            rw [List.take_of_length_le (show legs.length ≤ n + m by omega)] at ih
            rw [List.take_of_length_le (show legs.length ≤ n + (m + 1) by omega)]
            exact ih
          | some l =>
            have := offL_step e
            show _ ≤ offL legs (n + m + 1)
            omega
      have := this (i + 1) (legs.length - (i + 1))
      rw [show i + 1 + (legs.length - (i + 1)) = legs.length by omega, offL_all] at this
      exact this
    refine ⟨b, hb, by omega, hle, ?_, fun k hk1 hk2 => ?_⟩
    · have := pass_at hl hs h0 ha hb hll (j := l.2.2.length) (Nat.le_refl _)
      rw [if_neg (by omega), if_pos rfl] at this
      rw [hst]
      exact this
    · obtain ⟨a', b', x', n, r, p, q, _, hb', hx', rfl, hr, _, hp', hq, _, _, _, h5, _⟩ := one hll (j := k - offL legs i) (by omega)
      rw [hb] at hb'
      cases hb'
      rw [show offL legs i + (k - offL legs i) = k by omega] at hx' hp' hq
      obtain ⟨h6, h7, h8⟩ := h5 (by omega)
      exact ⟨n, r, p, q, hx', hr, hp', hq, h6, h7, h8⟩
end Toll
namespace Toll
open PySem L2
theorem pass_ne {p q : Str × Int} (h : p.2 ≠ q.2) : PyData.eqv (passD1 p) (passD1 q) = false := by
  unfold passD1
  have e : PyData.eqv (.int p.2) (.int q.2) = false := by
    show decide (p.2 = q.2) = false
    exact decide_eq_false h
  show (PyData.eqv (.str p.1) (.str q.1) && (PyData.eqv (.int p.2) (.int q.2) && true)) = false
  rw [e]
  simp
end Toll

set_option Elab.async false
set_option linter.all false
set_option maxRecDepth 100000
set_option maxHeartbeats 4000000
namespace Toll
open PySem L2
def seenD1 (q : Int × Str) : PyData := .tuple [.int q.1, .str q.2]
theorem dpAll_seen {K : PySem.W.Frag} {H : Hp} : ∀ {us : List V} {ss : List (Int × Str)}, Paired (SeenV H) us ss → DpAll K H us (ss.map seenD1)
  | _, _, .nil => .nil
  | _, _, .cons ⟨t, e, h⟩ r => by
    subst e
    exact .cons (.tup (SqT.of h) (.cons (.int _) (.cons (.str _) .nil))) (dpAll_seen r)
theorem dp_seen {K : PySem.W.Frag} {H : Hp} {a : Addr} {us : List V} {ss : List (Int × Str)} (h : SqL K H a us) (p : Paired (SeenV H) us ss) : Dp K H (.ref a) (.list (ss.map seenD1)) := .lst h (dpAll_seen p)
theorem seenL_ok {ss : List (Int × Str)} (h : ∀ q ∈ ss, PyData.strOk q.2 = true) : okD 2 (.list (ss.map seenD1)) := okD_list fun d hd => by
  obtain ⟨q, hq, rfl⟩ := List.mem_map.mp hd
  refine okD_tup fun e he => ?_
  simp only [List.mem_cons, List.not_mem_nil, or_false] at he
  rcases he with rfl | rfl
  · exact okD_int _
  · exact okD_str (h q hq)
theorem roadsAll_len {N : NetD} {ss : List (Int × Str)} {legs : List LegD} (hl : LegsAt N ss legs) (hs : legs.length + 1 = ss.length) : (roadsAll legs).length ≤ 4000 * legs.length := by
  have : ∀ ls : List LegD, (∀ l ∈ ls, l.2.2.length ≤ 4000) → (roadsAll ls).length ≤ 4000 * ls.length := by
    intro ls
    induction ls with
    | nil => intro _; exact Nat.le_refl _
    | cons l ls ih =>
      intro h
      have h1 := ih fun x hx => h x (List.mem_cons_of_mem _ hx)
      have h2 := h l (List.mem_cons_self ..)
      unfold roadsAll at *
      rw [List.map_cons, List.flatten_cons, List.length_append, List.length_cons]
      omega
  refine this legs fun l hlm => ?_
  obtain ⟨i, hi⟩ := List.getElem?_of_mem hlm
  have il := (List.getElem?_eq_some_iff.mp hi).1
  exact (hl i _ _ l (List.getElem?_eq_getElem (by omega)) (List.getElem?_eq_getElem (by omega)) hi).2.2
theorem none_way : PyData.eqv (.tuple [.str "way"]) (.tuple [.str "none"]) = false := by decide +kernel
theorem one_ok {x : Str} (h : PyData.strOk x = true) : okD 1 (.tuple [.str x]) := okD_tup fun e he => by
  rw [List.mem_singleton] at he
  rw [he]
  exact okD_str h
end Toll

set_option Elab.async false
set_option linter.all false
set_option maxRecDepth 100000
set_option maxHeartbeats 4000000
namespace Toll
open PySem PySem.Calls PySem.W PyProof.Rows L2
/-! ### sorted, of sightings -/
def seenLe (a b : Int × Str) : Bool := dataLe false seenD1 a b
/-- what an item stands for -/
def SeenU (H : Hp) (v : Value) (q : Int × Str) : Prop := ∃ t, v = Value.ref t ∧ H t = some (.tup [.int q.1, .str q.2])
theorem seenU_of {H : Hp} : ∀ {us : List V} {its : List Value} {ss : List (Int × Str)}, Vals us its → Paired (SeenV H) us ss → EachIs (SeenU H) its ss
  | _, _, _, .nil, .nil => .nil
  | _, _, _, .cons r rs, .cons ⟨t, e, h⟩ ps => by
    subst e
    cases r
    exact .cons ⟨t, rfl, h⟩ (seenU_of rs ps)
theorem seenV_of {H : Hp} : ∀ {its : List Value} {ss : List (Int × Str)}, EachIs (SeenU H) its ss → ∃ us : List V, Vals us its ∧ Paired (SeenV H) us ss
  | _, _, .nil => ⟨[], .nil, .nil⟩
  | _, _, .cons ⟨t, e, h⟩ r => by
    obtain ⟨us, h1, h2⟩ := seenV_of r
    subst e
    exact ⟨.ref t :: us, .cons rfl h1, .cons ⟨t, rfl, h⟩ h2⟩
theorem each_len {α β : Type} {R : α → β → Prop} : ∀ {l : List α} {m : List β}, EachIs R l m → l.length = m.length
  | _, _, .nil => rfl
  | _, _, .cons _ t => by simp [each_len t]
theorem seen_alike (ss : List (Int × Str)) : AllAlike (ss.map seenD1) := AllAlike.of fun b b' => by simp [seenD1, alike, alikeAll]
theorem seen_sortable (ss : List (Int × Str)) : Sortable (ss.map seenD1) := Sortable.tuples fun b => ⟨_, _, rfl⟩
section
variable {X : Cx}
def rSortSeen (K : PySem.W.Frag) : List V → Hp → VK → Prop := fun vs H Q => ∃ (a : Addr) (us : List V) (ss : List (Int × Str)), vs = [.ref a] ∧ SqL K H a us ∧ Paired (SeenV H) us ss ∧ ss.length ≤ 1000 ∧
  ∀ (p : Addr) (us' : List V), H p = none → Paired (SeenV H) us' (ss.mergeSort seenLe) → Q (.ref p) (upd H p (.lst us'))
theorem cr_sortSeen (hu : X.A.units + 64 < cLine) : CallR X (.builtin "sorted") (rSortSeen X.K) := by
  intro pins s σ H vs vals Q I r h
  obtain ⟨a, us, ss, rfl, hs, hp, hlen, q⟩ := h
  obtain ⟨its, rv, hl, hz⟩ := I.list hs
  obtain ⟨u, rfl, ru⟩ := vals1 r
  obtain rfl : u = Value.ref a := ru
  have e := seenU_of rv hp
  have er : EachIs (fun v b => ∃ as, Reads s.heap v (seenD1 b) as) its ss := e.mono fun v b ⟨t, ev, ht⟩ => by
    subst ev
    exact Dp.reads I (seenD1 b) (.ref t) (.ref t) (.tup (SqT.of ht) (.cons (.int _) (.cons (.str _) .nil))) rfl
  have dep : ∀ b : Int × Str, (seenD1 b).depth ≤ 1 := fun b => by simp [seenD1, PyData.depth, PyData.depthAll]
  refine sorted_data hl.isList e er (seen_alike ss) (seen_sortable ss) (Evl.sz_of (by omega)) (fun b _ => by have := dep b; show X.A.units + 2 + _ < cLine; omega) fun out hol ho => ?_
  obtain ⟨us', v1, p1⟩ := seenV_of ho
  have hul : us'.length ≤ sizeLine := by
    rw [v1.length, hol]
    exact Evl.sz_of (by omega)
  obtain ⟨n, hn⟩ := sortedAll_at s.heap its out.toArray
  refine ⟨.ref (s.heap.objs.size + 1), _, I.laid (t' := s.toks) (o := .lst us') (fun b o eb => sortedAll_old eb) (Nat.le_succ _) ⟨hul, out, n, v1, hn⟩, rfl, q _ us' (I.hok.fresh (Nat.le_succ _)) p1⟩
/-- keys of a dict by sightings -/
def SeenK (kvs : List (List Key × V)) (ss : List (Int × Str)) : Prop := kvs.map (·.1) = ss.map fun q => [Sum.inl q.1, Sum.inr q.2]
def rSortSeenT : List V → Hp → VK → Prop := fun vs H Q => ∃ (a : Addr) (kvs : List (List Key × V)) (ss : List (Int × Str)), vs = [.ref a] ∧ H a = some (.dT kvs) ∧ SeenK kvs ss ∧ ss.length ≤ 1000 ∧
  ∀ (p : Addr) (us' : List V), H p = none → Paired (SeenV H) us' (ss.mergeSort seenLe) → Q (.ref p) (upd H p (.lst us'))
theorem seenU_keys {H : Hp} : ∀ {kvs : List (List Key × V)} {bs : List Addr} {ss : List (Int × Str)}, IsKeys H kvs bs → SeenK kvs ss → EachIs (SeenU H) (bs.map Value.ref) ss
  | [], _, [], .nil, _ => .nil
  | [], _, _ :: _, _, h => by simp [SeenK] at h
  | _ :: _, _, [], _, h => by simp [SeenK] at h
  | kv :: kvs, _, q :: ss, .cons h r, e => by
    unfold SeenK at e
    rw [List.map_cons, List.map_cons] at e
    injection e with e1 e2
    refine .cons ⟨_, rfl, ?_⟩ (seenU_keys r e2)
    rw [h, e1]
    rfl
theorem call_sortSeenT (hc : X.calm = true) (hu : X.A.units + 64 < cLine) : CallR X (.builtin "sorted") rSortSeenT := by
  intro pins s σ H vs vals Q I r h
  obtain ⟨a, kvs, ss, rfl, hd, hk, hlen, q⟩ := h
  obtain ⟨u, rfl, rx⟩ := r.one
  cases rx
  obtain ⟨z, hs, ks, pr, o, es, ep, ho, hx, hdt, he, hn⟩ := (show ObjOk X.prog X.w H s.heap a (.dT kvs) from I.hok a _ hd)
  have l1 : es.size = ks.length := size_of_entries he
  have l2 : kvs.length = ks.length := Paired.length pr
  have l3 : kvs.length = ss.length := by
    have := congrArg List.length hk
    simpa using this
  refine Calls.call_function_entry kind_sorted plain_sorted entry_sorted (args_sorted1 _) ?_
  unfold Builtin.«sorted»
  refine wpAny_bind (m := checkCount "sorted" 1 1 _) (wpAny_pure ?_)
  refine wpAny_bind (PySem.W.kdu_collect (A := X.A.in1) (kdl_raw hs hx hdt) (I.ok.hd hc) ho (by rw [l1, ← l2, l3]; exact Evl.sz_of (by omega)) fun h' tk acc kp it => ?_)
  have ea : acc.toList = (ks.map fun x => x.2.1).map Value.ref := by
    have hl : acc.toList.length = ks.length := by rw [Array.length_toList, it.1]; exact l1
    apply List.ext_getElem?
    intro j
    rw [List.getElem?_map, List.getElem?_map]
    cases hj : acc.toList[j]? with
    | none =>
      have h1 := List.getElem?_eq_none_iff.mp hj
      rw [show ks[j]? = none from List.getElem?_eq_none (by omega)]
      rfl
    | some v =>
      obtain ⟨en, hen, hv⟩ := it.2 j v ((Array.getElem?_toList).symm.trans hj)
      have qe := entry_at he j
      cases hb : ks[j]? with
      | none =>
        have h1 := List.getElem?_eq_none_iff.mp hb
        have h2 := (List.getElem?_eq_some_iff.mp hj).1
        omega
      | some b =>
        rw [hen, hb] at qe
        have e2 : en = entryOfKey (tupleKind (mixKind X.prog X.w)) b := Option.some.inj qe
        rw [hv, e2]
        rfl
  have I1 : L2.Inv X pins σ H { s with heap := h', toks := tk } := I.kept kp
  have e0 := seenU_keys (isKeys_of pr) hk
  rw [← ea] at e0
  have alen := each_len e0
  refine wpAny_bind (wpAny_newList ?_ (by rw [alen]; exact Evl.sz_of (by omega)))
  have hoL : (h'.push (seqObj "list" acc.toList.toArray 0)).get? h'.objs.size = some (seqObj "list" acc.toList.toArray 0) := Heap.get?_push_size _ rfl
  have dep : ∀ b : Int × Str, (seenD1 b).depth ≤ 1 := fun b => by simp [seenD1, PyData.depth, PyData.depthAll]
  have er : EachIs (fun v b => ∃ as, Reads (h'.push (seqObj "list" acc.toList.toArray 0)) v (seenD1 b) as ∧ h'.objs.size ∉ as) acc.toList ss := e0.mono fun v b ⟨t, ev, ht⟩ => by
    subst ev
    obtain ⟨_, its, r, o2, ho2, hc2, n2, hd2⟩ := I1.hok t _ ht
    obtain ⟨u1, u2, rfl, ri, rj⟩ := vals2 r
    obtain ⟨t1, rfl⟩ := ri
    obtain ⟨t2, rfl⟩ := rj
    exact ⟨_, .tuple (Heap.get?_push_of_some _ ho2) hc2 hd2 (.cons (.int _ _) (.cons (.str _ _) .nil)), by simp⟩
  show wpAny _ _ _ _ _ { s with heap := h'.push (seqObj "list" acc.toList.toArray 0), toks := tk }
  refine wpAny_bind (wpAny_holding (list_sort_data (s := { s with heap := h'.push (seqObj "list" acc.toList.toArray 0), toks := tk }) hoL e0 er (seen_alike ss) (seen_sortable ss) (Evl.sz_of (by omega)) (fun b _ => by have := dep b; show X.A.units + 1 + 1 + _ < cLine; omega) fun out hol hout => ?_))
  obtain ⟨us', v1, p1⟩ := seenV_of hout
  have hul : us'.length ≤ sizeLine := by
    rw [v1.length, hol]
    exact Evl.sz_of (by omega)
  obtain ⟨e', he'⟩ := PyProof.Rows.sortedHeap_at (vs := acc.toList) (out := out.toArray) hoL
  refine wpAny_pure ⟨_, rfl, .ref h'.objs.size, upd H h'.objs.size (.lst us'), I1.laid (t' := tk) (fun b u e => ?_) (Nat.le_refl _)
    (show ObjOk X.prog X.w _ _ _ (.lst us') from ⟨hul, out, e', v1, he'⟩), rfl, q _ us' (I1.hok.fresh (Nat.le_refl _)) p1⟩
  have hb : b < h'.objs.size := Heap.lt_size e
  rw [PyProof.Rows.sortedHeap_old (Nat.ne_of_lt hb) (by rw [size_push']; exact Nat.lt_succ_of_lt hb)]
  exact Heap.get?_push_of_some _ e
end
end Toll

set_option Elab.async false
set_option linter.all false
set_option maxRecDepth 100000
set_option maxHeartbeats 4000000
namespace Toll
open PySem L2
/-! ### a watch: cars in their turn, each with its sightings -/
structure CarE where
  car : Str
  d : Addr
  ss : List (Int × Str)
def carsK (W : List CarE) : List (Key × V) := W.map fun e => (Sum.inr e.car, V.ref e.d)
def carOf (W : List CarE) (c : Str) : Option CarE := W.find? fun e => decide (e.car = c)
theorem valV_cars (W : List CarE) (c : Str) : valV (carsK W) (Sum.inr c : Key) = (carOf W c).map fun e => V.ref e.d := by
  induction W with
  | nil => rfl
  | cons e W ih =>
    unfold carsK carOf at *
    rw [List.map_cons]
    by_cases h : e.car = c
    · rw [valV_pos (key_inr.mpr h), List.find?_cons_of_pos (by simpa using h)]
      rfl
    · rw [valV_neg (fun z => h (key_inr.mp z)), List.find?_cons_of_neg (by simpa using h)]
      exact ih
theorem carOf_some {W : List CarE} {c : Str} {e : CarE} (h : carOf W c = some e) : e ∈ W ∧ e.car = c := by
  unfold carOf at h
  have h2 := List.find?_some h
  exact ⟨List.mem_of_find?_eq_some h, of_decide_eq_true h2⟩
theorem carOf_none {W : List CarE} {c : Str} (h : carOf W c = none) : ∀ e ∈ W, e.car ≠ c := fun e he z => by
  unfold carOf at h
  exact (List.find?_eq_none.mp h) e he (decide_eq_true z)
theorem carOf_mem {W : List CarE} (nd : (W.map (·.car)).Nodup) {e : CarE} (he : e ∈ W) : carOf W e.car = some e := by
  induction W with
  | nil => cases he
  | cons x W ih =>
    rw [List.map_cons, List.nodup_cons] at nd
    unfold carOf
    rcases List.mem_cons.mp he with z | z
    · subst z
      rw [List.find?_cons_of_pos (by simp)]
    · rw [List.find?_cons_of_neg (by
        intro y
        exact nd.1 (by rw [of_decide_eq_true y]; exact List.mem_map.mpr ⟨e, z, rfl⟩))]
      exact ih nd.2 z
theorem carsK_snoc {W : List CarE} {c : Str} {d : Addr} {ss : List (Int × Str)} (h : carOf W c = none) : putK (carsK W) (Sum.inr c : Key) (V.ref d) = carsK (W ++ [⟨c, d, ss⟩]) := by
  rw [putK_new _ (by rw [valV_cars, h]; rfl)]
  simp [carsK]
def setSs (W : List CarE) (c : Str) (ss : List (Int × Str)) : List CarE := W.map fun e => if e.car = c then { e with ss := ss } else e
theorem setSs_cars (W : List CarE) (c : Str) (ss : List (Int × Str)) : (setSs W c ss).map (·.car) = W.map (·.car) := by
  unfold setSs
  rw [List.map_map]
  apply List.map_congr_left
  intro e _
  by_cases h : e.car = c <;> simp [h]
theorem setSs_d (W : List CarE) (c : Str) (ss : List (Int × Str)) : (setSs W c ss).map (·.d) = W.map (·.d) := by
  unfold setSs
  rw [List.map_map]
  apply List.map_congr_left
  intro e _
  by_cases h : e.car = c <;> simp [h]
theorem setSs_K (W : List CarE) (c : Str) (ss : List (Int × Str)) : carsK (setSs W c ss) = carsK W := by
  unfold setSs carsK
  rw [List.map_map]
  apply List.map_congr_left
  intro e _
  by_cases h : e.car = c <;> simp [h]
theorem setSs_mem {W : List CarE} {c : Str} {ss : List (Int × Str)} {e : CarE} (h : e ∈ setSs W c ss) : ∃ e0 ∈ W, e.d = e0.d ∧ e.car = e0.car ∧ ((e.car = c ∧ e.ss = ss) ∨ (e.car ≠ c ∧ e = e0)) := by
  unfold setSs at h
  obtain ⟨e0, h0, rfl⟩ := List.mem_map.mp h
  refine ⟨e0, h0, ?_⟩
  by_cases z : e0.car = c
  · rw [if_pos z]
    exact ⟨rfl, rfl, .inl ⟨z, rfl⟩⟩
  · rw [if_neg z]
    exact ⟨rfl, rfl, .inr ⟨z, rfl⟩⟩
/-! ### keys of sightings -/
def keyT (q : Int × Str) : List Key := [Sum.inl q.1, Sum.inr q.2]
theorem keyT_inj {a b : Int × Str} : keyT a = keyT b ↔ a = b := by
  constructor
  · intro h
    unfold keyT at h
    injection h with h1 h2
    injection h2 with h2 _
    injection h1 with h1
    injection h2 with h2
    exact Prod.ext h1 h2
  · intro h
    rw [h]
theorem seenK_has {kvs : List (List Key × V)} {ss : List (Int × Str)} (h : SeenK kvs ss) (q : Int × Str) : (valV kvs (keyT q)).isSome = decide (q ∈ ss) := by
  induction kvs generalizing ss with
  | nil =>
    cases ss with
    | nil => rfl
    | cons _ _ => simp [SeenK] at h
  | cons kv kvs ih =>
    cases ss with
    | nil => simp [SeenK] at h
    | cons p ss =>
      unfold SeenK at h
      rw [List.map_cons, List.map_cons] at h
      injection h with h1 h2
      have h1 : kv.1 = keyT p := h1
      have ih := ih (ss := ss) h2
      obtain ⟨k, v⟩ := kv
      by_cases e : p = q
      · subst e
        rw [valV_pos h1]
        simp
      · rw [valV_neg (fun z => e (keyT_inj.mp (h1.symm.trans z))), ih]
        have : q ≠ p := fun z => e z.symm
        simp [this]
theorem seenK_put {kvs : List (List Key × V)} {ss : List (Int × Str)} (h : SeenK kvs ss) {q : Int × Str} (hq : q ∉ ss) (v : V) : SeenK (putK kvs (keyT q) v) (ss ++ [q]) := by
  have hn : valV kvs (keyT q) = none := by
    have := seenK_has h q
    rw [decide_eq_false hq] at this
    cases e : valV kvs (keyT q) with
    | none => rfl
    | some x => rw [e] at this; cases this
  rw [putK_new _ (by rw [hn])]
  unfold SeenK at *
  rw [List.map_append, List.map_append, h]
  rfl
theorem seenK_len {kvs : List (List Key × V)} {ss : List (Int × Str)} (h : SeenK kvs ss) : kvs.length = ss.length := by
  have := congrArg List.length h
  simpa using this
/-! ### the object -/
theorem ns_ : ¬ (("net" : Str) = "_sightings") := by decide +kernel
def watchF (n sd : Addr) : List (Str × V) := putF "_sightings" (.ref sd) (putF "net" (.ref n) [])
theorem watchF_net (n sd : Addr) : (watchF n sd).lookup ("net" : Str) = some (.ref n) := by
  unfold watchF
  rw [lookup_putF, if_neg ns_, lookup_putF, if_pos rfl]
theorem watchF_sd (n sd : Addr) : (watchF n sd).lookup ("_sightings" : Str) = some (.ref sd) := by
  unfold watchF
  rw [lookup_putF, if_pos rfl]
theorem watchF_no (n sd : Addr) {m : Str} (h1 : ¬ m = "_sightings") (h2 : ¬ m = "net") : (watchF n sd).lookup m = none := by
  unfold watchF
  rw [lookup_putF, if_neg h1, lookup_putF, if_neg h2]
  all_goals rfl
structure WatchAt (C : Addr) (H : Hp) (p n sd : Addr) (W : List CarE) : Prop where
  ob : ∃ dx, H p = some (.ins C dx (watchF n sd))
  sd : H sd = some (.dK (carsK W))
  ds : ∀ e ∈ W, ∃ kvs, H e.d = some (.dT kvs) ∧ SeenK kvs e.ss
  nc : (W.map (·.car)).Nodup
  nd : (W.map (·.d)).Nodup
  nm : ∀ e ∈ W, e.car.length ≤ 8 ∧ PyData.strOk e.car = true
  ne : ∀ e ∈ W, e.ss ≠ [] ∧ e.ss.Nodup
  l1 : W.length ≤ 60
  l2 : ∀ e ∈ W, e.ss.length ≤ 900
def wfoot (sd : Addr) (W : List CarE) : List Addr := sd :: W.map (·.d)
theorem WatchAt.same {C : Addr} {H H' : Hp} {p n sd : Addr} {W : List CarE} (h : WatchAt C H p n sd W) (s : Same H H') : WatchAt C H' p n sd W := by
  obtain ⟨⟨dx, ob⟩, hsd, ds, a, b, c, d, e, f⟩ := h
  exact ⟨⟨dx, s _ _ ob⟩, s _ _ hsd, fun e he => by obtain ⟨kvs, h1, h2⟩ := ds e he; exact ⟨kvs, s _ _ h1, h2⟩, a, b, c, d, e, f⟩
theorem WatchAt.keep {C : Addr} {S : List Addr} {H H' : Hp} {p n sd : Addr} {W : List CarE} (h : WatchAt C H p n sd W) (k : Keep S H H') (hp : p ∉ S) (hf : ∀ x ∈ wfoot sd W, x ∉ S) : WatchAt C H' p n sd W := by
  obtain ⟨⟨dx, ob⟩, hsd, ds, a, b, c, d, e, f⟩ := h
  exact ⟨⟨dx, k _ _ ob hp⟩, k _ _ hsd (hf _ (List.mem_cons_self ..)), fun e he => by obtain ⟨kvs, h1, h2⟩ := ds e he; exact ⟨kvs, k _ _ h1 (hf _ (List.mem_cons_of_mem _ (List.mem_map.mpr ⟨e, he, rfl⟩))), h2⟩, a, b, c, d, e, f⟩
theorem WatchAt.sdne {C : Addr} {H : Hp} {p n sd : Addr} {W : List CarE} (h : WatchAt C H p n sd W) : ∀ e ∈ W, e.d ≠ sd := fun e he => by
  obtain ⟨kvs, h1, _⟩ := h.ds e he
  exact ne_of h1 h.sd (by intro z; cases z)
theorem WatchAt.pne {C : Addr} {H : Hp} {p n sd : Addr} {W : List CarE} (h : WatchAt C H p n sd W) : ∀ x ∈ wfoot sd W, p ≠ x := fun x hx => by
  obtain ⟨dx, ob⟩ := h.ob
  rcases List.mem_cons.mp hx with e | e
  · subst e
    exact ne_of ob h.sd (by intro z; cases z)
  · obtain ⟨e0, h0, rfl⟩ := List.mem_map.mp e
    obtain ⟨kvs, h1, _⟩ := h.ds e0 h0
    exact ne_of ob h1 (by intro z; cases z)
/-- a new car -/
theorem WatchAt.add {C : Addr} {H : Hp} {p n sd : Addr} {W : List CarE} (h : WatchAt C H p n sd W) {c : Str} {q : Int × Str} {d : Addr} (hc : carOf W c = none) (hn : c.length ≤ 8 ∧ PyData.strOk c = true) (hl : W.length < 60) {H' : Hp} (hk : Keep [sd] H H') (hs : H' sd = some (.dK (carsK (W ++ [⟨c, d, [q]⟩]))) ) (hd : ∃ kvs, H' d = some (.dT kvs) ∧ SeenK kvs [q]) (hdn : H d = none) : WatchAt C H' p n sd (W ++ [⟨c, d, [q]⟩]) := by
  have hp := h.pne sd (List.mem_cons_self ..)
  have hsd := h.sdne
  obtain ⟨⟨dx, ob⟩, _, ds, nc, nd, nm, ne, l1, l2⟩ := h
  refine ⟨⟨dx, hk _ _ ob (by simpa using hp)⟩, hs, fun e he => ?_, ?_, ?_, fun e he => ?_, fun e he => ?_, by rw [List.length_append]; show W.length + 1 ≤ 60; omega, fun e he => ?_⟩
  · rcases List.mem_append.mp he with z | z
    · obtain ⟨kvs, h1, h2⟩ := ds e z
      exact ⟨kvs, hk _ _ h1 (by simpa using hsd e z), h2⟩
    · rw [List.mem_singleton] at z
      subst z
      exact hd
  · rw [List.map_append, List.nodup_append]
    refine ⟨nc, by simp, fun x hx y hy => ?_⟩
    obtain ⟨e, he, rfl⟩ := List.mem_map.mp hx
    have hy : y = c := by simpa using hy
    rw [hy]
    exact carOf_none hc e he
  · rw [List.map_append, List.nodup_append]
    refine ⟨nd, by simp, fun x hx y hy => ?_⟩
    obtain ⟨e, he, rfl⟩ := List.mem_map.mp hx
    have hy : y = d := by simpa using hy
    rw [hy]
    intro z
    obtain ⟨kvs, h1, _⟩ := ds e he
    rw [z, hdn] at h1
    cases h1
  · rcases List.mem_append.mp he with z | z
    · exact nm e z
    · rw [List.mem_singleton] at z
      subst z
      exact hn
  · rcases List.mem_append.mp he with z | z
    · exact ne e z
    · rw [List.mem_singleton] at z
      subst z
      exact ⟨by simp, by simp⟩
  · rcases List.mem_append.mp he with z | z
    · exact l2 e z
    · rw [List.mem_singleton] at z
      subst z
      show 1 ≤ 900
      omega
/-- one more sighting of a car -/
theorem WatchAt.more {C : Addr} {H : Hp} {p n sd : Addr} {W : List CarE} (h : WatchAt C H p n sd W) {c : Str} {q : Int × Str} {e0 : CarE} (hc : carOf W c = some e0) (hq : q ∉ e0.ss) (hl : e0.ss.length < 900) {H' : Hp} (hk : Keep [e0.d] H H') (hd : ∃ kvs, H' e0.d = some (.dT kvs) ∧ SeenK kvs (e0.ss ++ [q])) : WatchAt C H' p n sd (setSs W c (e0.ss ++ [q])) := by
  obtain ⟨hm, hcar⟩ := carOf_some hc
  have hp := h.pne e0.d (List.mem_cons_of_mem _ (List.mem_map.mpr ⟨e0, hm, rfl⟩))
  have hsd := h.sdne e0 hm
  obtain ⟨⟨dx, ob⟩, hs, ds, nc, nd, nm, ne, l1, l2⟩ := h
  have one : ∀ e ∈ W, e.car = c → e = e0 := fun e he z => by
    have h1 := carOf_mem nc he
    rw [z, hc] at h1
    exact (Option.some.inj h1).symm
  have dne : ∀ e ∈ W, e.car ≠ c → e.d ≠ e0.d := fun e he z y => by
    obtain ⟨i, hi⟩ := List.getElem?_of_mem he
    obtain ⟨j, hj⟩ := List.getElem?_of_mem hm
    have li := List.getElem?_eq_some_iff.mp hi
    have lj := List.getElem?_eq_some_iff.mp hj
    obtain ⟨li, ei⟩ := li
    obtain ⟨lj, ej⟩ := lj
    have := (List.getElem_inj (xs := W.map (·.d)) (i := i) (j := j) (h₀ := by simpa using li) (h₁ := by simpa using lj) nd).mp (by simp [ei, ej, y])
    subst this
    rw [hi] at hj
    cases hj
    exact z hcar
  refine ⟨⟨dx, hk _ _ ob (by simpa using hp)⟩, by rw [setSs_K]; exact hk _ _ hs (by simpa using hsd.symm), fun e he => ?_, by rw [setSs_cars]; exact nc, by rw [setSs_d]; exact nd, fun e he => ?_, fun e he => ?_, by unfold setSs; rw [List.length_map]; exact l1, fun e he => ?_⟩
  · obtain ⟨e1, h1, hd1, hc1, ⟨z, zs⟩ | ⟨z, zs⟩⟩ := setSs_mem he
    · have : e1 = e0 := one e1 h1 (by rw [← hc1]; exact z)
      subst this
      rw [hd1, zs]
      exact hd
    · subst zs
      obtain ⟨kvs, h3, h4⟩ := ds e h1
      exact ⟨kvs, hk _ _ h3 (by simpa using dne e h1 z), h4⟩
  · obtain ⟨e1, h1, hd1, hc1, _⟩ := setSs_mem he
    rw [hc1]
    exact nm e1 h1
  · obtain ⟨e1, h1, hd1, hc1, ⟨z, zs⟩ | ⟨z, zs⟩⟩ := setSs_mem he
    · rw [zs]
      refine ⟨by simp, ?_⟩
      rw [List.nodup_append]
      exact ⟨(ne e0 hm).2, by simp, fun x hx y hy w => hq (by rw [List.mem_singleton] at hy; rw [← hy, ← w]; exact hx)⟩
    · subst zs
      exact ne e h1
  · obtain ⟨e1, h1, hd1, hc1, ⟨z, zs⟩ | ⟨z, zs⟩⟩ := setSs_mem he
    · rw [zs, List.length_append]
      show e0.ss.length + 1 ≤ 900
      omega
    · subst zs
      exact l2 e h1
end Toll
namespace Toll
open PySem L2
theorem carsK_drop (W : List CarE) (c : Str) : dropK (carsK W) (Sum.inr c : Key) = carsK (W.filter fun e => decide (e.car ≠ c)) := by
  unfold dropK carsK
  rw [List.filter_map]
  congr 1
  apply List.filter_congr
  intro e _
  show decide ((Sum.inr e.car : Key) ≠ Sum.inr c) = decide (e.car ≠ c)
  exact decide_eq_decide.mpr (not_congr key_inr)
theorem WatchAt.drop {C : Addr} {H : Hp} {p n sd : Addr} {W : List CarE} (h : WatchAt C H p n sd W) (c : Str) : WatchAt C (upd H sd (.dK (dropK (carsK W) (Sum.inr c)))) p n sd (W.filter fun e => decide (e.car ≠ c)) := by
  have hp := h.pne sd (List.mem_cons_self ..)
  have hsd := h.sdne
  obtain ⟨⟨dx, ob⟩, hs, ds, nc, nd, nm, ne, l1, l2⟩ := h
  have sub : ∀ e ∈ W.filter (fun e => decide (e.car ≠ c)), e ∈ W := fun e he => (List.mem_filter.mp he).1
  refine ⟨⟨dx, by rw [upd_ne hp]; exact ob⟩, by rw [upd_same, carsK_drop], fun e he => ?_, ?_, ?_, fun e he => nm e (sub e he), fun e he => ne e (sub e he), Nat.le_trans (List.length_filter_le _ _) l1, fun e he => l2 e (sub e he)⟩
  · obtain ⟨kvs, h1, h2⟩ := ds e (sub e he)
    exact ⟨kvs, by rw [upd_ne (hsd e (sub e he))]; exact h1, h2⟩
  · exact nc.sublist (List.filter_sublist.map _)
  · exact nd.sublist (List.filter_sublist.map _)
end Toll

set_option Elab.async false
set_option linter.all false
set_option maxRecDepth 100000
set_option maxHeartbeats 4000000
namespace Toll
open PySem PySem.Calls PySem.W PyProof.Rows L2
/-! ### sightings in their order -/
theorem seenLt_eq (a b : Int × Str) : dataLt (seenD1 a) (seenD1 b) = decide (a.1 < b.1 ∨ (a.1 = b.1 ∧ a.2.cps.toList < b.2.cps.toList)) := by
  obtain ⟨i, x⟩ := a
  obtain ⟨j, y⟩ := b
  show dataLt (.tuple [.int i, .str x]) (.tuple [.int j, .str y]) = _
  rw [dataLt_pair (by simp [alike]) (by simp [alike]), dataLt_int, dataLt_str]
  simp only [PyData.eqv, beq_iff_eq]
  by_cases h1 : i = j
  · by_cases h2 : x = y
    · have : ¬ y.cps.toList < y.cps.toList := List.lt_irrefl _
      simp [h1, h2, this]
    · simp [h1, h2]
  · simp [h1]
theorem seenLe_eq (a b : Int × Str) : seenLe a b = decide (a.1 < b.1 ∨ (a.1 = b.1 ∧ a.2.cps.toList ≤ b.2.cps.toList)) := by
  show (!dataLt (seenD1 b) (seenD1 a)) = _
  rw [seenLt_eq, ← decide_not, decide_eq_decide]
  constructor
  · intro h
    by_cases h1 : a.1 < b.1
    · exact .inl h1
    · refine .inr ⟨?_, List.not_lt.mp fun z => h (.inr ⟨?_, z⟩)⟩
      · have : ¬ b.1 < a.1 := fun z => h (.inl z)
        omega
      · have : ¬ b.1 < a.1 := fun z => h (.inl z)
        omega
  · rintro (h | ⟨h, h'⟩) (z | ⟨z, z'⟩)
    · omega
    · omega
    · omega
    · exact absurd z' (List.not_lt.mpr h')
theorem seen_total : TotalLe seenLe := by
  refine ⟨fun a b c h1 h2 => ?_, fun a b => ?_⟩
  · rw [seenLe_eq, decide_eq_true_iff] at *
    rcases h1 with h1 | ⟨h1, h1'⟩ <;> rcases h2 with h2 | ⟨h2, h2'⟩
    · exact .inl (by omega)
    · exact .inl (by omega)
    · exact .inl (by omega)
    · exact .inr ⟨by omega, List.le_trans h1' h2'⟩
  · rw [seenLe_eq, seenLe_eq, decide_eq_true_iff, decide_eq_true_iff]
    by_cases h1 : a.1 < b.1
    · exact .inl (.inl h1)
    · by_cases h2 : b.1 < a.1
      · exact .inr (.inl h2)
      · rcases List.le_total a.2.cps.toList b.2.cps.toList with h | h
        · exact .inl (.inr ⟨by omega, h⟩)
        · exact .inr (.inr ⟨by omega, h⟩)
/-- what is kept of the sightings of a car -/
structure Sig (nms : List Str) (ss : List (Int × Str)) : Prop where
  nm : ∀ q ∈ ss, q.2 ∈ nms
  t0 : ∀ q ∈ ss, 0 ≤ q.1
  gap : ∀ b ∈ ss, (∀ a ∈ ss, b.1 ≤ a.1) ∨ ∃ a ∈ ss, a.1 < b.1 ∧ b.1 ≤ a.1 + 8
  len : ss.length ≤ 4
  ne : ss ≠ []
  t1 : ∀ q ∈ ss, q.1 ≤ 8 * (ss.length : Int)
theorem Sig.one {nms : List Str} {q : Int × Str} (h : q.2 ∈ nms) (t : 0 ≤ q.1) (t8 : q.1 ≤ 8) : Sig nms [q] := by
  refine ⟨fun x hx => ?_, fun x hx => ?_, fun b hb => .inl fun a ha => ?_, (by show 1 ≤ 4; decide), by simp, fun x hx => ?_⟩
  · rw [List.mem_singleton] at hx; rw [hx]; exact h
  · rw [List.mem_singleton] at hx; rw [hx]; exact t
  · rw [List.mem_singleton] at ha hb
    rw [ha, hb]
    exact Int.le_refl _
  · rw [List.mem_singleton] at hx
    rw [hx]
    show q.1 ≤ 8 * ((1 : Nat) : Int)
    omega
/-- one more, not more than 8 minutes behind the last -/
theorem Sig.more {nms : List Str} {ss : List (Int × Str)} (s : Sig nms ss) {q : Int × Str} {m : Int} (h : q.2 ∈ nms) (hm : ∃ a ∈ ss, a.1 = m) (hle : ∀ a ∈ ss, a.1 ≤ m) (h1 : m ≤ q.1) (h2 : q.1 ≤ m + 8) (hl : ss.length < 4) : Sig nms (ss ++ [q]) := by
  obtain ⟨am, ham, eam⟩ := hm
  refine ⟨fun x hx => ?_, fun x hx => ?_, fun b hb => ?_, by rw [List.length_append]; show ss.length + 1 ≤ 4; omega, by simp, fun x hx => ?_⟩
  · rcases List.mem_append.mp hx with z | z
    · exact s.nm x z
    · rw [List.mem_singleton] at z; rw [z]; exact h
  · rcases List.mem_append.mp hx with z | z
    · exact s.t0 x z
    · rw [List.mem_singleton] at z
      rw [z]
      have := s.t0 am ham
      omega
  · have old : ∀ b ∈ ss, b.1 ≤ m → (∀ a ∈ ss ++ [q], b.1 ≤ a.1) ∨ ∃ a ∈ ss ++ [q], a.1 < b.1 ∧ b.1 ≤ a.1 + 8 := fun b hb hbm => by
      rcases s.gap b hb with z | ⟨a, ha, z⟩
      · refine .inl fun a ha => ?_
        rcases List.mem_append.mp ha with y | y
        · exact z a y
        · rw [List.mem_singleton] at y
          rw [y]
          omega
      · exact .inr ⟨a, List.mem_append_left _ ha, z⟩
    rcases List.mem_append.mp hb with z | z
    · exact old b z (hle b z)
    · rw [List.mem_singleton] at z
      subst z
      by_cases e : b.1 = m
      · have := old am ham (by omega)
        rw [eam] at this
        rw [e]
        exact this
      · exact .inr ⟨am, List.mem_append_left _ ham, by omega, by omega⟩
  · have hl2 : (ss ++ [q]).length = ss.length + 1 := by rw [List.length_append]; rfl
    rw [hl2]
    have b0 := s.t1 am ham
    rcases List.mem_append.mp hx with z | z
    · have := s.t1 x z
      omega
    · rw [List.mem_singleton] at z
      rw [z]
      omega
theorem Sig.sorted {nms : List Str} {gs : List (Str × Bool)} {ss : List (Int × Str)} (s : Sig nms ss) (e : gs.map (·.1) = nms) : SeenOk gs 1 (ss.mergeSort seenLe) := by
  have pm : ∀ q, q ∈ ss.mergeSort seenLe ↔ q ∈ ss := fun q => (List.mergeSort_perm ss seenLe).mem_iff
  refine ⟨fun q hq => ?_, fun q hq => s.t0 q ((pm q).mp hq), fun i a b ha hb => ?_⟩
  · have := s.nm q ((pm q).mp hq)
    rw [← e] at this
    obtain ⟨x, hx, ex⟩ := List.mem_map.mp this
    exact ⟨x.2, by rw [← ex]; exact hx⟩
  · have srt := List.pairwise_iff_getElem.mp (sort_pairwise seen_total ss)
    obtain ⟨ia, ea⟩ := List.getElem?_eq_some_iff.mp ha
    obtain ⟨ib, eb⟩ := List.getElem?_eq_some_iff.mp hb
    have le1 : ∀ (j k : Nat) (hj : j < (ss.mergeSort seenLe).length) (hk : k < (ss.mergeSort seenLe).length), j < k → (ss.mergeSort seenLe)[j].1 ≤ (ss.mergeSort seenLe)[k].1 := fun j k hj hk h => by
      have := srt j k hj hk h
      rw [seenLe_eq, decide_eq_true_iff] at this
      omega
    have hab : a.1 ≤ b.1 := by
      have := le1 i (i + 1) ia ib (by omega)
      rw [ea, eb] at this
      exact this
    have h8 : b.1 ≤ a.1 + 8 := by
      by_cases z : b.1 = a.1
      · omega
      · rcases s.gap b ((pm b).mp (List.mem_of_getElem? hb)) with y | ⟨x, hx, y1, y2⟩
        · have := y a ((pm a).mp (List.mem_of_getElem? ha))
          omega
        · obtain ⟨j, hj⟩ := List.getElem?_of_mem ((pm x).mpr hx)
          obtain ⟨jl, ej⟩ := List.getElem?_eq_some_iff.mp hj
          by_cases ji : j ≤ i
          · have : x.1 ≤ a.1 := by
              by_cases e2 : j = i
              · subst e2
                rw [ej] at ea
                rw [ea]
                exact Int.le_refl _
              · have := le1 j i jl ia (by omega)
                rw [ej, ea] at this
                exact this
            omega
          · have : b.1 ≤ x.1 := by
              by_cases e2 : j = i + 1
              · subst e2
                rw [ej] at eb
                rw [eb]
                exact Int.le_refl _
              · have := le1 (i + 1) j ib jl (by omega)
                rw [ej, eb] at this
                exact this
            omega
    exact ⟨b.1 - a.1, 0, by omega, by omega, by omega, by omega, by omega⟩
theorem Sig.sortedLen {nms : List Str} {ss : List (Int × Str)} (s : Sig nms ss) : 1 ≤ (ss.mergeSort seenLe).length ∧ (ss.mergeSort seenLe).length ≤ 4 := by
  rw [List.length_mergeSort]
  exact ⟨List.length_pos_iff.mpr s.ne, s.len⟩
end Toll

set_option Elab.async false
set_option maxRecDepth 100000
set_option maxHeartbeats 4000000
namespace Toll
open PySem L2 PyProof.Rows PySem.Spec
theorem hu65_of {k : Nat} {A : Around} (r : Room k A) : A.units + 65 < cLine := by
  have := r.un
  omega
/-! ### sorted texts -/
theorem rising_pw : ∀ (l : List Str) (p : Str), risingS p l = true → (p :: l).Pairwise (fun a b => a.cps.toList ≤ b.cps.toList)
  | [], p, _ => by simp
  | x :: r, p, h => by
    have h : (!ltCps x.cps.toList p.cps.toList && risingS x r) = true := h
    rw [Bool.and_eq_true] at h
    have ih := rising_pw r x h.2
    have e : p.cps.toList ≤ x.cps.toList := by
      have h1 := h.1
      rw [ltCps_eq] at h1
      have h2 : ¬ x.cps.toList < p.cps.toList := by simpa using h1
      exact List.not_lt.mp h2
    refine List.pairwise_cons.mpr ⟨fun y hy => ?_, ih⟩
    rcases List.mem_cons.mp hy with rfl | hy
    · exact e
    · exact List.le_trans e ((List.pairwise_cons.mp ih).1 y hy)
theorem sorted_pw : ∀ (l : List Str), sortedS l = true → l.Pairwise (fun a b => a.cps.toList ≤ b.cps.toList)
  | [], _ => List.Pairwise.nil
  | x :: r, h => rising_pw r x h
theorem str_cps {a b : Str} (h : a.cps.toList = b.cps.toList) : a = b := by
  cases a
  cases b
  congr 1
  exact Array.toList_inj.mp h
theorem sorted_one {ys zs : List Str} (a : sortedS ys = true) (b : sortedS zs = true) (p : ys.Perm zs) : ys = zs :=
  List.Perm.eq_of_pairwise (fun _ _ _ _ h h' => str_cps (List.le_antisymm h h')) (sorted_pw ys a) (sorted_pw zs b) p
/-! ### the law's own account of a watch -/
def OwnE (H : Hp) (kv : Key × V) (e : CarE) : Prop := kv.1 = Sum.inr e.car ∧ ∃ a us, kv.2 = .ref a ∧ H a = some (.lst us) ∧ Paired (SeenV H) us e.ss
theorem OwnE.same {H H' : Hp} {kv : Key × V} {e : CarE} (s : Same H H') (h : OwnE H kv e) : OwnE H' kv e := by
  obtain ⟨h1, a, us, h2, h3, h4⟩ := h
  exact ⟨h1, a, us, h2, s _ _ h3, seen_same s h4⟩
theorem OwnE.keep {S : List Addr} {H H' : Hp} {kv : Key × V} {e : CarE} (k : Keep S H H') (hS : ∀ x ∈ S, ∀ xs, H x ≠ some (.lst xs) ∧ H x ≠ some (.tup xs)) (h : OwnE H kv e) : OwnE H' kv e := by
  obtain ⟨h1, a, us, h2, h3, h4⟩ := h
  exact ⟨h1, a, us, h2, k _ _ h3 (fun m => (hS _ m _).1 h3), L2.Paired.mapP h4 fun _ _ ⟨t, e, ht⟩ => ⟨t, e, k _ _ ht fun m => (hS _ m _).2 ht⟩⟩
theorem own_keys {H : Hp} {kvs : List (Key × V)} {W : List CarE} (h : Paired (OwnE H) kvs W) : kvs.map (·.1) = (W.map (·.car)).map Sum.inr := by
  induction h with
  | nil => rfl
  | cons a _ ih => rw [List.map_cons, List.map_cons, List.map_cons, ih, a.1]
theorem own_none {H : Hp} {kvs : List (Key × V)} {W : List CarE} (h : Paired (OwnE H) kvs W) {c : Str} (hc : carOf W c = none) : valV kvs (Sum.inr c : Key) = none := by
  induction h with
  | nil => rfl
  | @cons kv e kvs W a _ ih =>
    have n := carOf_none hc
    rw [valV_neg (fun z => n e (by simp) (key_inr.mp (a.1.symm.trans z)))]
    refine ih ?_
    unfold carOf at hc ⊢
    rw [List.find?_cons_of_neg (by simpa using n e (by simp))] at hc
    exact hc
theorem own_some {H : Hp} {kvs : List (Key × V)} {W : List CarE} (h : Paired (OwnE H) kvs W) {c : Str} {e : CarE} (hc : carOf W c = some e) : ∃ a us, valV kvs (Sum.inr c : Key) = some (.ref a) ∧ H a = some (.lst us) ∧ Paired (SeenV H) us e.ss := by
  induction h with
  | nil => cases hc
  | @cons kv e0 kvs W a _ ih =>
    by_cases z : e0.car = c
    · unfold carOf at hc
      rw [List.find?_cons_of_pos (by simpa using z)] at hc
      obtain rfl := Option.some.inj hc
      obtain ⟨h1, b, us, h2, h3, h4⟩ := a
      refine ⟨b, us, ?_, h3, h4⟩
      rw [valV_pos (h1.trans (key_inr.mpr z)), h2]
    · rw [valV_neg (fun y => z (key_inr.mp (a.1.symm.trans y)))]
      refine ih ?_
      unfold carOf at hc ⊢
      rw [List.find?_cons_of_neg (by simpa using z)] at hc
      exact hc
theorem own_drop {H : Hp} {kvs : List (Key × V)} {W : List CarE} (h : Paired (OwnE H) kvs W) (c : Str) : Paired (OwnE H) (dropK kvs (Sum.inr c : Key)) (W.filter fun e => decide (e.car ≠ c)) := by
  induction h with
  | nil => exact .nil
  | @cons kv e kvs W a _ ih =>
    unfold dropK at ih ⊢
    by_cases z : e.car = c
    · rw [List.filter_cons_of_neg (by rw [a.1]; simpa [key_inr] using z), List.filter_cons_of_neg (by simpa using z)]
      exact ih
    · rw [List.filter_cons_of_pos (by rw [a.1]; simpa [key_inr] using z), List.filter_cons_of_pos (by simpa using z)]
      exact .cons a ih
theorem paired_snoc {α β : Type} {F : α → β → Prop} {x : α} {y : β} (r : F x y) : ∀ {l : List α} {m : List β}, Paired F l m → Paired F (l ++ [x]) (m ++ [y])
  | _, _, .nil => .cons r .nil
  | _, _, .cons a b => .cons a (paired_snoc r b)
theorem own_add {H : Hp} {kvs : List (Key × V)} {W : List CarE} (h : Paired (OwnE H) kvs W) {c : Str} (hc : carOf W c = none) {a d : Addr} {us : List V} {ss : List (Int × Str)} (ha : H a = some (.lst us)) (hp : Paired (SeenV H) us ss) :
    Paired (OwnE H) (putK kvs (Sum.inr c : Key) (.ref a)) (W ++ [⟨c, d, ss⟩]) := by
  rw [putK_new _ (own_none h hc)]
  exact paired_snoc ⟨rfl, a, us, rfl, ha, hp⟩ h
theorem own_set {H : Hp} {kvs : List (Key × V)} {W : List CarE} (h : Paired (OwnE H) kvs W) {c : Str} {e0 : CarE} (hc : carOf W c = some e0) {a : Addr} {us : List V} {ss : List (Int × Str)} (ha : H a = some (.lst us)) (hp : Paired (SeenV H) us ss) :
    Paired (OwnE H) (putK kvs (Sum.inr c : Key) (.ref a)) (setSs W c ss) := by
  obtain ⟨b, vs, hb, _⟩ := own_some h hc
  unfold putK
  rw [if_pos (by rw [valV_any, hb]; rfl)]
  unfold setSs
  clear hb hc
  induction h with
  | nil => exact .nil
  | @cons kv e kvs W r _ ih =>
    rw [List.map_cons, List.map_cons]
    refine .cons ?_ ih
    by_cases z : e.car = c
    · rw [if_pos z, if_pos (r.1.trans (key_inr.mpr z))]
      exact ⟨r.1, a, us, rfl, ha, hp⟩
    · rw [if_neg z, if_neg (fun y => z (key_inr.mp (r.1.symm.trans y)))]
      exact r

def OwnW (H : Hp) (o K : Addr) (W : List CarE) : Prop := ∃ kvs, H o = some (.dK kvs) ∧ Paired (OwnE H) kvs W ∧ ∀ kv ∈ kvs, kv.2 ≠ .ref K
structure Acc (C : Addr) (H : Hp) (p n sd o K : Addr) (W : List CarE) : Prop where
  wt : WatchAt C H p n sd W
  ow : OwnW H o K W
  ss : ∀ e ∈ W, ∀ q ∈ e.ss, NameOk q.2
  ap : sd ≠ o
def afoot (sd o : Addr) (W : List CarE) : List Addr := sd :: o :: W.map (·.d)
def Bnd (W : List CarE) (m : Nat) : Prop := W.length ≤ m ∧ ∀ e ∈ W, e.ss.length ≤ m
/-- a dict stands there -/
def IsDic (H : Hp) (x : Addr) : Prop := (∃ kvs, H x = some (.dK kvs)) ∨ ∃ kvs, H x = some (.dT kvs)
theorem Acc.dics {C : Addr} {H : Hp} {p n sd o K : Addr} {W : List CarE} (a : Acc C H p n sd o K W) : ∀ x ∈ afoot sd o W, IsDic H x := fun x hx => by
  unfold afoot at hx
  rcases List.mem_cons.mp hx with rfl | hx
  · exact .inl ⟨_, a.wt.sd⟩
  rcases List.mem_cons.mp hx with rfl | hx
  · obtain ⟨kvs, h, _⟩ := a.ow
    exact .inl ⟨_, h⟩
  · obtain ⟨e, he, rfl⟩ := List.mem_map.mp hx
    obtain ⟨kvs, h, _⟩ := a.wt.ds e he
    exact .inr ⟨_, h⟩
theorem IsDic.noL {H : Hp} {x : Addr} (h : IsDic H x) (xs : List V) : H x ≠ some (.lst xs) := fun z => by
  rcases h with ⟨_, h⟩ | ⟨_, h⟩ <;> rw [h] at z <;> cases z
theorem IsDic.noT {H : Hp} {x : Addr} (h : IsDic H x) (xs : List V) : H x ≠ some (.tup xs) := fun z => by
  rcases h with ⟨_, h⟩ | ⟨_, h⟩ <;> rw [h] at z <;> cases z
theorem IsDic.noI {H : Hp} {x : Addr} (h : IsDic H x) {c d : Addr} {f : List (Str × V)} : H x ≠ some (.ins c d f) := fun z => by
  rcases h with ⟨_, h⟩ | ⟨_, h⟩ <;> rw [h] at z <;> cases z
theorem IsDic.there {H : Hp} {x : Addr} (h : IsDic H x) : H x ≠ none := fun z => by
  rcases h with ⟨_, h⟩ | ⟨_, h⟩ <;> rw [h] at z <;> cases z
theorem ownE_keep {S : List Addr} {H H' : Hp} {K : Addr} {kvs : List (Key × V)} {W : List CarE} (k : Keep S H H') (hS : ∀ x ∈ S, x = K ∧ (∃ xs, H K = some (.lst xs)) ∨ IsDic H x) (h : Paired (OwnE H) kvs W) (hK : ∀ kv ∈ kvs, kv.2 ≠ .ref K) : Paired (OwnE H') kvs W := by
  induction h with
  | nil => exact .nil
  | cons r _ ih =>
    refine .cons ?_ (ih fun kv hkv => hK kv (List.mem_cons_of_mem _ hkv))
    obtain ⟨h1, a, us, h2, h3, h4⟩ := r
    refine ⟨h1, a, us, h2, k _ _ h3 fun m => ?_, L2.Paired.mapP h4 fun _ _ ⟨t, e, ht⟩ => ⟨t, e, k _ _ ht fun m => ?_⟩⟩
    · rcases hS _ m with ⟨rfl, _⟩ | z
      · exact hK _ (List.mem_cons_self ..) h2
      · exact z.noL _ h3
    · rcases hS _ m with ⟨rfl, _, z⟩ | z
      · rw [ht] at z
        cases z
      · exact z.noT _ ht
/-- what others do leaves an account as it is -/
theorem Acc.keep {C : Addr} {H H' : Hp} {p n sd o K : Addr} {W : List CarE} (a : Acc C H p n sd o K W) {S : List Addr} (k : Keep S H H') (hd : ∀ x ∈ S, x ∉ afoot sd o W) (hS : ∀ x ∈ S, x = K ∧ (∃ xs, H K = some (.lst xs)) ∨ IsDic H x) : Acc C H' p n sd o K W := by
  obtain ⟨kvs, ho, hp, hk⟩ := a.ow
  obtain ⟨dx, hob⟩ := a.wt.ob
  refine ⟨a.wt.keep k (fun m => ?_) (fun x hx m => hd x m ?_), ⟨kvs, k _ _ ho (fun m => hd _ m (by simp [afoot])), ownE_keep k hS hp hk, hk⟩, a.ss, a.ap⟩
  · rcases hS _ m with ⟨rfl, _, z⟩ | z
    · rw [hob] at z
      cases z
    · exact z.noI hob
  · unfold wfoot at hx
    unfold afoot
    rcases List.mem_cons.mp hx with z | z
    · simp [z]
    · exact List.mem_cons_of_mem _ (List.mem_cons_of_mem _ z)
theorem Acc.same {C : Addr} {H H' : Hp} {p n sd o K : Addr} {W : List CarE} (a : Acc C H p n sd o K W) (s : Same H H') : Acc C H' p n sd o K W := a.keep (S := []) (Keep.of_same s) (by simp) (by simp)
/-! ### lists told, and their copies -/
def Told (H : Hp) (vs : List V) : Prop := (∃ ss : List (Int × Str), Paired (SeenV H) vs ss ∧ ∀ q ∈ ss, NameOk q.2) ∨ ∃ ys : List Str, vs = ys.map V.str ∧ ∀ y ∈ ys, PyData.strOk y = true
def KeptP (H : Hp) (K : Addr) (v : V) : Prop := ∃ (q a b : Addr) (vs : List V), v = .ref q ∧ H q = some (.lst [.ref a, .ref b]) ∧ H a = some (.lst vs) ∧ H b = some (.lst vs) ∧ Told H vs ∧ q ≠ K ∧ a ≠ K ∧ b ≠ K
theorem KeptP.keep {S : List Addr} {H H' : Hp} {K : Addr} {v : V} (h : KeptP H K v) (k : Keep S H H') (hS : ∀ x ∈ S, x = K ∧ (∃ xs, H K = some (.lst xs)) ∨ IsDic H x) : KeptP H' K v := by
  obtain ⟨q, a, b, vs, e, h1, h2, h3, t, n1, n2, n3⟩ := h
  have nl : ∀ x xs, H x = some (.lst xs) → x ≠ K → x ∉ S := fun x xs hx n m => by
    rcases hS _ m with ⟨z, _⟩ | z
    · exact n z
    · exact z.noL _ hx
  refine ⟨q, a, b, vs, e, k _ _ h1 (nl _ _ h1 n1), k _ _ h2 (nl _ _ h2 n2), k _ _ h3 (nl _ _ h3 n3), ?_, n1, n2, n3⟩
  rcases t with ⟨ss, p, ok⟩ | z
  · refine .inl ⟨ss, L2.Paired.mapP p fun _ _ ⟨t, e, ht⟩ => ⟨t, e, k _ _ ht fun m => ?_⟩, ok⟩
    rcases hS _ m with ⟨rfl, _, z⟩ | z
    · rw [ht] at z
      cases z
    · exact z.noT _ ht
  · exact .inr z
theorem seenD_eqv (a b : Int × Str) : PyData.eqv (seenD1 a) (seenD1 b) = decide (a = b) := by
  obtain ⟨i, x⟩ := a
  obtain ⟨j, y⟩ := b
  rw [Bool.eq_iff_iff, decide_eq_true_iff]
  simp [seenD1, PyData.eqv, PyData.eqvAll]
theorem seen_any (ss : List (Int × Str)) (q : Int × Str) : ((ss.map seenD1).any fun z => PyData.eqv z (seenD1 q)) = decide (q ∈ ss) := by
  rw [Bool.eq_iff_iff, decide_eq_true_iff, List.any_eq_true]
  constructor
  · rintro ⟨z, hz, h⟩
    obtain ⟨a, ha, rfl⟩ := List.mem_map.mp hz
    rw [seenD_eqv, decide_eq_true_iff] at h
    exact h ▸ ha
  · intro h
    exact ⟨_, List.mem_map.mpr ⟨q, h, rfl⟩, by rw [seenD_eqv]; exact decide_eq_true rfl⟩
theorem Acc.wt_o {C : Addr} {H : Hp} {p n sd o K : Addr} {W : List CarE} (a : Acc C H p n sd o K W) {X : HO} : WatchAt C (upd H o X) p n sd W := by
  obtain ⟨kvs, ho, _⟩ := a.ow
  obtain ⟨dx, hob⟩ := a.wt.ob
  refine a.wt.keep keep1 (fun m => ?_) (fun x hx m => ?_)
  · rw [List.mem_singleton] at m
    subst m
    rw [hob] at ho
    cases ho
  · rw [List.mem_singleton] at m
    subst m
    unfold wfoot at hx
    rcases List.mem_cons.mp hx with z | z
    · exact a.ap z.symm
    · obtain ⟨e, he, rfl⟩ := List.mem_map.mp z
      obtain ⟨kvs2, h2, _⟩ := a.wt.ds e he
      rw [ho] at h2
      cases h2
theorem Acc.made {C : Addr} {H H2 : Hp} {p n sd o K : Addr} {W W' : List CarE} (a : Acc C H p n sd o K W) {S : List Addr} (wt : WatchAt C H2 p n sd W') (k : Keep S H H2) (hS : ∀ x ∈ S, IsDic H x) {kvs : List (Key × V)} (ho : H2 o = some (.dK kvs)) (hp : Paired (OwnE H) kvs W') (hk : ∀ kv ∈ kvs, kv.2 ≠ .ref K)
    (hs : ∀ e ∈ W', ∀ q ∈ e.ss, NameOk q.2) : Acc C H2 p n sd o K W' :=
  ⟨wt, ⟨kvs, ho, ownE_keep k (fun x hx => .inr (hS x hx)) hp hk, hk⟩, hs, a.ap⟩
theorem putK_vals {kvs : List (Key × V)} {k : Key} {v : V} {K : Addr} (h : ∀ kv ∈ kvs, kv.2 ≠ .ref K) (hv : v ≠ .ref K) : ∀ kv ∈ putK kvs k v, kv.2 ≠ .ref K := by
  unfold putK
  split
  · intro kv hkv
    obtain ⟨x, hx, rfl⟩ := List.mem_map.mp hkv
    split
    · exact hv
    · exact h x hx
  · intro kv hkv
    rcases List.mem_append.mp hkv with z | z
    · exact h _ z
    · rw [List.mem_singleton] at z
      subst z
      exact hv
theorem seenOk {q : Int × Str} (h : NameOk q.2) : okD 1 (seenD1 q) := by
  refine okD_tup fun e he => ?_
  simp only [List.mem_cons, List.not_mem_nil, or_false] at he
  rcases he with rfl | rfl
  · exact okD_int _
  · exact okD_str h.2.1
theorem WatchAt.other {C : Addr} {H : Hp} {p n sd o : Addr} {W : List CarE} (w : WatchAt C H p n sd W) {kvs : List (Key × V)} (ho : H o = some (.dK kvs)) (ap : sd ≠ o) {X : HO} : WatchAt C (upd H o X) p n sd W := by
  obtain ⟨dx, hob⟩ := w.ob
  refine w.keep keep1 (fun m => ?_) (fun x hx m => ?_)
  · rw [List.mem_singleton] at m
    subst m
    rw [hob] at ho
    cases ho
  · rw [List.mem_singleton] at m
    subst m
    unfold wfoot at hx
    rcases List.mem_cons.mp hx with z | z
    · exact ap z.symm
    · obtain ⟨e, he, rfl⟩ := List.mem_map.mp z
      obtain ⟨kvs2, h2, _⟩ := w.ds e he
      rw [ho] at h2
      cases h2
theorem map_str_at {xs : List Str} {i : Nat} {v : V} (h : (xs.map V.str)[i]? = some v) : ∃ z, xs[i]? = some z ∧ v = .str z := by
  rw [List.getElem?_map] at h
  cases e : xs[i]? with
  | none => rw [e] at h; cases h
  | some z =>
    rw [e] at h
    exact ⟨z, rfl, (Option.some.inj h).symm⟩
theorem dpAll_strs {K : PySem.W.Frag} {H : Hp} : ∀ (ys : List Str), DpAll K H (ys.map V.str) (ys.map PyData.str)
  | [] => .nil
  | y :: ys => .cons (.str y) (dpAll_strs ys)
theorem strs_ok {ys : List Str} (h : ∀ y ∈ ys, PyData.strOk y = true) : okD 1 (.list (ys.map PyData.str)) := okD_list fun d hd => by
  obtain ⟨y, hy, rfl⟩ := List.mem_map.mp hd
  exact okD_str (h y hy)
theorem upd_old {H : Hp} {x y : Addr} {o u : HO} (h : x ≠ y) (e : H x = some u) : (upd H y o) x = some u := by
  rw [upd_ne h]
  exact e
theorem small1000' {n : Nat} (h : n < 1000) : n < sizeLine := Nat.lt_of_lt_of_le h (by decide)
theorem NetAt.dict {C : Addr} {H : Hp} {p g r Se : Addr} {N : NetD} (hN : NetAt C H p g r N) {kvs : List (Key × V)} (h : H Se = some (.dK kvs)) (gSe : g ≠ Se) {X : HO} : NetAt C (upd H Se X) p g r N := by
  obtain ⟨dq, hob⟩ := hN.ob
  obtain ⟨us, hr, _⟩ := hN.rt
  have a1 := ne_of hob h (by intro z; cases z)
  have a2 := ne_of hr h (by intro z; cases z)
  refine hN.keep keep1 (by simpa using a1) (by simpa using gSe) (by simpa using a2) fun a ha xs z => ?_
  rw [List.mem_singleton] at ha
  rw [ha, h] at z
  cases z
end Toll

set_option Elab.async false
set_option linter.all false
set_option maxRecDepth 100000
set_option maxHeartbeats 4000000
namespace Toll
open PySem L2
/-! ### refusals and refused deeds of a net -/
inductive Rf where
  | NoName
  | SameGate
  | FullNet
  | NoGate
  | NoNumber
  | NoRoad
  | Already
  | NoTime
  | Blind
  | NoCar
  | NoSight
  deriving DecidableEq
def Rf.word : Rf → Str
  | .NoName => "NoName"
  | .SameGate => "SameGate"
  | .FullNet => "FullNet"
  | .NoGate => "NoGate"
  | .NoNumber => "NoNumber"
  | .NoRoad => "NoRoad"
  | .Already => "Already"
  | .NoTime => "NoTime"
  | .Blind => "Blind"
  | .NoCar => "NoCar"
  | .NoSight => "NoSight"
def Rf.all : List Rf := [.NoName, .SameGate, .FullNet, .NoGate, .NoNumber, .NoRoad, .Already, .NoTime, .Blind, .NoCar, .NoSight]
theorem one_of (c : Rf) : (Rf.all.map fun d => decide (c = d)).count true = 1 := by cases c <;> decide
inductive D3 where
  | gate (nm : Str)
  | road (one other : Str) (mi tl : Int)
  | turn (b : Bool) (nm : Str)
  | lane (b : Bool) (n : Int)
  | leave (nm : Str)
def D3.vs : D3 → List V
  | .gate nm => [.str "gate", .str nm]
  | .road one other mi tl => [.str "road", .str one, .str other, .int mi, .int tl]
  | .turn false nm => [.str "blind", .str nm]
  | .turn true nm => [.str "mend", .str nm]
  | .lane false n => [.str "close", .int n]
  | .lane true n => [.str "reopen", .int n]
  | .leave nm => [.str "leaving", .str nm]
def Fine (nm : Str) : Prop := nm.length ≤ 1000 ∧ PyData.strOk nm = true
def D3.fine : D3 → Prop
  | .gate nm => Fine nm
  | .road one other _ _ => Fine one ∧ Fine other
  | .turn _ nm => Fine nm
  | .lane _ _ => True
  | .leave nm => Fine nm
def refusal3 (N : NetD) : D3 → Option Rf
  | .gate nm => if isName nm.cps.toList = false then some .NoName else if seesOf N.gates nm ≠ none then some .SameGate else if 60 ≤ N.gates.length then some .FullNet else none
  | .road one other mi tl => if seesOf N.gates one = none ∨ seesOf N.gates other = none then some .NoGate else if one = other then some .SameGate
    else if ¬ ((1 ≤ mi ∧ mi ≤ 1000000) ∧ (0 ≤ tl ∧ tl ≤ 1000000)) then some .NoNumber else if 200 ≤ N.roads.length then some .FullNet else none
  | .turn b nm => match seesOf N.gates nm with
    | none => some .NoGate
    | some c => if c = b then some .Already else none
  | .lane b n => if ¬ (0 ≤ n ∧ n < (N.roads.length : Int)) then some .NoRoad else match N.roads[n.toNat]? with
    | none => some .NoRoad
    | some r => if r.op = b then some .Already else none
  | .leave nm => if seesOf N.gates nm = none then some .NoGate else none
def done3 (N : NetD) : D3 → NetD
  | .gate nm => { N with gates := N.gates ++ [(nm, true)] }
  | .road one other mi tl => { N with roads := N.roads ++ [⟨one, other, mi, tl, true⟩] }
  | .turn b nm => { N with gates := setSees N.gates nm b }
  | .lane b n => match N.roads[n.toNat]? with
    | none => N
    | some r => { N with roads := N.roads.set n.toNat { r with op := b } }
  | .leave _ => N
section
variable {N : NetD} {b : Bool} {nm : Str} {n : Int} {r : RoadD}
theorem r3_turn0 (h : seesOf N.gates nm = none) : refusal3 N (.turn b nm) = some .NoGate := by
  show (match seesOf N.gates nm with | none => some Rf.NoGate | some c => if c = b then some Rf.Already else none) = _
  rw [h]
theorem r3_turn1 (h : seesOf N.gates nm = some b) : refusal3 N (.turn b nm) = some .Already := by
  show (match seesOf N.gates nm with | none => some Rf.NoGate | some c => if c = b then some Rf.Already else none) = _
  rw [h]
  exact if_pos rfl
theorem r3_turn2 (h : seesOf N.gates nm = some (!b)) : refusal3 N (.turn b nm) = none := by
  show (match seesOf N.gates nm with | none => some Rf.NoGate | some c => if c = b then some Rf.Already else none) = _
  rw [h]
  exact if_neg (by cases b <;> simp)
theorem r3_lane (N : NetD) (b : Bool) (n : Int) : refusal3 N (.lane b n) = (if ¬ (0 ≤ n ∧ n < (N.roads.length : Int)) then some .NoRoad else match N.roads[n.toNat]? with
    | none => some .NoRoad
    | some r => if r.op = b then some .Already else none) := rfl
theorem r3_lane0 (h : ¬ (0 ≤ n ∧ n < (N.roads.length : Int))) : refusal3 N (.lane b n) = some .NoRoad := by
  rw [r3_lane, if_pos h]
theorem r3_lane1 (h0 : 0 ≤ n) (h : N.roads[n.toNat]? = some r) (e : r.op = b) : refusal3 N (.lane b n) = some .Already := by
  rw [r3_lane, if_neg (fun z => z (lane_in h0 h)), h]
  exact if_pos e
theorem r3_lane2 (h0 : 0 ≤ n) (h : N.roads[n.toNat]? = some r) (e : r.op = !b) : refusal3 N (.lane b n) = none := by
  rw [r3_lane, if_neg (fun z => z (lane_in h0 h)), h]
  exact if_neg (by rw [e]; cases b <;> simp)
theorem d3_lane (h : N.roads[n.toNat]? = some r) : done3 N (.lane b n) = { N with roads := N.roads.set n.toNat { r with op := b } } := by
  show (match N.roads[n.toNat]? with | none => N | some r => { N with roads := N.roads.set n.toNat { r with op := b } }) = _
  rw [h]
end
end Toll

set_option Elab.async false
set_option linter.all false
set_option maxRecDepth 100000
set_option maxHeartbeats 4000000
namespace Toll
open PySem L2
/-! ### the state of a law that keeps a net and a watch, and its own account of both -/
def LM (r Kp Ll : Addr) (gts rts : List Addr) : List Addr := r :: Kp :: Ll :: (gts ++ rts)
/-- flat things that a tuple told may hold -/
def FlatV (y : V) : Prop := y = .non ∨ (∃ i : Int, y = .int i) ∨ ∃ z : Str, y = .str z ∧ PyData.strOk z = true
/-- items of a list told: numbers, or tuples of flat things -/
def Items (H : Hp) (us : List V) : Prop := ∀ v ∈ us, (∃ i : Int, v = .int i) ∨ ∃ (x : Addr) (ts : List V), v = .ref x ∧ H x = some (.tup ts) ∧ ∀ y ∈ ts, FlatV y
theorem flat_dp {K : PySem.W.Frag} {H : Hp} : ∀ {ts : List V}, (∀ y ∈ ts, FlatV y) → ∃ ds, DpAll K H ts ds ∧ ∀ d ∈ ds, okD 0 d
  | [], _ => ⟨[], .nil, fun d h => (by cases h)⟩
  | y :: ts, h => by
    obtain ⟨ds, h1, h2⟩ := flat_dp (K := K) (H := H) (ts := ts) fun z hz => h z (List.mem_cons_of_mem _ hz)
    have : ∃ d, Dp K H y d ∧ okD 0 d := by
      rcases h y (List.mem_cons_self ..) with rfl | ⟨i, rfl⟩ | ⟨z, rfl, hz⟩
      · exact ⟨.none, .non, by simp [PyData.canLay0], by simp [PyData.depth]⟩
      · exact ⟨_, .int _, okD_int _⟩
      · exact ⟨_, .str _, okD_str hz⟩
    obtain ⟨d, hd, od⟩ := this
    refine ⟨d :: ds, .cons hd h1, fun x hx => ?_⟩
    rcases List.mem_cons.mp hx with rfl | hx
    · exact od
    · exact h2 x hx
theorem Items.dp {K : PySem.W.Frag} {H : Hp} : ∀ {us : List V}, Items H us → ∃ ds, DpAll K H us ds ∧ ∀ d ∈ ds, okD 1 d
  | [], _ => ⟨[], .nil, fun d h => (by cases h)⟩
  | v :: us, h => by
    obtain ⟨ds, h1, h2⟩ := Items.dp (K := K) (H := H) (us := us) fun z hz => h z (List.mem_cons_of_mem _ hz)
    have : ∃ d, Dp K H v d ∧ okD 1 d := by
      rcases h v (List.mem_cons_self ..) with ⟨i, rfl⟩ | ⟨x, ts, rfl, hx, hf⟩
      · exact ⟨_, .int _, (okD_int _).1, by have := (okD_int i).2; omega⟩
      · obtain ⟨es, e1, e2⟩ := flat_dp (K := K) (H := H) hf
        exact ⟨_, .tup (SqT.of hx) e1, okD_tup e2⟩
    obtain ⟨d, hd, od⟩ := this
    refine ⟨d :: ds, .cons hd h1, fun x hx => ?_⟩
    rcases List.mem_cons.mp hx with rfl | hx
    · exact od
    · exact h2 x hx
/-- a list told, and its copy -/
def KeptW (H : Hp) (M : List Addr) (v : V) : Prop := ∃ (q a b : Addr) (us : List V), v = .ref q ∧ H q = some (.lst [.ref a, .ref b]) ∧ H a = some (.lst us) ∧ H b = some (.lst us) ∧ Items H us ∧ q ∉ M ∧ a ∉ M ∧ b ∉ M
section
variable {H H' : Hp} {S M M' : List Addr}
theorem KeptW.keep {v : V} (h : KeptW H M v) (k : Keep S H H') (hS : ∀ x ∈ S, x ∈ M ∨ IsDic H x) (hT : ∀ x ∈ S, ∀ xs, H x ≠ some (.tup xs)) (hM : ∀ x ∈ M', x ∈ M ∨ H x = none) : KeptW H' M' v := by
  obtain ⟨q, a, b, us, e, hq, ha, hb, hi, nq, na, nb⟩ := h
  have nS : ∀ x xs, H x = some (.lst xs) → x ∉ M → x ∉ S := fun x xs hx n m => by
    rcases hS x m with z | z
    · exact n z
    · exact z.noL _ hx
  have nM : ∀ x xs, H x = some (.lst xs) → x ∉ M → x ∉ M' := fun x xs hx n m => by
    rcases hM x m with z | z
    · exact n z
    · rw [hx] at z; cases z
  refine ⟨q, a, b, us, e, k _ _ hq (nS _ _ hq nq), k _ _ ha (nS _ _ ha na), k _ _ hb (nS _ _ hb nb), fun v hv => ?_, nM _ _ hq nq, nM _ _ ha na, nM _ _ hb nb⟩
  rcases hi v hv with z | ⟨x, ts, ev, hx, hf⟩
  · exact .inl z
  · exact .inr ⟨x, ts, ev, k _ _ hx fun m => hT x m _ hx, hf⟩
theorem own_keepM {kvs : List (Key × V)} {W : List CarE} (k : Keep S H H') (hS : ∀ x ∈ S, x ∈ M ∨ IsDic H x) (hT : ∀ x ∈ S, ∀ xs, H x ≠ some (.tup xs)) (h : Paired (OwnE H) kvs W) (hK : ∀ kv ∈ kvs, ∀ x ∈ M, kv.2 ≠ .ref x) : Paired (OwnE H') kvs W := by
  induction h with
  | nil => exact .nil
  | cons r _ ih =>
    refine .cons ?_ (ih fun kv hkv => hK kv (List.mem_cons_of_mem _ hkv))
    obtain ⟨h1, a, us, h2, h3, h4⟩ := r
    refine ⟨h1, a, us, h2, k _ _ h3 fun m => ?_, L2.Paired.mapP h4 fun _ _ ⟨t, e, ht⟩ => ⟨t, e, k _ _ ht fun m => hT t m _ ht⟩⟩
    rcases hS _ m with z | z
    · exact hK _ (List.mem_cons_self ..) _ z h2
    · exact z.noL _ h3
theorem own_moreM {kvs : List (Key × V)} {W : List CarE} (h : Paired (OwnE H) kvs W) (hK : ∀ kv ∈ kvs, ∀ x ∈ M, kv.2 ≠ .ref x) (hM : ∀ x ∈ M', x ∈ M ∨ H x = none) : ∀ kv ∈ kvs, ∀ x ∈ M', kv.2 ≠ .ref x := by
  induction h with
  | nil => intro kv h; cases h
  | @cons kv e kvs W r _ ih =>
    intro kv2 hkv x hx
    rcases List.mem_cons.mp hkv with rfl | hkv
    · rcases hM x hx with z | z
      · exact hK _ (List.mem_cons_self ..) x z
      · obtain ⟨_, a, us, h2, h3, _⟩ := r
        intro e2
        rw [h2] at e2
        obtain rfl := V.ref.inj e2
        rw [h3] at z
        cases z
    · exact ih (fun kv hkv => hK kv (List.mem_cons_of_mem _ hkv)) kv2 hkv x hx
end
theorem paired_at {α β : Type} {F : α → β → Prop} : ∀ {l : List α} {m : List β}, l.length = m.length → (∀ (i : Nat) x y, l[i]? = some x → m[i]? = some y → F x y) → Paired F l m
  | [], [], _, _ => .nil
  | [], _ :: _, h, _ => by simp at h
  | _ :: _, [], h, _ => by simp at h
  | x :: l, y :: m, h, f => .cons (f 0 x y rfl rfl) (paired_at (by simpa using h) fun i a b ha hb => f (i + 1) a b ha hb)
theorem paired_both {α β : Type} {F : α → β → Prop} {l : List α} {m : List β} (h : Paired F l m) {i : Nat} {x : α} {y : β} (hx : l[i]? = some x) (hy : m[i]? = some y) : F x y := by
  obtain ⟨y', hy', r⟩ := paired_getL h hx
  rw [hy] at hy'
  obtain rfl := Option.some.inj hy'
  exact r
/-- one of them is set anew -/
theorem paired_put {β : Type} {f : β → HO} {H H' : Hp} {ts : List Addr} {xs : List β} (nd : ts.Nodup) {j : Nat} {t : Addr} {y : β} (h : Paired (fun (t : Addr) (x : β) => H t = some (f x)) ts xs) (hj : ts[j]? = some t) (hy : H' t = some (f y)) (k : ∀ x ∈ ts, x ≠ t → ∀ o, H x = some o → H' x = some o) :
    Paired (fun (t : Addr) (x : β) => H' t = some (f x)) ts (xs.set j y) := by
  have hl := paired_len h
  refine paired_at (by rw [List.length_set]; exact hl) fun i x z hx hz => ?_
  rw [List.getElem?_set] at hz
  by_cases e : j = i
  · subst e
    rw [if_pos rfl, if_pos (by rw [← hl]; exact (List.getElem?_eq_some_iff.mp hj).1)] at hz
    obtain rfl := Option.some.inj hz
    rw [hj] at hx
    obtain rfl := Option.some.inj hx
    exact hy
  · rw [if_neg e] at hz
    have hF := paired_both h hx hz
    refine k x (List.mem_of_getElem? hx) (fun w => ?_) _ hF
    obtain ⟨li, ei⟩ := List.getElem?_eq_some_iff.mp hx
    obtain ⟨lj, ej⟩ := List.getElem?_eq_some_iff.mp hj
    have := (List.getElem_inj (xs := ts) (i := i) (j := j) (h₀ := li) (h₁ := lj) nd).mp (by rw [ei, ej, w])
    exact e this.symm
theorem GL.keepS {S : List Addr} {H H' : Hp} {gts : List Addr} {gs : List (Str × Bool)} (h : GL H gts gs) (k : Keep S H H') (hS : ∀ t ∈ gts, t ∉ S) : GL H' gts gs := paired_mem h fun a ha _ e => k _ _ e (hS a ha)
theorem RL.keepS {S : List Addr} {H H' : Hp} {rts : List Addr} {rs : List RoadD} (h : RL H rts rs) (k : Keep S H H') (hS : ∀ t ∈ rts, t ∉ S) : RL H' rts rs := paired_mem h fun a ha _ e => k _ _ e (hS a ha)

structure St12 (CW CN : Addr) (H0 H : Hp) (p g r wp sd o Kp Lg Ll : Addr) (gts rts : List Addr) (nms : List Str) (gs : List (Str × Bool)) (rs : List RoadD) (W : List CarE) (ps : List V) (nr nw nk : Nat) : Prop where
  s0 : Same H0 H
  dk : g ≠ sd ∧ g ≠ o ∧ sd ≠ o
  ln : (LM r Kp Ll gts rts).Nodup
  fr : ∀ x ∈ LM r Kp Ll gts rts, H0 x = none
  fd : H0 g = none ∧ H0 sd = none ∧ H0 o = none
  fw : ∀ e ∈ W, H0 e.d = none
  net : NetAt CN H p g r ⟨gs, rs⟩
  lg : H Lg = some (.lst (gts.map V.ref))
  lgn : Lg ∉ LM r Kp Ll gts rts
  gl : GL H gts gs
  ll : H Ll = some (.lst (rts.map V.ref))
  rl : RL H rts rs
  wt : WatchAt CW H wp p sd W
  ow : ∃ kvs, H o = some (.dK kvs) ∧ Paired (OwnE H) kvs W ∧ ∀ kv ∈ kvs, ∀ x ∈ LM r Kp Ll gts rts, kv.2 ≠ .ref x
  kp : H Kp = some (.lst ps)
  kk : ∀ v ∈ ps, KeptW H (LM r Kp Ll gts rts) v
  gok : GsOk gs
  rok : ∀ rd ∈ rs, LineOk gs 1 rd
  nm : gs.map (·.1) = nms
  rn : rs.length ≤ nr
  wn : W.length ≤ nw
  ws : ∀ e ∈ W, Sig nms e.ss
  kn : ps.length ≤ nk
end Toll

set_option Elab.async false
set_option linter.all false
set_option maxRecDepth 100000
set_option maxHeartbeats 4000000
namespace Toll
open PySem L2
section
variable {CW CN : Addr} {H0 H H' : Hp} {p g r wp sd o Kp Lg Ll : Addr} {gts rts : List Addr} {nms : List Str} {gs : List (Str × Bool)} {rs : List RoadD} {W : List CarE} {ps : List V} {nr nw nk : Nat}
/-- the lists that change are lists -/
theorem St12.lmL (t : St12 CW CN H0 H p g r wp sd o Kp Lg Ll gts rts nms gs rs W ps nr nw nk) : ∀ x ∈ LM r Kp Ll gts rts, ∃ xs, H x = some (.lst xs) := fun x hx => by
  unfold LM at hx
  simp only [List.mem_cons, List.mem_append] at hx
  rcases hx with rfl | rfl | rfl | hx | hx
  · obtain ⟨us, h, _⟩ := t.net.rt
    exact ⟨_, h⟩
  · exact ⟨_, t.kp⟩
  · exact ⟨_, t.ll⟩
  · obtain ⟨i, hi⟩ := List.getElem?_of_mem hx
    obtain ⟨y, _, hy⟩ := paired_getL t.gl hi
    exact ⟨_, hy⟩
  · obtain ⟨i, hi⟩ := List.getElem?_of_mem hx
    obtain ⟨y, _, hy⟩ := paired_getL t.rl hi
    exact ⟨_, hy⟩
theorem St12.dist (t : St12 CW CN H0 H p g r wp sd o Kp Lg Ll gts rts nms gs rs W ps nr nw nk) : r ≠ Kp ∧ r ≠ Ll ∧ Kp ≠ Ll ∧ r ∉ gts ∧ r ∉ rts ∧ Kp ∉ gts ∧ Kp ∉ rts ∧ Ll ∉ gts ∧ Ll ∉ rts ∧ gts.Nodup ∧ rts.Nodup ∧ ∀ x ∈ gts, x ∉ rts := by
  have h := t.ln
  unfold LM at h
  simp only [List.nodup_cons, List.mem_cons, List.mem_append, not_or, List.nodup_append] at h
  obtain ⟨⟨a1, a2, a3, a4⟩, ⟨b1, b2, b3⟩, ⟨c1, c2⟩, d1, d2, d3⟩ := h
  exact ⟨a1, a2, b1, a3, a4, b2, b3, c1, c2, d1, d2, fun x hx hy => d3 x hx x hy rfl⟩
/-- what is changed is one of the lists that change, or a dict -/
def ChgOk (H : Hp) (M S : List Addr) : Prop := ∀ x ∈ S, x ∈ M ∨ IsDic H x
theorem St12.noT (t : St12 CW CN H0 H p g r wp sd o Kp Lg Ll gts rts nms gs rs W ps nr nw nk) {S : List Addr} (hS : ChgOk H (LM r Kp Ll gts rts) S) : ∀ x ∈ S, ∀ xs, H x ≠ some (.tup xs) := fun x hx xs z => by
  rcases hS x hx with y | y
  · obtain ⟨us, h⟩ := t.lmL x y
    rw [z] at h
    cases h
  · exact y.noT _ z
theorem St12.noI (t : St12 CW CN H0 H p g r wp sd o Kp Lg Ll gts rts nms gs rs W ps nr nw nk) {S : List Addr} (hS : ChgOk H (LM r Kp Ll gts rts) S) {x c d : Addr} {f : List (Str × V)} (h : H x = some (.ins c d f)) : x ∉ S := fun m => by
  rcases hS x m with y | y
  · obtain ⟨us, h2⟩ := t.lmL x y
    rw [h] at h2
    cases h2
  · exact y.noI h
theorem St12.kept (t : St12 CW CN H0 H p g r wp sd o Kp Lg Ll gts rts nms gs rs W ps nr nw nk) {S M' : List Addr} (k : Keep S H H') (hS : ChgOk H (LM r Kp Ll gts rts) S) (hM : ∀ x ∈ M', x ∈ LM r Kp Ll gts rts ∨ H x = none) : ∀ v ∈ ps, KeptW H' M' v := fun v hv => (t.kk v hv).keep k hS (t.noT hS) hM
theorem St12.lgk (t : St12 CW CN H0 H p g r wp sd o Kp Lg Ll gts rts nms gs rs W ps nr nw nk) {S : List Addr} (k : Keep S H H') (hS : ChgOk H (LM r Kp Ll gts rts) S) : H' Lg = some (.lst (gts.map V.ref)) := k _ _ t.lg fun m => by
  rcases hS _ m with y | y
  · exact t.lgn y
  · exact y.noL _ t.lg
/-- what is kept of the cars is still kept where o isn't changed -/
theorem St12.owk (t : St12 CW CN H0 H p g r wp sd o Kp Lg Ll gts rts nms gs rs W ps nr nw nk) {S M' : List Addr} (k : Keep S H H') (hS : ChgOk H (LM r Kp Ll gts rts) S) (ho : o ∉ S) (hM : ∀ x ∈ M', x ∈ LM r Kp Ll gts rts ∨ H x = none) :
    ∃ kvs, H' o = some (.dK kvs) ∧ Paired (OwnE H') kvs W ∧ ∀ kv ∈ kvs, ∀ x ∈ M', kv.2 ≠ .ref x := by
  obtain ⟨kvs, h1, h2, h3⟩ := t.ow
  exact ⟨kvs, k _ _ h1 ho, own_keepM k hS (t.noT hS) h2 h3, own_moreM h2 h3 hM⟩
theorem St12.wtk (t : St12 CW CN H0 H p g r wp sd o Kp Lg Ll gts rts nms gs rs W ps nr nw nk) {S : List Addr} (k : Keep S H H') (hS : ChgOk H (LM r Kp Ll gts rts) S) (hW : ∀ x ∈ wfoot sd W, x ∉ S) : WatchAt CW H' wp p sd W := by
  obtain ⟨dx, h⟩ := t.wt.ob
  exact t.wt.keep k (t.noI hS h) hW
theorem St12.netk (t : St12 CW CN H0 H p g r wp sd o Kp Lg Ll gts rts nms gs rs W ps nr nw nk) {S : List Addr} (k : Keep S H H') (hS : ChgOk H (LM r Kp Ll gts rts) S) (hg : g ∉ S) (hr : r ∉ S) : NetAt CN H' p g r ⟨gs, rs⟩ := by
  obtain ⟨dx, h⟩ := t.net.ob
  exact t.net.keep k (t.noI hS h) hg hr (t.noT hS)
theorem St12.dic (t : St12 CW CN H0 H p g r wp sd o Kp Lg Ll gts rts nms gs rs W ps nr nw nk) : IsDic H g ∧ IsDic H sd ∧ IsDic H o ∧ ∀ e ∈ W, IsDic H e.d := by
  obtain ⟨kvs, h1, _⟩ := t.ow
  refine ⟨.inl ⟨_, t.net.gt⟩, .inl ⟨_, t.wt.sd⟩, .inl ⟨_, h1⟩, fun e he => ?_⟩
  obtain ⟨ks, h, _⟩ := t.wt.ds e he
  exact .inr ⟨_, h⟩
theorem St12.dicL (t : St12 CW CN H0 H p g r wp sd o Kp Lg Ll gts rts nms gs rs W ps nr nw nk) {x : Addr} (h : IsDic H x) : x ∉ LM r Kp Ll gts rts := fun m => by
  obtain ⟨xs, hx⟩ := t.lmL x m
  exact h.noL _ hx
theorem St12.wfDic (t : St12 CW CN H0 H p g r wp sd o Kp Lg Ll gts rts nms gs rs W ps nr nw nk) : ∀ x ∈ wfoot sd W, IsDic H x := fun x hx => by
  rcases List.mem_cons.mp hx with rfl | hx
  · exact t.dic.2.1
  · obtain ⟨e, he, rfl⟩ := List.mem_map.mp hx
    exact t.dic.2.2.2 e he
theorem St12.wfg (t : St12 CW CN H0 H p g r wp sd o Kp Lg Ll gts rts nms gs rs W ps nr nw nk) : g ∉ wfoot sd W ∧ o ∉ wfoot sd W := by
  have h : ∀ x kvs, H x = some (.dK kvs) → x ≠ sd → x ∉ wfoot sd W := fun x kvs hx n m => by
    rcases List.mem_cons.mp m with z | z
    · exact n z
    · obtain ⟨e, he, rfl⟩ := List.mem_map.mp z
      obtain ⟨ks, h2, _⟩ := t.wt.ds e he
      rw [h2] at hx
      cases hx
  obtain ⟨kvs, h1, _⟩ := t.ow
  exact ⟨h g _ t.net.gt t.dk.1, h o _ h1 t.dk.2.2.symm⟩
/-- S is of no consequence to the account of the cars: only lists and g are changed -/
theorem gok_turn {gs : List (Str × Bool)} {nm : Str} {b : Bool} (h : GsOk gs) : GsOk (setSees gs nm b) := by
  refine ⟨by rw [setSees_names]; exact h.nd, by rw [setSees_len]; exact h.l2, by rw [setSees_len]; exact h.l60, fun q hq => ?_⟩
  obtain ⟨q0, h0, rfl⟩ := List.mem_map.mp (show q ∈ setSees gs nm b from hq)
  split
  · exact h.nm q0 h0
  · exact h.nm q0 h0
theorem lineOk_turn {gs gs' : List (Str × Bool)} {rd : RoadD} {u : Int} (h : LineOk gs u rd) (e : gs'.map (·.1) = gs.map (·.1)) : LineOk gs' u rd := by
  have f : ∀ z, (∃ c, (z, c) ∈ gs) → ∃ c, (z, c) ∈ gs' := fun z ⟨c, hc⟩ => by
    have : z ∈ gs'.map (·.1) := by rw [e]; exact List.mem_map.mpr ⟨_, hc, rfl⟩
    obtain ⟨q, hq, rfl⟩ := List.mem_map.mp this
    exact ⟨q.2, hq⟩
  exact ⟨f _ h.o1, f _ h.o2, h.ne, h.mi, h.tl⟩
theorem St12.turn (t : St12 CW CN H0 H p g r wp sd o Kp Lg Ll gts rts nms gs rs W ps nr nw nk) {H1 : Hp} {j : Nat} {tj : Addr} {nm : Str} {c : Bool} (hj : gts[j]? = some tj) (hg : gs[j]? = some (nm, c)) (n1 : NetAt CN H1 p g r ⟨setSees gs nm (!c), rs⟩) (k1 : Keep [g] H H1) :
    St12 CW CN H0 (upd H1 tj (.lst [.str nm, .bl (!c)])) p g r wp sd o Kp Lg Ll gts rts nms (setSees gs nm (!c)) rs W ps nr nw nk := by
  have k2 : Keep [g, tj] H (upd H1 tj (.lst [.str nm, .bl (!c)])) := (k1.mono (by simp)).trans (keep1.mono (by simp))
  obtain ⟨d1, d2, d3, d4, d5, d6, d7, d8, d9, d10, d11, d12⟩ := t.dist
  have mj := List.mem_of_getElem? hj
  have mL : tj ∈ LM r Kp Ll gts rts := by unfold LM; simp [mj]
  obtain ⟨i1, i2, i3, i4⟩ := t.dic
  have hS : ChgOk H (LM r Kp Ll gts rts) [g, tj] := fun x hx => by
    simp only [List.mem_cons, List.not_mem_nil, or_false] at hx
    rcases hx with rfl | rfl
    · exact .inr i1
    · exact .inl mL
  obtain ⟨xs, hx⟩ := t.lmL tj mL
  have ndic : ∀ x, IsDic H x → x ≠ tj := fun x h z => h.noL xs (z ▸ hx)
  have eg := setSees_at (b := !c) t.gok.nd hg
  have ng : ∀ x xs, H x = some (.lst xs) → x ≠ g := fun x ys h z => i1.noL ys (z ▸ h)
  obtain ⟨us, hr, _⟩ := t.net.rt
  obtain ⟨dn, hnb⟩ := t.net.ob
  have hx1 : H1 tj = some (.lst xs) := k1 _ _ hx (by simpa using ng _ _ hx)
  have same1 : ∀ x ∈ LM r Kp Ll gts rts, x ≠ tj → x ∉ [g, tj] := fun x hx n => by
    obtain ⟨ys, hy⟩ := t.lmL x hx
    simp [ng _ _ hy, n]
  refine ⟨same_keep t.s0 k2 fun x hx => ?_, t.dk, t.ln, t.fr, t.fd, t.fw, ?_, t.lgk k2 hS, t.lgn, ?_, ?_, ?_, t.wtk k2 hS fun x hx => ?_, t.owk k2 hS ?_ fun x hx => .inl hx, ?_, t.kept k2 hS fun x hx => .inl hx, gok_turn t.gok, fun rd hrd => lineOk_turn (t.rok rd hrd) (setSees_names _ _ _), by rw [setSees_names]; exact t.nm, t.rn, t.wn, t.ws, t.kn⟩
  · simp only [List.mem_cons, List.not_mem_nil, or_false] at hx
    rcases hx with rfl | rfl
    · exact t.fd.1
    · exact t.fr _ mL
  · obtain ⟨dn1, hnb1⟩ := n1.ob
    obtain ⟨us1, hr1, _⟩ := n1.rt
    refine n1.keep keep1 (by simpa using ne_of hnb1 hx1 (by intro z; cases z)) (by simpa using ne_of n1.gt hx1 (by intro z; cases z)) (by simpa using fun z => d4 (by rw [z]; exact mj)) fun a ha ys z => ?_
    rw [List.mem_singleton] at ha
    rw [ha, hx1] at z
    cases z
  · rw [eg]
    exact paired_put (f := fun q : Str × Bool => HO.lst [.str q.1, .bl q.2]) d10 t.gl hj upd_same fun x hx n o ho => k2 _ _ ho (same1 x (by unfold LM; simp [hx]) n)
  · exact k2 _ _ t.ll (same1 Ll (by unfold LM; simp) fun z => d8 (by rw [z]; exact mj))
  · exact t.rl.keepS k2 fun x hx => same1 x (by unfold LM; simp [hx]) fun z => d12 tj mj (by rw [← z]; exact hx)
  · have hd := t.wfDic x hx
    have : x ≠ g := fun z => t.wfg.1 (by rw [← z]; exact hx)
    simp [this, ndic x hd]
  · simp [t.dk.2.1.symm, ndic o i3]
  · exact k2 _ _ t.kp (same1 Kp (by unfold LM; simp) fun z => d6 (by rw [z]; exact mj))
theorem St12.lane (t : St12 CW CN H0 H p g r wp sd o Kp Lg Ll gts rts nms gs rs W ps nr nw nk) {H1 : Hp} {j : Nat} {tj : Addr} {rd : RoadD} {c : Bool} (hj : rts[j]? = some tj) (hg : rs[j]? = some rd) (n1 : NetAt CN H1 p g r ⟨gs, rs.set j { rd with op := c }⟩) (k1 : Keep [r] H H1) :
    St12 CW CN H0 (upd H1 tj (.lst (roadVs { rd with op := c }))) p g r wp sd o Kp Lg Ll gts rts nms gs (rs.set j { rd with op := c }) W ps nr nw nk := by
  have k2 : Keep [r, tj] H (upd H1 tj (.lst (roadVs { rd with op := c }))) := (k1.mono (by simp)).trans (keep1.mono (by simp))
  obtain ⟨d1, d2, d3, d4, d5, d6, d7, d8, d9, d10, d11, d12⟩ := t.dist
  have mj := List.mem_of_getElem? hj
  have mL : tj ∈ LM r Kp Ll gts rts := by unfold LM; simp [mj]
  have mr : r ∈ LM r Kp Ll gts rts := by unfold LM; simp
  obtain ⟨i1, i2, i3, i4⟩ := t.dic
  have hS : ChgOk H (LM r Kp Ll gts rts) [r, tj] := fun x hx => by
    simp only [List.mem_cons, List.not_mem_nil, or_false] at hx
    rcases hx with rfl | rfl
    · exact .inl mr
    · exact .inl mL
  obtain ⟨xs, hx⟩ := t.lmL tj mL
  have nd2 : ∀ x, IsDic H x → x ∉ [r, tj] := fun x h m => by
    simp only [List.mem_cons, List.not_mem_nil, or_false] at m
    rcases m with rfl | rfl
    · exact t.dicL h mr
    · exact h.noL xs hx
  have rtj : r ≠ tj := fun z => d5 (by rw [z]; exact mj)
  have hx1 : H1 tj = some (.lst xs) := k1 _ _ hx (by simpa using rtj.symm)
  have same1 : ∀ x, x ≠ r → x ≠ tj → x ∉ [r, tj] := fun x n1 n2 => by simp [n1, n2]
  refine ⟨same_keep t.s0 k2 fun x hx => ?_, t.dk, t.ln, t.fr, t.fd, t.fw, ?_, t.lgk k2 hS, t.lgn, ?_, ?_, ?_, t.wtk k2 hS fun x hx => nd2 x (t.wfDic x hx), t.owk k2 hS (nd2 o i3) fun x hx => .inl hx, ?_, t.kept k2 hS fun x hx => .inl hx, t.gok, fun rd2 hrd => ?_, t.nm, by rw [List.length_set]; exact t.rn, t.wn, t.ws, t.kn⟩
  · simp only [List.mem_cons, List.not_mem_nil, or_false] at hx
    rcases hx with rfl | rfl
    · exact t.fr _ mr
    · exact t.fr _ mL
  · obtain ⟨dn1, hnb1⟩ := n1.ob
    refine n1.keep keep1 (by simpa using ne_of hnb1 hx1 (by intro z; cases z)) (by simpa using ne_of n1.gt hx1 (by intro z; cases z)) (by simpa using rtj) fun a ha ys z => ?_
    rw [List.mem_singleton] at ha
    rw [ha, hx1] at z
    cases z
  · exact t.gl.keepS k2 fun x hx => same1 x (fun z => d4 (by rw [← z]; exact hx)) fun z => d12 x hx (by rw [z]; exact mj)
  · exact k2 _ _ t.ll (same1 Ll d2.symm fun z => d9 (by rw [z]; exact mj))
  · exact paired_put (f := fun q : RoadD => HO.lst (roadVs q)) d11 t.rl hj upd_same fun x hx n o ho => k2 _ _ ho (same1 x (fun z => d5 (by rw [← z]; exact hx)) n)
  · exact k2 _ _ t.kp (same1 Kp d1.symm fun z => d7 (by rw [z]; exact mj))
  · rcases List.mem_or_eq_of_mem_set hrd with z | z
    · exact t.rok rd2 z
    · rw [z]
      have := t.rok rd (List.mem_of_getElem? hg)
      exact ⟨this.o1, this.o2, this.ne, this.mi, this.tl⟩
theorem St12.road (t : St12 CW CN H0 H p g r wp sd o Kp Lg Ll gts rts nms gs rs W ps nr nw nk) {H1 H2 : Hp} {tn : Addr} {rd : RoadD} (n1 : NetAt CN H1 p g r ⟨gs, rs ++ [rd]⟩) (k1 : Keep [r] H H1) (s2 : Same H1 H2) (hn : H1 tn = none) (hn0 : H tn = none) (ht : H2 tn = some (.lst (roadVs rd))) (ok : LineOk gs 1 rd) :
    St12 CW CN H0 (upd H2 Ll (.lst ((rts ++ [tn]).map V.ref))) p g r wp sd o Kp Lg Ll gts (rts ++ [tn]) nms gs (rs ++ [rd]) W ps (nr + 1) nw nk := by
  have k2 : Keep [r, Ll] H (upd H2 Ll (.lst ((rts ++ [tn]).map V.ref))) := (k1.mono (by simp)).trans ((Keep.of_same s2).trans (keep1.mono (by simp)))
  obtain ⟨d1, d2, d3, d4, d5, d6, d7, d8, d9, d10, d11, d12⟩ := t.dist
  have mL : Ll ∈ LM r Kp Ll gts rts := by unfold LM; simp
  have mr : r ∈ LM r Kp Ll gts rts := by unfold LM; simp
  obtain ⟨i1, i2, i3, i4⟩ := t.dic
  have hS : ChgOk H (LM r Kp Ll gts rts) [r, Ll] := fun x hx => by
    simp only [List.mem_cons, List.not_mem_nil, or_false] at hx
    rcases hx with rfl | rfl
    · exact .inl mr
    · exact .inl mL
  have nd2 : ∀ x, IsDic H x → x ∉ [r, Ll] := fun x h m => by
    simp only [List.mem_cons, List.not_mem_nil, or_false] at m
    rcases m with rfl | rfl
    · exact t.dicL h mr
    · exact t.dicL h mL
  have same1 : ∀ x, x ≠ r → x ≠ Ll → x ∉ [r, Ll] := fun x n1 n2 => by simp [n1, n2]
  have fresh : ∀ x ∈ LM r Kp Ll gts rts, x ≠ tn := fun x hx z => by
    obtain ⟨ys, hy⟩ := t.lmL x hx
    rw [z, hn0] at hy
    cases hy
  have hM : ∀ x ∈ LM r Kp Ll gts (rts ++ [tn]), x ∈ LM r Kp Ll gts rts ∨ x = tn := fun x hx => by
    unfold LM at hx ⊢
    simp only [List.mem_cons, List.mem_append, List.not_mem_nil, or_false] at hx ⊢
    rcases hx with h | h | h | h | h | h
    · exact .inl (.inl h)
    · exact .inl (.inr (.inl h))
    · exact .inl (.inr (.inr (.inl h)))
    · exact .inl (.inr (.inr (.inr (.inl h))))
    · exact .inl (.inr (.inr (.inr (.inr h))))
    · exact .inr h
  have hM' : ∀ x ∈ LM r Kp Ll gts (rts ++ [tn]), x ∈ LM r Kp Ll gts rts ∨ H x = none := fun x hx => (hM x hx).imp id fun z => by rw [z]; exact hn0
  have htl : tn ≠ Ll := (fresh Ll mL).symm
  refine ⟨same_keep t.s0 k2 fun x hx => ?_, t.dk, ?_, fun x hx => ?_, t.fd, t.fw, ?_, t.lgk k2 hS, fun m => ?_, ?_, upd_same, ?_, t.wtk k2 hS fun x hx => nd2 x (t.wfDic x hx), t.owk k2 hS (nd2 o i3) hM', ?_, t.kept k2 hS hM', t.gok, fun rd2 hrd => ?_, t.nm, by rw [List.length_append]; have := t.rn; show rs.length + 1 ≤ nr + 1; omega, t.wn, t.ws, t.kn⟩
  · simp only [List.mem_cons, List.not_mem_nil, or_false] at hx
    rcases hx with rfl | rfl
    · exact t.fr _ mr
    · exact t.fr _ mL
  · have h := t.ln
    have f1 := fresh r mr
    have f2 := fresh Kp (by unfold LM; simp)
    have f4 : ∀ x ∈ gts, x ≠ tn := fun x hx => fresh x (by unfold LM; simp [hx])
    have f5 : ∀ x ∈ rts, x ≠ tn := fun x hx => fresh x (by unfold LM; simp [hx])
    unfold LM at h ⊢
    rw [← List.append_assoc, ← List.cons_append, ← List.cons_append, ← List.cons_append, List.nodup_append]
    refine ⟨h, by simp, fun x hx y hy => ?_⟩
    rw [List.mem_singleton] at hy
    rw [hy]
    exact fresh x hx
  · rcases hM x hx with z | z
    · exact t.fr x z
    · rw [z]; exact t.s0.free hn0
  · obtain ⟨dn1, hnb1⟩ := n1.ob
    have hl1 : H1 Ll = some (.lst (rts.map V.ref)) := k1 _ _ t.ll (by simpa using d2.symm)
    refine (n1.same s2).keep keep1 (by simpa using ne_of hnb1 hl1 (by intro z; cases z)) (by simpa using ne_of n1.gt hl1 (by intro z; cases z)) (by simpa using d2) fun a ha ys z => ?_
    rw [List.mem_singleton] at ha
    rw [ha, s2 _ _ hl1] at z
    cases z
  · rcases hM _ m with z | z
    · exact t.lgn z
    · have := t.lg
      rw [z, hn0] at this
      cases this
  · exact t.gl.keepS k2 fun x hx => same1 x (fun z => d4 (by rw [← z]; exact hx)) fun z => d8 (by rw [← z]; exact hx)
  · refine paired_snoc (by rw [upd_ne htl]; exact ht) (t.rl.keepS k2 fun x hx => same1 x (fun z => d5 (by rw [← z]; exact hx)) fun z => d9 (by rw [← z]; exact hx))
  · exact k2 _ _ t.kp (same1 Kp d1.symm d3)
  · rcases List.mem_append.mp hrd with z | z
    · exact t.rok rd2 z
    · rw [List.mem_singleton] at z
      rw [z]
      exact ok
end
end Toll

set_option Elab.async false
set_option linter.all false
set_option maxRecDepth 100000
set_option maxHeartbeats 4000000
namespace Toll
open PySem L2
section
variable {CW CN : Addr} {H0 H H' : Hp} {p g r wp sd o Kp Lg Ll : Addr} {gts rts : List Addr} {nms : List Str} {gs : List (Str × Bool)} {rs : List RoadD} {W W' : List CarE} {ps qs : List V} {nr nw nk nw' : Nat}
theorem St12.same (t : St12 CW CN H0 H p g r wp sd o Kp Lg Ll gts rts nms gs rs W ps nr nw nk) (s : Same H H') : St12 CW CN H0 H' p g r wp sd o Kp Lg Ll gts rts nms gs rs W ps nr nw nk := by
  have k : Keep [] H H' := Keep.of_same s
  have hS : ChgOk H (LM r Kp Ll gts rts) [] := fun x hx => (by cases hx)
  exact ⟨t.s0.trans s, t.dk, t.ln, t.fr, t.fd, t.fw, t.net.same s, s _ _ t.lg, t.lgn, t.gl.same s, s _ _ t.ll, t.rl.same s, t.wt.same s, t.owk k hS (by simp) fun x hx => .inl hx, s _ _ t.kp, t.kept k hS fun x hx => .inl hx, t.gok, t.rok, t.nm, t.rn, t.wn, t.ws, t.kn⟩
theorem St12.up (t : St12 CW CN H0 H p g r wp sd o Kp Lg Ll gts rts nms gs rs W ps nr nw nk) {nr' nw' nk' : Nat} (h1 : nr ≤ nr') (h2 : nw ≤ nw') (h3 : nk ≤ nk') : St12 CW CN H0 H p g r wp sd o Kp Lg Ll gts rts nms gs rs W ps nr' nw' nk' :=
  { t with rn := Nat.le_trans t.rn h1, wn := Nat.le_trans t.wn h2, kn := Nat.le_trans t.kn h3 }
theorem St12.made (t : St12 CW CN H0 H p g r wp sd o Kp Lg Ll gts rts nms gs rs W ps nr nw nk) {S : List Addr} {H1 H2 : Hp} {kvs' : List (Key × V)} (w1 : WatchAt CW H1 wp p sd W') (k1 : Keep S H H1) (hS : ∀ x ∈ S, IsDic H x ∧ x ≠ g ∧ x ≠ o) (hf : ∀ x ∈ S, H0 x = none) (s2 : Same H1 H2)
    (hp : Paired (OwnE H2) kvs' W') (hk : ∀ kv ∈ kvs', ∀ x ∈ LM r Kp Ll gts rts, kv.2 ≠ .ref x) (fw : ∀ e ∈ W', H0 e.d = none) (wn : W'.length ≤ nw') (ws : ∀ e ∈ W', Sig nms e.ss) :
    St12 CW CN H0 (upd H2 o (.dK kvs')) p g r wp sd o Kp Lg Ll gts rts nms gs rs W' ps nr nw' nk := by
  have k2 : Keep (o :: S) H (upd H2 o (.dK kvs')) := (k1.mono (by intro x hx; simp [hx])).trans ((Keep.of_same s2).trans (keep1.mono (by simp)))
  obtain ⟨i1, i2, i3, i4⟩ := t.dic
  have hC : ChgOk H (LM r Kp Ll gts rts) (o :: S) := fun x hx => by
    rcases List.mem_cons.mp hx with rfl | hx
    · exact .inr i3
    · exact .inr (hS x hx).1
  have nL : ∀ x ∈ LM r Kp Ll gts rts, x ∉ o :: S := fun x hx m => by
    rcases List.mem_cons.mp m with rfl | m
    · exact t.dicL i3 hx
    · exact t.dicL (hS x m).1 hx
  have nLS : ∀ x ∈ LM r Kp Ll gts rts, x ∉ S := fun x hx m => nL x hx (List.mem_cons_of_mem _ m)
  obtain ⟨kvs, ho, _⟩ := t.ow
  have oS : o ∉ S := fun m => (hS o m).2.2 rfl
  have ho2 : H2 o = some (.dK kvs) := s2 _ _ (k1 _ _ ho oS)
  have gS : g ∉ o :: S := fun m => by
    rcases List.mem_cons.mp m with z | m
    · exact t.dk.2.1 z
    · exact (hS g m).2.1 rfl
  refine ⟨same_keep t.s0 k2 fun x hx => ?_, t.dk, t.ln, t.fr, t.fd, fw, t.netk k2 hC gS (nL r (by unfold LM; simp)), t.lgk k2 hC, t.lgn, t.gl.keepS k2 fun x hx => nL x (by unfold LM; simp [hx]), k2 _ _ t.ll (nL Ll (by unfold LM; simp)), t.rl.keepS k2 fun x hx => nL x (by unfold LM; simp [hx]), ?_, ⟨kvs', upd_same, ?_, hk⟩, k2 _ _ t.kp (nL Kp (by unfold LM; simp)), t.kept k2 hC fun x hx => .inl hx, t.gok, t.rok, t.nm, t.rn, wn, ws, t.kn⟩
  · rcases List.mem_cons.mp hx with rfl | hx
    · exact t.fd.2.2
    · exact hf x hx
  · have w2 := w1.same s2
    obtain ⟨dx, hob⟩ := w2.ob
    refine w2.keep keep1 (by simpa using ne_of hob ho2 (by intro z; cases z)) fun x hx m => ?_
    rw [List.mem_singleton] at m
    rw [m] at hx
    rcases List.mem_cons.mp hx with z | z
    · exact t.dk.2.2 z.symm
    · obtain ⟨e, he, rfl⟩ := List.mem_map.mp z
      obtain ⟨ks, h2, _⟩ := w2.ds e he
      rw [h2] at ho2
      cases ho2
  · exact own_keepM (M := []) keep1 (fun x hx => .inr (by rw [List.mem_singleton] at hx; rw [hx]; exact .inl ⟨_, ho2⟩)) (fun x hx xs z => by rw [List.mem_singleton] at hx; rw [hx, ho2] at z; cases z) hp (by simp)
theorem St12.keptMore (t : St12 CW CN H0 H p g r wp sd o Kp Lg Ll gts rts nms gs rs W ps nr nw nk) (k : Keep [Kp] H H') (hk : H' Kp = some (.lst (ps ++ qs))) (hq : ∀ v ∈ qs, KeptW H' (LM r Kp Ll gts rts) v) {c : Nat} (hl : qs.length ≤ c) : St12 CW CN H0 H' p g r wp sd o Kp Lg Ll gts rts nms gs rs W (ps ++ qs) nr nw (nk + c) := by
  obtain ⟨d1, d2, d3, d4, d5, d6, d7, d8, d9, d10, d11, d12⟩ := t.dist
  obtain ⟨i1, i2, i3, i4⟩ := t.dic
  have mK : Kp ∈ LM r Kp Ll gts rts := by unfold LM; simp
  have hC : ChgOk H (LM r Kp Ll gts rts) [Kp] := fun x hx => .inl (by rw [List.mem_singleton] at hx; rw [hx]; exact mK)
  have nd : ∀ x, IsDic H x → x ∉ [Kp] := fun x h m => by
    rw [List.mem_singleton] at m
    rw [m] at h
    exact t.dicL h mK
  refine ⟨same_keep t.s0 k fun x hx => (by rw [List.mem_singleton] at hx; rw [hx]; exact t.fr _ mK), t.dk, t.ln, t.fr, t.fd, t.fw, t.netk k hC (nd g i1) (by simpa using d1), t.lgk k hC, t.lgn, t.gl.keepS k fun x hx m => ?_, k _ _ t.ll (by simpa using d3.symm), t.rl.keepS k fun x hx m => ?_, t.wtk k hC fun x hx => nd x (t.wfDic x hx), t.owk k hC (nd o i3) fun x hx => .inl hx, hk, fun v hv => ?_, t.gok, t.rok, t.nm, t.rn, t.wn, t.ws, by rw [List.length_append]; have := t.kn; omega⟩
  · rw [List.mem_singleton] at m
    exact d6 (by rw [← m]; exact hx)
  · rw [List.mem_singleton] at m
    exact d7 (by rw [← m]; exact hx)
  · rcases List.mem_append.mp hv with z | z
    · exact t.kept k hC (fun x hx => .inl hx) v z
    · exact hq v z
end
end Toll

set_option Elab.async false
set_option linter.all false
set_option maxRecDepth 100000
set_option maxHeartbeats 4000000
namespace Toll
open PySem L2
/-! ### what the cars owe -/
def owed : DOut → V
  | .way t => .int t.sum
  | .no _ => .non
def owedD : DOut → PyData
  | .way t => .int t.sum
  | .no _ => .none
def BillV (H : Hp) (v : V) (q : Str × DOut) : Prop := ∃ t, v = .ref t ∧ H t = some (.tup [.str q.1, owed q.2])
def sumRows (rows : List (Str × DOut)) : Int := (rows.filterMap fun q => match q.2 with | .way t => some t.sum | .no _ => none).sum
theorem bill_same {H H' : Hp} {us : List V} {rows : List (Str × DOut)} (s : Same H H') (h : Paired (BillV H) us rows) : Paired (BillV H') us rows := L2.Paired.mapP h fun _ _ ⟨t, e, ht⟩ => ⟨t, e, s _ _ ht⟩
theorem owed_dp {K : PySem.W.Frag} {H : Hp} (o : DOut) : Dp K H (owed o) (owedD o) := by
  cases o with
  | way t => exact .int _
  | no k => exact .non
theorem bill_dp {K : PySem.W.Frag} {H : Hp} : ∀ {us : List V} {rows : List (Str × DOut)}, Paired (BillV H) us rows → DpAll K H us (rows.map fun q => PyData.tuple [.str q.1, owedD q.2])
  | _, _, .nil => .nil
  | _, _, .cons ⟨t, e, ht⟩ r => by
    subst e
    exact .cons (.tup (SqT.of ht) (.cons (.str _) (.cons (owed_dp _) .nil))) (bill_dp r)
theorem bill_ok {rows : List (Str × DOut)} (h : ∀ q ∈ rows, PyData.strOk q.1 = true) : okD 2 (.list (rows.map fun q => PyData.tuple [.str q.1, owedD q.2])) := okD_list fun d hd => by
  obtain ⟨q, hq, rfl⟩ := List.mem_map.mp hd
  refine okD_tup fun e he => ?_
  simp only [List.mem_cons, List.not_mem_nil, or_false] at he
  rcases he with rfl | rfl
  · exact okD_str (h q hq)
  · cases q.2 with
    | way t => exact okD_int _
    | no k => exact ⟨by simp [owedD, PyData.canLay0], by simp [owedD, PyData.depth]⟩
theorem bill_items {H : Hp} : ∀ {us : List V} {rows : List (Str × DOut)}, Paired (BillV H) us rows → (∀ q ∈ rows, PyData.strOk q.1 = true) → Items H us := fun {us rows} h ok v hv => by
  obtain ⟨i, hi⟩ := List.getElem?_of_mem hv
  obtain ⟨q, hq, t, e, ht⟩ := paired_getL h hi
  refine .inr ⟨t, _, e, ht, fun y hy => ?_⟩
  simp only [List.mem_cons, List.not_mem_nil, or_false] at hy
  rcases hy with rfl | rfl
  · exact .inr (.inr ⟨_, rfl, ok q (List.mem_of_getElem? hq)⟩)
  · cases q.2 with
    | way t => exact .inr (.inl ⟨_, rfl⟩)
    | no k => exact .inl rfl
/-- the sightings of a car can be guessed from -/
structure GOk (N : NetD) (ss : List (Int × Str)) : Prop where
  ne : ss ≠ []
  len : ss.length ≤ 20
  fine : ∀ q ∈ ss, q.2.length ≤ 1000 ∧ PyData.strOk q.2 = true
  ref : seenRef N 0 ss = none
  legs : ∀ i a b, ss[i]? = some a → ss[i + 1]? = some b → seesOf N.gates a.2 ≠ none ∧ seesOf N.gates b.2 ≠ none ∧ a.1 ≤ b.1 ∧ ∃ u, Few N a.2 (b.1 - a.1) u
/-- the rows of the bill -/
structure RowsOk (N : NetD) (W : List CarE) (rows : List (Str × DOut)) : Prop where
  pm : (rows.map (·.1)).Perm (W.map (·.car))
  so : PyProof.Rows.sortedS (rows.map (·.1)) = true
  due : ∀ q ∈ rows, ∃ e ∈ W, e.car = q.1 ∧ DueP N (e.ss.mergeSort seenLe) q.2
theorem rows_one {N : NetD} {W : List CarE} {a b : List (Str × DOut)} (nd : (W.map (·.car)).Nodup) (ha : RowsOk N W a) (hb : RowsOk N W b) : a = b := by
  have e := sorted_one ha.so hb.so (ha.pm.trans hb.pm.symm)
  have one : ∀ e1 ∈ W, ∀ e2 ∈ W, e1.car = e2.car → e1 = e2 := fun e1 h1 e2 h2 h => by
    have a1 := carOf_mem nd h1
    have a2 := carOf_mem nd h2
    rw [h, a2] at a1
    exact (Option.some.inj a1).symm
  have f : ∀ (a b : List (Str × DOut)), a.map (·.1) = b.map (·.1) → (∀ q ∈ a, ∃ e ∈ W, e.car = q.1 ∧ DueP N (e.ss.mergeSort seenLe) q.2) → (∀ q ∈ b, ∃ e ∈ W, e.car = q.1 ∧ DueP N (e.ss.mergeSort seenLe) q.2) → a = b := by
    intro a
    induction a with
    | nil =>
      intro b h _ _
      cases b with
      | nil => rfl
      | cons _ _ => simp at h
    | cons x a ih =>
      intro b h hx hy
      cases b with
      | nil => simp at h
      | cons y b =>
        rw [List.map_cons, List.map_cons] at h
        injection h with h1 h2
        obtain ⟨e1, m1, c1, d1⟩ := hx x (List.mem_cons_self ..)
        obtain ⟨e2, m2, c2, d2⟩ := hy y (List.mem_cons_self ..)
        have h1 : x.1 = y.1 := h1
        obtain rfl := one e1 m1 e2 m2 (by rw [c1, c2, h1])
        have : x = y := Prod.ext h1 (d1.uniq d2)
        rw [this, ih b h2 (fun q hq => hx q (List.mem_cons_of_mem _ hq)) fun q hq => hy q (List.mem_cons_of_mem _ hq)]
  exact f a b e ha.due hb.due
theorem Sig.gok {nms : List Str} {gs : List (Str × Bool)} {rs : List RoadD} {ss : List (Int × Str)} (s : Sig nms ss) (e : gs.map (·.1) = nms) (gk : GsOk gs) (lk : ∀ r ∈ rs, LineOk gs 1 r) : GOk ⟨gs, rs⟩ (ss.mergeSort seenLe) := by
  have so := s.sorted e
  have sl := s.sortedLen
  refine ⟨fun z => by rw [z] at sl; simp at sl, by omega, so.names gk, ?_, fun i a b ha hb => so.legs (by decide) lk i a b ha hb⟩
  have := so.ok (rs := rs) (by decide) _ 0 rfl 0 fun q hq => so.t0 q (List.mem_of_getElem? hq)
  simpa using this
section
variable {X : Cx}
theorem pg_tupK {K : PySem.W.Frag} {es : List Expr} {k : Nat} {t : TGs} {n : Nat} {pos : Pos} (hK : X.K = K) (hc : X.calm = true) (h : PGs X es t)
    (hn : (PySem.assignEach es X.env).length = n) (hst : (assignEach es X.env).findIdx? (·.1) = none) : PG X (.Tuple es k pos) (gTup K n t) := by
  subst hK
  exact pg_tup hc h hn hst
theorem cr_sortSeenK {K : PySem.W.Frag} (hK : X.K = K) (hu : X.A.units + 64 < cLine) : CallR X (.builtin "sorted") (rSortSeen K) := by
  subst hK
  exact cr_sortSeen hu
end
end Toll

set_option Elab.async false
set_option maxRecDepth 100000
set_option maxHeartbeats 4000000
namespace Toll
open PySem L2
local macro_rules | `(tactic| walk_at "go1") => `(tactic| first
  | refine ⟨_, rfl, ?_⟩
  | refine ⟨rfl, ?_⟩
  | refine ⟨_, _, rfl, rfl, ?_⟩
  | refine ⟨_, _, rfl, ?_⟩
  | (with_reducible refine' ⟨log_small ?k1 ?k2, ?_⟩; (case k1 => omega); (case k2 => omega))
  | (refine' ⟨?k1, ?_⟩; (case k1 => ((with_reducible show (_ : Int) < _); omega)))
  | (refine' ⟨⟨?k1, ?k2⟩, ?_⟩; (case k1 => omega); (case k2 => omega))
  | (refine' ⟨⟨?k1, ?k2, ?k3, ?k4⟩, ?_⟩; (case k1 => omega); (case k2 => omega); (case k3 => omega); (case k4 => omega))
  | (refine' ⟨.inl ⟨?k1, ?k2⟩, ?_⟩; (case k1 => omega); (case k2 => omega))
  | (refine' ⟨.inr ⟨?k1, ?k2⟩, ?_⟩; (case k1 => omega); (case k2 => omega))
  | (refine' ⟨Evl.sz_of ?k1, ?_⟩; (case k1 => omega))
  | (refine' ⟨?k1, ?_⟩; (case k1 => ((with_reducible show (_ : Int) ≤ _); omega)))
  | refine ⟨⟨_, rfl⟩, ?_⟩
  | refine .inl ⟨_, rfl, ?_⟩ | refine .inr ⟨_, rfl, ?_⟩
  | refine iteT ?_ | refine iteF ?_)
local macro_rules | `(tactic| walk_at "go") => `(tactic| repeat (walk_at "go1"))
local macro_rules | `(tactic| walk_at "ans") => `(tactic| (intro Q' q'; walk_at "go"; (try rw [dec_int]); (try rw [dec_str]); exact q'))
local macro_rules | `(tactic| walk_at "hp") => `(tactic| first | assumption | exact upd_same | (refine' up_same ?e ?h; (case e => assumption); (case h => walk_at "hp")) | (refine' upd_at ?n ?h; (case n => walk_at "ne"); (case h => walk_at "hp")))
local macro_rules | `(tactic| walk_at "ne") => `(tactic| first | assumption | (apply Ne.symm; assumption))
local macro_rules | `(tactic| walk_at "at") => `(tactic| first | exact atI_nat (j := 0) rfl | exact atI_nat (j := 1) rfl | exact atI_nat (j := 2) rfl | exact atI_nat (j := 3) rfl | exact atI_nat (j := 4) rfl)
local macro_rules | `(tactic| walk_at "step1") => `(tactic| first
  | walk_at "go1"
  | (apply ixL_step; (case h => walk_at "hp"); (case a => walk_at "at"))
  | (apply ixT_step; (case h => walk_at "hp"); (case a => walk_at "at"))
  | (apply lenL_step; (case h => walk_at "hp")))
local macro_rules | `(tactic| walk_at "step") => `(tactic| repeat (walk_at "step1"))
def top (i : Nat) : Stmt := PySem.Challenge.pw_tollguess_k12_whole_as_it_is_now.main.body.getD i (.Pass ⟨0, 0, 0, 0⟩)
def k_SMALL_SIGNS : Str := "abcdefghijklmnopqrstuvwxyz"
def k_NAME_SIGNS : Str := "abcdefghijklmnopqrstuvwxyz0123456789"
abbrev s_wall : Stmt := top 1
abbrev n_wall : List Str := ["k"]
theorem sc_wall : FnScope n_wall ["k"] (defScope s_wall) := ⟨rfl, rfl, rfl, by decide +kernel, rfl, by decide +kernel, by decide +kernel⟩
abbrev s_rows_until : Stmt := top 16
abbrev n_rows_until : List Str := ["net", "gate", "limit", "goal", "gates", "ways", "rows", "fewest", "queue", "toll", "minutes", "turn", "road", "back", "name", "sees"]
theorem sc_rows_until : FnScope n_rows_until ["net", "gate", "limit", "goal"] (defScope s_rows_until) := ⟨rfl, rfl, rfl, by decide +kernel, rfl, by decide +kernel, by decide +kernel⟩
abbrev s_least : Stmt := top 17
abbrev n_least : List Str := ["rows", "name", "best", "place"]
theorem sc_least : FnScope n_least ["rows", "name"] (defScope s_least) := ⟨rfl, rfl, rfl, by decide +kernel, rfl, by decide +kernel, by decide +kernel⟩
abbrev s_roads_to : Stmt := top 18
abbrev n_roads_to : List Str := ["rows", "place", "roads", "name", "minutes", "toll", "road", "back"]
theorem sc_roads_to : FnScope n_roads_to ["rows", "place"] (defScope s_roads_to) := ⟨rfl, rfl, rfl, by decide +kernel, rfl, by decide +kernel, by decide +kernel⟩
abbrev s_ways_by_gate : Stmt := top 19
abbrev n_ways_by_gate : List Str := ["net", "turns", "ways", "turn", "name", "sees", "road", "one", "other", "minutes", "toll", "is_open"]
theorem sc_ways_by_gate : FnScope n_ways_by_gate ["net"] (defScope s_ways_by_gate) := ⟨rfl, rfl, rfl, by decide +kernel, rfl, by decide +kernel, by decide +kernel⟩
abbrev s_go_on : Stmt := top 20
abbrev n_go_on : List Str := ["queue", "rows", "ways", "limit", "back", "name", "minutes", "toll", "last", "ahead", "road", "turn", "more_minutes", "more_toll"]
theorem sc_go_on : FnScope n_go_on ["queue", "rows", "ways", "limit"] (defScope s_go_on) := ⟨rfl, rfl, rfl, by decide +kernel, rfl, by decide +kernel, by decide +kernel⟩
abbrev s_leg : Stmt := top 22
abbrev n_leg : List Str := ["net", "one", "other", "limit", "rows", "place", "name", "minutes", "toll", "road", "back"]
theorem sc_leg : FnScope n_leg ["net", "one", "other", "limit"] (defScope s_leg) := ⟨rfl, rfl, rfl, by decide +kernel, rfl, by decide +kernel, by decide +kernel⟩
abbrev s_guess : Stmt := top 24
abbrev n_guess : List Str := ["net", "seen", "time", "gate", "toll", "roads", "passed", "place", "later", "other", "found", "cost", "minutes", "numbers"]
theorem sc_guess : FnScope n_guess ["net", "seen"] (defScope s_guess) := ⟨rfl, rfl, rfl, by decide +kernel, rfl, by decide +kernel, by decide +kernel⟩
abbrev s_need_sightings : Stmt := top 25
abbrev n_need_sightings : List Str := ["net", "seen", "ahead", "time", "gate"]
theorem sc_need_sightings : FnScope n_need_sightings ["net", "seen"] (defScope s_need_sightings) := ⟨rfl, rfl, rfl, by decide +kernel, rfl, by decide +kernel, by decide +kernel⟩
abbrev s_passed_between : Stmt := top 26
abbrev n_passed_between : List Str := ["net", "numbers", "time", "rows", "passed", "number", "one", "other", "minutes", "toll", "is_open"]
theorem sc_passed_between : FnScope n_passed_between ["net", "numbers", "time"] (defScope s_passed_between) := ⟨rfl, rfl, rfl, by decide +kernel, rfl, by decide +kernel, by decide +kernel⟩
abbrev s_bill : Stmt := top 28
abbrev n_bill : List Str := ["watch", "rows", "car", "told"]
theorem sc_bill : FnScope n_bill ["watch"] (defScope s_bill) := ⟨rfl, rfl, rfl, by decide +kernel, rfl, by decide +kernel, by decide +kernel⟩
abbrev s_total : Stmt := top 29
abbrev n_total : List Str := ["watch", "car", "toll"]
theorem sc_total : FnScope n_total ["watch"] (defScope s_total) := ⟨rfl, rfl, rfl, by decide +kernel, rfl, by decide +kernel, by decide +kernel⟩
abbrev s_is_name : Stmt := top 38
abbrev n_is_name : List Str := ["text", "sign"]
theorem sc_is_name : FnScope n_is_name ["text"] (defScope s_is_name) := ⟨rfl, rfl, rfl, by decide +kernel, rfl, by decide +kernel, by decide +kernel⟩
abbrev s_N_init : Stmt := inClass (top 39) 0
abbrev n_N_init : List Str := ["self"]
theorem sc_N_init : FnScope n_N_init ["self"] (defScope s_N_init) := ⟨rfl, rfl, rfl, by decide +kernel, rfl, by decide +kernel, by decide +kernel⟩
abbrev s_N_gate : Stmt := inClass (top 39) 1
abbrev n_N_gate : List Str := ["self", "name", "sees"]
theorem sc_N_gate : FnScope n_N_gate ["self", "name", "sees"] (defScope s_N_gate) := ⟨rfl, rfl, rfl, by decide +kernel, rfl, by decide +kernel, by decide +kernel⟩
abbrev s_N_road : Stmt := inClass (top 39) 2
abbrev n_N_road : List Str := ["self", "one", "other", "minutes", "toll"]
theorem sc_N_road : FnScope n_N_road ["self", "one", "other", "minutes", "toll"] (defScope s_N_road) := ⟨rfl, rfl, rfl, by decide +kernel, rfl, by decide +kernel, by decide +kernel⟩
abbrev s_N_blind : Stmt := inClass (top 39) 3
abbrev n_N_blind : List Str := ["self", "name"]
theorem sc_N_blind : FnScope n_N_blind ["self", "name"] (defScope s_N_blind) := ⟨rfl, rfl, rfl, by decide +kernel, rfl, by decide +kernel, by decide +kernel⟩
abbrev s_N_mend : Stmt := inClass (top 39) 4
abbrev n_N_mend : List Str := ["self", "name"]
theorem sc_N_mend : FnScope n_N_mend ["self", "name"] (defScope s_N_mend) := ⟨rfl, rfl, rfl, by decide +kernel, rfl, by decide +kernel, by decide +kernel⟩
abbrev s_N_close : Stmt := inClass (top 39) 5
abbrev n_N_close : List Str := ["self", "number"]
theorem sc_N_close : FnScope n_N_close ["self", "number"] (defScope s_N_close) := ⟨rfl, rfl, rfl, by decide +kernel, rfl, by decide +kernel, by decide +kernel⟩
abbrev s_N_reopen : Stmt := inClass (top 39) 6
abbrev n_N_reopen : List Str := ["self", "number"]
theorem sc_N_reopen : FnScope n_N_reopen ["self", "number"] (defScope s_N_reopen) := ⟨rfl, rfl, rfl, by decide +kernel, rfl, by decide +kernel, by decide +kernel⟩
abbrev s_N_gates : Stmt := inClass (top 39) 7
abbrev n_N_gates : List Str := ["self"]
theorem sc_N_gates : FnScope n_N_gates ["self"] (defScope s_N_gates) := ⟨rfl, rfl, rfl, by decide +kernel, rfl, by decide +kernel, by decide +kernel⟩
abbrev s_N_roads : Stmt := inClass (top 39) 8
abbrev n_N_roads : List Str := ["self"]
theorem sc_N_roads : FnScope n_N_roads ["self"] (defScope s_N_roads) := ⟨rfl, rfl, rfl, by decide +kernel, rfl, by decide +kernel, by decide +kernel⟩
abbrev s_N_leaving : Stmt := inClass (top 39) 9
abbrev n_N_leaving : List Str := ["self", "name"]
theorem sc_N_leaving : FnScope n_N_leaving ["self", "name"] (defScope s_N_leaving) := ⟨rfl, rfl, rfl, by decide +kernel, rfl, by decide +kernel, by decide +kernel⟩
abbrev s_N_need_gate : Stmt := inClass (top 39) 10
abbrev n_N_need_gate : List Str := ["self", "name"]
theorem sc_N_need_gate : FnScope n_N_need_gate ["self", "name"] (defScope s_N_need_gate) := ⟨rfl, rfl, rfl, by decide +kernel, rfl, by decide +kernel, by decide +kernel⟩
abbrev s_N__turn_gate : Stmt := inClass (top 39) 11
abbrev n_N__turn_gate : List Str := ["self", "name", "sees"]
theorem sc_N__turn_gate : FnScope n_N__turn_gate ["self", "name", "sees"] (defScope s_N__turn_gate) := ⟨rfl, rfl, rfl, by decide +kernel, rfl, by decide +kernel, by decide +kernel⟩
abbrev s_N__turn_road : Stmt := inClass (top 39) 12
abbrev n_N__turn_road : List Str := ["self", "number", "is_open", "one", "other", "minutes", "toll", "was_open"]
theorem sc_N__turn_road : FnScope n_N__turn_road ["self", "number", "is_open"] (defScope s_N__turn_road) := ⟨rfl, rfl, rfl, by decide +kernel, rfl, by decide +kernel, by decide +kernel⟩
abbrev s_W_init : Stmt := inClass (top 42) 0
abbrev n_W_init : List Str := ["self", "net"]
theorem sc_W_init : FnScope n_W_init ["self", "net"] (defScope s_W_init) := ⟨rfl, rfl, rfl, by decide +kernel, rfl, by decide +kernel, by decide +kernel⟩
abbrev s_W_saw : Stmt := inClass (top 42) 1
abbrev n_W_saw : List Str := ["self", "car", "gate", "time", "sees", "kept"]
theorem sc_W_saw : FnScope n_W_saw ["self", "car", "gate", "time"] (defScope s_W_saw) := ⟨rfl, rfl, rfl, by decide +kernel, rfl, by decide +kernel, by decide +kernel⟩
abbrev s_W_seen : Stmt := inClass (top 42) 2
abbrev n_W_seen : List Str := ["self", "car"]
theorem sc_W_seen : FnScope n_W_seen ["self", "car"] (defScope s_W_seen) := ⟨rfl, rfl, rfl, by decide +kernel, rfl, by decide +kernel, by decide +kernel⟩
abbrev s_W_cars : Stmt := inClass (top 42) 3
abbrev n_W_cars : List Str := ["self"]
theorem sc_W_cars : FnScope n_W_cars ["self"] (defScope s_W_cars) := ⟨rfl, rfl, rfl, by decide +kernel, rfl, by decide +kernel, by decide +kernel⟩
abbrev s_W_forget : Stmt := inClass (top 42) 4
abbrev n_W_forget : List Str := ["self", "car"]
theorem sc_W_forget : FnScope n_W_forget ["self", "car"] (defScope s_W_forget) := ⟨rfl, rfl, rfl, by decide +kernel, rfl, by decide +kernel, by decide +kernel⟩
abbrev s_W__need_car : Stmt := inClass (top 42) 5
abbrev n_W__need_car : List Str := ["self", "car"]
theorem sc_W__need_car : FnScope n_W__need_car ["self", "car"] (defScope s_W__need_car) := ⟨rfl, rfl, rfl, by decide +kernel, rfl, by decide +kernel, by decide +kernel⟩
abbrev s_l_cell_at : Stmt := top 44
abbrev n_l_cell_at : List Str := ["_law_script", "_law_k"]
theorem sc_l_cell_at : FnScope n_l_cell_at ["_law_script", "_law_k"] (defScope s_l_cell_at) := ⟨rfl, rfl, rfl, by decide +kernel, rfl, by decide +kernel, by decide +kernel⟩
abbrev s_l_whole : Stmt := top 45
abbrev n_l_whole : List Str := ["_law_found"]
theorem sc_l_whole : FnScope n_l_whole ["_law_found"] (defScope s_l_whole) := ⟨rfl, rfl, rfl, by decide +kernel, rfl, by decide +kernel, by decide +kernel⟩
abbrev s_l_mixed : Stmt := top 46
abbrev n_l_mixed : List Str := ["_law_script", "_law_k", "_law_cell", "_law_more"]
theorem sc_l_mixed : FnScope n_l_mixed ["_law_script", "_law_k"] (defScope s_l_mixed) := ⟨rfl, rfl, rfl, by decide +kernel, rfl, by decide +kernel, by decide +kernel⟩
abbrev s_l_name : Stmt := top 47
abbrev n_l_name : List Str := ["_law_base", "_law_turn", "_law_some", "_law_signs", "_law_size", "_law_at", "_law_k"]
theorem sc_l_name : FnScope n_l_name ["_law_base", "_law_turn"] (defScope s_l_name) := ⟨rfl, rfl, rfl, by decide +kernel, rfl, by decide +kernel, by decide +kernel⟩
abbrev s_l_gates : Stmt := top 48
abbrev n_l_gates : List Str := ["_law_script", "_law_base", "_law_count", "_law_gates_here", "_law_turn"]
theorem sc_l_gates : FnScope n_l_gates ["_law_script", "_law_base"] (defScope s_l_gates) := ⟨rfl, rfl, rfl, by decide +kernel, rfl, by decide +kernel, by decide +kernel⟩
abbrev s_l_line : Stmt := top 49
abbrev n_l_line : List Str := ["_law_number", "_law_gates_here", "_law_unit_here", "_law_one", "_law_other", "_law_way", "_law_toll", "_law_minutes"]
theorem sc_l_line : FnScope n_l_line ["_law_number", "_law_gates_here", "_law_unit_here"] (defScope s_l_line) := ⟨rfl, rfl, rfl, by decide +kernel, rfl, by decide +kernel, by decide +kernel⟩
abbrev s_l_lines : Stmt := top 50
abbrev n_l_lines : List Str := ["_law_script", "_law_gates_here", "_law_unit_here", "_law_many", "_law_k"]
theorem sc_l_lines : FnScope n_l_lines ["_law_script", "_law_gates_here", "_law_unit_here"] (defScope s_l_lines) := ⟨rfl, rfl, rfl, by decide +kernel, rfl, by decide +kernel, by decide +kernel⟩
abbrev s_l_unit : Stmt := top 51
abbrev n_l_unit : List Str := ["_law_script"]
theorem sc_l_unit : FnScope n_l_unit ["_law_script"] (defScope s_l_unit) := ⟨rfl, rfl, rfl, by decide +kernel, rfl, by decide +kernel, by decide +kernel⟩
abbrev s_l_net : Stmt := top 52
abbrev n_l_net : List Str := ["_law_gates_here", "_law_lines_here", "_law_net_here", "_law_gate", "_law_line_here", "_law_number"]
theorem sc_l_net : FnScope n_l_net ["_law_gates_here", "_law_lines_here"] (defScope s_l_net) := ⟨rfl, rfl, rfl, by decide +kernel, rfl, by decide +kernel, by decide +kernel⟩
abbrev s_l_costs : Stmt := top 53
abbrev n_l_costs : List Str := ["_law_lines_here", "_law_sees", "_law_one", "_law_most", "_law_unit_here", "_law_costs_here", "_law_m", "_law_line_here", "_law_ahead", "_law_toll", "_law_more"]
theorem sc_l_costs : FnScope n_l_costs ["_law_lines_here", "_law_sees", "_law_one", "_law_most", "_law_unit_here"] (defScope s_l_costs) := ⟨rfl, rfl, rfl, by decide +kernel, rfl, by decide +kernel, by decide +kernel⟩
abbrev s_l_least : Stmt := top 54
abbrev n_l_least : List Str := ["_law_costs_here", "_law_other", "_law_best", "_law_m"]
theorem sc_l_least : FnScope n_l_least ["_law_costs_here", "_law_other"] (defScope s_l_least) := ⟨rfl, rfl, rfl, by decide +kernel, rfl, by decide +kernel, by decide +kernel⟩
abbrev s_l_due : Stmt := top 55
abbrev n_l_due : List Str := ["_law_seen", "_law_lines_here", "_law_sees", "_law_toll", "_law_k", "_law_costs_here", "_law_best"]
theorem sc_l_due : FnScope n_l_due ["_law_seen", "_law_lines_here", "_law_sees"] (defScope s_l_due) := ⟨rfl, rfl, rfl, by decide +kernel, rfl, by decide +kernel, by decide +kernel⟩
abbrev s_l_turned : Stmt := top 56
abbrev n_l_turned : List Str := ["_law_net_here", "_law_gates_here", "_law_lines_here", "_law_number", "_law_gate", "_law_line_here"]
theorem sc_l_turned : FnScope n_l_turned ["_law_net_here", "_law_gates_here", "_law_lines_here", "_law_number"] (defScope s_l_turned) := ⟨rfl, rfl, rfl, by decide +kernel, rfl, by decide +kernel, by decide +kernel⟩
abbrev s_l_sighted : Stmt := top 57
abbrev n_l_sighted : List Str := ["_law_watch", "_law_own", "_law_car", "_law_gates_here", "_law_number", "_law_lag", "_law_gate", "_law_time", "_law_pair"]
theorem sc_l_sighted : FnScope n_l_sighted ["_law_watch", "_law_own", "_law_car", "_law_gates_here", "_law_number", "_law_lag"] (defScope s_l_sighted) := ⟨rfl, rfl, rfl, by decide +kernel, rfl, by decide +kernel, by decide +kernel⟩
abbrev s_l_bill_stands : Stmt := top 58
abbrev n_l_bill_stands : List Str := ["_law_watch", "_law_dues", "_law_kept", "_law_found", "_law_pair", "_law_sums"]
theorem sc_l_bill_stands : FnScope n_l_bill_stands ["_law_watch", "_law_dues", "_law_kept"] (defScope s_l_bill_stands) := ⟨rfl, rfl, rfl, by decide +kernel, rfl, by decide +kernel, by decide +kernel⟩
abbrev s_l_leg_stands : Stmt := top 59
abbrev n_l_leg_stands : List Str := ["_law_net_here", "_law_seen", "_law_sees", "_law_lines_here", "_law_limit", "_law_due_here", "_law_found"]
theorem sc_l_leg_stands : FnScope n_l_leg_stands ["_law_net_here", "_law_seen", "_law_sees", "_law_lines_here"] (defScope s_l_leg_stands) := ⟨rfl, rfl, rfl, by decide +kernel, rfl, by decide +kernel, by decide +kernel⟩
abbrev s_l_guesses_stand : Stmt := top 60
abbrev n_l_guesses_stand : List Str := ["_law_net_here", "_law_own", "_law_dues", "_law_kept", "_law_k", "_law_found"]
theorem sc_l_guesses_stand : FnScope n_l_guesses_stand ["_law_net_here", "_law_own", "_law_dues", "_law_kept"] (defScope s_l_guesses_stand) := ⟨rfl, rfl, rfl, by decide +kernel, rfl, by decide +kernel, by decide +kernel⟩
abbrev s_l_stands : Stmt := top 61
abbrev n_l_stands : List Str := ["_law_net_here", "_law_watch", "_law_own", "_law_gates_here", "_law_lines_here", "_law_kept", "_law_sees", "_law_gate", "_law_dues", "_law_rows", "_law_first", "_law_car", "_law_due_here"]
theorem sc_l_stands : FnScope n_l_stands ["_law_net_here", "_law_watch", "_law_own", "_law_gates_here", "_law_lines_here", "_law_kept"] (defScope s_l_stands) := ⟨rfl, rfl, rfl, by decide +kernel, rfl, by decide +kernel, by decide +kernel⟩
abbrev s_l_kept_well : Stmt := top 62
abbrev n_l_kept_well : List Str := ["_law_kept", "_law_pair"]
theorem sc_l_kept_well : FnScope n_l_kept_well ["_law_kept"] (defScope s_l_kept_well) := ⟨rfl, rfl, rfl, by decide +kernel, rfl, by decide +kernel, by decide +kernel⟩
abbrev s_law : Stmt := top 63
abbrev n_law : List Str := ["_law_script", "_law_base", "_law_gates_here", "_law_lines_here", "_law_net_here", "_law_watch", "_law_own", "_law_cars", "_law_kept", "_law_k", "_law_number", "_law_car", "_law_turn"]
theorem sc_law : FnScope n_law ["_law_script"] (defScope s_law) := ⟨rfl, rfl, rfl, by decide +kernel, rfl, by decide +kernel, by decide +kernel⟩
structure Ads where
  wall : Addr
  rows_until : Addr
  least : Addr
  roads_to : Addr
  ways_by_gate : Addr
  go_on : Addr
  leg : Addr
  guess : Addr
  need_sightings : Addr
  passed_between : Addr
  bill : Addr
  total : Addr
  is_name : Addr
  N_init : Addr
  N_gate : Addr
  N_road : Addr
  N_blind : Addr
  N_mend : Addr
  N_close : Addr
  N_reopen : Addr
  N_gates : Addr
  N_roads : Addr
  N_leaving : Addr
  N_need_gate : Addr
  N__turn_gate : Addr
  N__turn_road : Addr
  W_init : Addr
  W_saw : Addr
  W_seen : Addr
  W_cars : Addr
  W_forget : Addr
  W__need_car : Addr
  l_cell_at : Addr
  l_whole : Addr
  l_mixed : Addr
  l_name : Addr
  l_line : Addr
  l_net : Addr
  l_costs : Addr
  l_least : Addr
  l_due : Addr
  l_turned : Addr
  l_sighted : Addr
  l_bill_stands : Addr
  l_leg_stands : Addr
  l_guesses_stand : Addr
  l_stands : Addr
  l_kept_well : Addr
  law : Addr
  C_Net : Addr
  C_Watch : Addr
  C_NoName : Addr
  C_SameGate : Addr
  C_FullNet : Addr
  C_NoGate : Addr
  C_NoNumber : Addr
  C_NoRoad : Addr
  C_Already : Addr
  C_NoTime : Addr
  C_Blind : Addr
  C_NoCar : Addr
  C_NoSight : Addr
  tSMALL_SIGNS : Tok
  tMOST_SIGNS : Tok
  tNAME_SIGNS : Tok
  tMOST_GATES : Tok
  tMOST_ROADS : Tok
  tMOST_MINUTES : Tok
  tMOST_TOLL : Tok
  tLAST_TIME : Tok
structure Txt (K : PySem.W.Frag) (mg : Str → Option Value) (A : Ads) : Prop where
  m_wall : mg "_wall" = some (.ref A.wall)
  F_wall : ∃ fd, Fun K "_wall" "_wall" s_wall A.wall fd
  m_rows_until : mg "rows_until" = some (.ref A.rows_until)
  F_rows_until : ∃ fd, Fun K "rows_until" "rows_until" s_rows_until A.rows_until fd
  m_least : mg "least" = some (.ref A.least)
  F_least : ∃ fd, Fun K "least" "least" s_least A.least fd
  m_roads_to : mg "roads_to" = some (.ref A.roads_to)
  F_roads_to : ∃ fd, Fun K "roads_to" "roads_to" s_roads_to A.roads_to fd
  m_ways_by_gate : mg "_ways_by_gate" = some (.ref A.ways_by_gate)
  F_ways_by_gate : ∃ fd, Fun K "_ways_by_gate" "_ways_by_gate" s_ways_by_gate A.ways_by_gate fd
  m_go_on : mg "_go_on" = some (.ref A.go_on)
  F_go_on : ∃ fd, Fun K "_go_on" "_go_on" s_go_on A.go_on fd
  m_leg : mg "leg" = some (.ref A.leg)
  F_leg : ∃ fd, Fun K "leg" "leg" s_leg A.leg fd
  m_guess : mg "guess" = some (.ref A.guess)
  F_guess : ∃ fd, Fun K "guess" "guess" s_guess A.guess fd
  m_need_sightings : mg "_need_sightings" = some (.ref A.need_sightings)
  F_need_sightings : ∃ fd, Fun K "_need_sightings" "_need_sightings" s_need_sightings A.need_sightings fd
  m_passed_between : mg "_passed_between" = some (.ref A.passed_between)
  F_passed_between : ∃ fd, Fun K "_passed_between" "_passed_between" s_passed_between A.passed_between fd
  m_bill : mg "bill" = some (.ref A.bill)
  F_bill : ∃ fd, Fun K "bill" "bill" s_bill A.bill fd
  m_total : mg "total" = some (.ref A.total)
  F_total : ∃ fd, Fun K "total" "total" s_total A.total fd
  m_is_name : mg "is_name" = some (.ref A.is_name)
  F_is_name : ∃ fd, Fun K "is_name" "is_name" s_is_name A.is_name fd
  M_N_init : Meth K A.C_Net "__init__" A.N_init
  F_N_init : ∃ fd, Fun K "__init__" "Net.__init__" s_N_init A.N_init fd
  M_N_gate : Meth K A.C_Net "gate" A.N_gate
  F_N_gate : ∃ fd, Fun K "gate" "Net.gate" s_N_gate A.N_gate fd
  M_N_road : Meth K A.C_Net "road" A.N_road
  F_N_road : ∃ fd, Fun K "road" "Net.road" s_N_road A.N_road fd
  M_N_blind : Meth K A.C_Net "blind" A.N_blind
  F_N_blind : ∃ fd, Fun K "blind" "Net.blind" s_N_blind A.N_blind fd
  M_N_mend : Meth K A.C_Net "mend" A.N_mend
  F_N_mend : ∃ fd, Fun K "mend" "Net.mend" s_N_mend A.N_mend fd
  M_N_close : Meth K A.C_Net "close" A.N_close
  F_N_close : ∃ fd, Fun K "close" "Net.close" s_N_close A.N_close fd
  M_N_reopen : Meth K A.C_Net "reopen" A.N_reopen
  F_N_reopen : ∃ fd, Fun K "reopen" "Net.reopen" s_N_reopen A.N_reopen fd
  M_N_gates : Meth K A.C_Net "gates" A.N_gates
  F_N_gates : ∃ fd, Fun K "gates" "Net.gates" s_N_gates A.N_gates fd
  M_N_roads : Meth K A.C_Net "roads" A.N_roads
  F_N_roads : ∃ fd, Fun K "roads" "Net.roads" s_N_roads A.N_roads fd
  M_N_leaving : Meth K A.C_Net "leaving" A.N_leaving
  F_N_leaving : ∃ fd, Fun K "leaving" "Net.leaving" s_N_leaving A.N_leaving fd
  M_N_need_gate : Meth K A.C_Net "need_gate" A.N_need_gate
  F_N_need_gate : ∃ fd, Fun K "need_gate" "Net.need_gate" s_N_need_gate A.N_need_gate fd
  M_N__turn_gate : Meth K A.C_Net "_turn_gate" A.N__turn_gate
  F_N__turn_gate : ∃ fd, Fun K "_turn_gate" "Net._turn_gate" s_N__turn_gate A.N__turn_gate fd
  M_N__turn_road : Meth K A.C_Net "_turn_road" A.N__turn_road
  F_N__turn_road : ∃ fd, Fun K "_turn_road" "Net._turn_road" s_N__turn_road A.N__turn_road fd
  M_W_init : Meth K A.C_Watch "__init__" A.W_init
  F_W_init : ∃ fd, Fun K "__init__" "Watch.__init__" s_W_init A.W_init fd
  M_W_saw : Meth K A.C_Watch "saw" A.W_saw
  F_W_saw : ∃ fd, Fun K "saw" "Watch.saw" s_W_saw A.W_saw fd
  M_W_seen : Meth K A.C_Watch "seen" A.W_seen
  F_W_seen : ∃ fd, Fun K "seen" "Watch.seen" s_W_seen A.W_seen fd
  M_W_cars : Meth K A.C_Watch "cars" A.W_cars
  F_W_cars : ∃ fd, Fun K "cars" "Watch.cars" s_W_cars A.W_cars fd
  M_W_forget : Meth K A.C_Watch "forget" A.W_forget
  F_W_forget : ∃ fd, Fun K "forget" "Watch.forget" s_W_forget A.W_forget fd
  M_W__need_car : Meth K A.C_Watch "_need_car" A.W__need_car
  F_W__need_car : ∃ fd, Fun K "_need_car" "Watch._need_car" s_W__need_car A.W__need_car fd
  m_l_cell_at : mg "_law_cell_at" = some (.ref A.l_cell_at)
  F_l_cell_at : ∃ fd, Fun K "_law_cell_at" "_law_cell_at" s_l_cell_at A.l_cell_at fd
  m_l_whole : mg "_law_whole" = some (.ref A.l_whole)
  F_l_whole : ∃ fd, Fun K "_law_whole" "_law_whole" s_l_whole A.l_whole fd
  m_l_mixed : mg "_law_mixed" = some (.ref A.l_mixed)
  F_l_mixed : ∃ fd, Fun K "_law_mixed" "_law_mixed" s_l_mixed A.l_mixed fd
  m_l_name : mg "_law_name" = some (.ref A.l_name)
  F_l_name : ∃ fd, Fun K "_law_name" "_law_name" s_l_name A.l_name fd
  m_l_line : mg "_law_line" = some (.ref A.l_line)
  F_l_line : ∃ fd, Fun K "_law_line" "_law_line" s_l_line A.l_line fd
  m_l_net : mg "_law_net" = some (.ref A.l_net)
  F_l_net : ∃ fd, Fun K "_law_net" "_law_net" s_l_net A.l_net fd
  m_l_costs : mg "_law_costs" = some (.ref A.l_costs)
  F_l_costs : ∃ fd, Fun K "_law_costs" "_law_costs" s_l_costs A.l_costs fd
  m_l_least : mg "_law_least" = some (.ref A.l_least)
  F_l_least : ∃ fd, Fun K "_law_least" "_law_least" s_l_least A.l_least fd
  m_l_due : mg "_law_due" = some (.ref A.l_due)
  F_l_due : ∃ fd, Fun K "_law_due" "_law_due" s_l_due A.l_due fd
  m_l_turned : mg "_law_turned" = some (.ref A.l_turned)
  F_l_turned : ∃ fd, Fun K "_law_turned" "_law_turned" s_l_turned A.l_turned fd
  m_l_sighted : mg "_law_sighted" = some (.ref A.l_sighted)
  F_l_sighted : ∃ fd, Fun K "_law_sighted" "_law_sighted" s_l_sighted A.l_sighted fd
  m_l_bill_stands : mg "_law_bill_stands" = some (.ref A.l_bill_stands)
  F_l_bill_stands : ∃ fd, Fun K "_law_bill_stands" "_law_bill_stands" s_l_bill_stands A.l_bill_stands fd
  m_l_leg_stands : mg "_law_leg_stands" = some (.ref A.l_leg_stands)
  F_l_leg_stands : ∃ fd, Fun K "_law_leg_stands" "_law_leg_stands" s_l_leg_stands A.l_leg_stands fd
  m_l_guesses_stand : mg "_law_guesses_stand" = some (.ref A.l_guesses_stand)
  F_l_guesses_stand : ∃ fd, Fun K "_law_guesses_stand" "_law_guesses_stand" s_l_guesses_stand A.l_guesses_stand fd
  m_l_stands : mg "_law_stands" = some (.ref A.l_stands)
  F_l_stands : ∃ fd, Fun K "_law_stands" "_law_stands" s_l_stands A.l_stands fd
  m_l_kept_well : mg "_law_kept_well" = some (.ref A.l_kept_well)
  F_l_kept_well : ∃ fd, Fun K "_law_kept_well" "_law_kept_well" s_l_kept_well A.l_kept_well fd
  m_law : mg "law" = some (.ref A.law)
  F_law : ∃ fd, Fun K "law" "law" s_law A.law fd
  g_Net : mg "Net" = some (.ref A.C_Net)
  c_Net : Cls K A.C_Net
  M_Net : Mk K A.C_Net A.N_init
  na_Net__gates : NoAttr K A.C_Net "_gates"
  na_Net__roads : NoAttr K A.C_Net "_roads"
  g_Watch : mg "Watch" = some (.ref A.C_Watch)
  c_Watch : Cls K A.C_Watch
  M_Watch : Mk K A.C_Watch A.W_init
  na_Watch__sightings : NoAttr K A.C_Watch "_sightings"
  na_Watch_net : NoAttr K A.C_Watch "net"
  e_NoName : ErrC K mg "NoName" A.C_NoName
  e_SameGate : ErrC K mg "SameGate" A.C_SameGate
  e_FullNet : ErrC K mg "FullNet" A.C_FullNet
  e_NoGate : ErrC K mg "NoGate" A.C_NoGate
  e_NoNumber : ErrC K mg "NoNumber" A.C_NoNumber
  e_NoRoad : ErrC K mg "NoRoad" A.C_NoRoad
  e_Already : ErrC K mg "Already" A.C_Already
  e_NoTime : ErrC K mg "NoTime" A.C_NoTime
  e_Blind : ErrC K mg "Blind" A.C_Blind
  e_NoCar : ErrC K mg "NoCar" A.C_NoCar
  e_NoSight : ErrC K mg "NoSight" A.C_NoSight
  v_NoName_NoName : PySem.W.subIn K (.ref A.C_NoName) (.ref A.C_NoName) = some true
  v_NoName_SameGate : PySem.W.subIn K (.ref A.C_NoName) (.ref A.C_SameGate) = some false
  v_NoName_FullNet : PySem.W.subIn K (.ref A.C_NoName) (.ref A.C_FullNet) = some false
  v_NoName_NoGate : PySem.W.subIn K (.ref A.C_NoName) (.ref A.C_NoGate) = some false
  v_NoName_NoNumber : PySem.W.subIn K (.ref A.C_NoName) (.ref A.C_NoNumber) = some false
  v_NoName_NoRoad : PySem.W.subIn K (.ref A.C_NoName) (.ref A.C_NoRoad) = some false
  v_NoName_Already : PySem.W.subIn K (.ref A.C_NoName) (.ref A.C_Already) = some false
  v_NoName_NoTime : PySem.W.subIn K (.ref A.C_NoName) (.ref A.C_NoTime) = some false
  v_NoName_Blind : PySem.W.subIn K (.ref A.C_NoName) (.ref A.C_Blind) = some false
  v_NoName_NoCar : PySem.W.subIn K (.ref A.C_NoName) (.ref A.C_NoCar) = some false
  v_NoName_NoSight : PySem.W.subIn K (.ref A.C_NoName) (.ref A.C_NoSight) = some false
  v_SameGate_NoName : PySem.W.subIn K (.ref A.C_SameGate) (.ref A.C_NoName) = some false
  v_SameGate_SameGate : PySem.W.subIn K (.ref A.C_SameGate) (.ref A.C_SameGate) = some true
  v_SameGate_FullNet : PySem.W.subIn K (.ref A.C_SameGate) (.ref A.C_FullNet) = some false
  v_SameGate_NoGate : PySem.W.subIn K (.ref A.C_SameGate) (.ref A.C_NoGate) = some false
  v_SameGate_NoNumber : PySem.W.subIn K (.ref A.C_SameGate) (.ref A.C_NoNumber) = some false
  v_SameGate_NoRoad : PySem.W.subIn K (.ref A.C_SameGate) (.ref A.C_NoRoad) = some false
  v_SameGate_Already : PySem.W.subIn K (.ref A.C_SameGate) (.ref A.C_Already) = some false
  v_SameGate_NoTime : PySem.W.subIn K (.ref A.C_SameGate) (.ref A.C_NoTime) = some false
  v_SameGate_Blind : PySem.W.subIn K (.ref A.C_SameGate) (.ref A.C_Blind) = some false
  v_SameGate_NoCar : PySem.W.subIn K (.ref A.C_SameGate) (.ref A.C_NoCar) = some false
  v_SameGate_NoSight : PySem.W.subIn K (.ref A.C_SameGate) (.ref A.C_NoSight) = some false
  v_FullNet_NoName : PySem.W.subIn K (.ref A.C_FullNet) (.ref A.C_NoName) = some false
  v_FullNet_SameGate : PySem.W.subIn K (.ref A.C_FullNet) (.ref A.C_SameGate) = some false
  v_FullNet_FullNet : PySem.W.subIn K (.ref A.C_FullNet) (.ref A.C_FullNet) = some true
  v_FullNet_NoGate : PySem.W.subIn K (.ref A.C_FullNet) (.ref A.C_NoGate) = some false
  v_FullNet_NoNumber : PySem.W.subIn K (.ref A.C_FullNet) (.ref A.C_NoNumber) = some false
  v_FullNet_NoRoad : PySem.W.subIn K (.ref A.C_FullNet) (.ref A.C_NoRoad) = some false
  v_FullNet_Already : PySem.W.subIn K (.ref A.C_FullNet) (.ref A.C_Already) = some false
  v_FullNet_NoTime : PySem.W.subIn K (.ref A.C_FullNet) (.ref A.C_NoTime) = some false
  v_FullNet_Blind : PySem.W.subIn K (.ref A.C_FullNet) (.ref A.C_Blind) = some false
  v_FullNet_NoCar : PySem.W.subIn K (.ref A.C_FullNet) (.ref A.C_NoCar) = some false
  v_FullNet_NoSight : PySem.W.subIn K (.ref A.C_FullNet) (.ref A.C_NoSight) = some false
  v_NoGate_NoName : PySem.W.subIn K (.ref A.C_NoGate) (.ref A.C_NoName) = some false
  v_NoGate_SameGate : PySem.W.subIn K (.ref A.C_NoGate) (.ref A.C_SameGate) = some false
  v_NoGate_FullNet : PySem.W.subIn K (.ref A.C_NoGate) (.ref A.C_FullNet) = some false
  v_NoGate_NoGate : PySem.W.subIn K (.ref A.C_NoGate) (.ref A.C_NoGate) = some true
  v_NoGate_NoNumber : PySem.W.subIn K (.ref A.C_NoGate) (.ref A.C_NoNumber) = some false
  v_NoGate_NoRoad : PySem.W.subIn K (.ref A.C_NoGate) (.ref A.C_NoRoad) = some false
  v_NoGate_Already : PySem.W.subIn K (.ref A.C_NoGate) (.ref A.C_Already) = some false
  v_NoGate_NoTime : PySem.W.subIn K (.ref A.C_NoGate) (.ref A.C_NoTime) = some false
  v_NoGate_Blind : PySem.W.subIn K (.ref A.C_NoGate) (.ref A.C_Blind) = some false
  v_NoGate_NoCar : PySem.W.subIn K (.ref A.C_NoGate) (.ref A.C_NoCar) = some false
  v_NoGate_NoSight : PySem.W.subIn K (.ref A.C_NoGate) (.ref A.C_NoSight) = some false
  v_NoNumber_NoName : PySem.W.subIn K (.ref A.C_NoNumber) (.ref A.C_NoName) = some false
  v_NoNumber_SameGate : PySem.W.subIn K (.ref A.C_NoNumber) (.ref A.C_SameGate) = some false
  v_NoNumber_FullNet : PySem.W.subIn K (.ref A.C_NoNumber) (.ref A.C_FullNet) = some false
  v_NoNumber_NoGate : PySem.W.subIn K (.ref A.C_NoNumber) (.ref A.C_NoGate) = some false
  v_NoNumber_NoNumber : PySem.W.subIn K (.ref A.C_NoNumber) (.ref A.C_NoNumber) = some true
  v_NoNumber_NoRoad : PySem.W.subIn K (.ref A.C_NoNumber) (.ref A.C_NoRoad) = some false
  v_NoNumber_Already : PySem.W.subIn K (.ref A.C_NoNumber) (.ref A.C_Already) = some false
  v_NoNumber_NoTime : PySem.W.subIn K (.ref A.C_NoNumber) (.ref A.C_NoTime) = some false
  v_NoNumber_Blind : PySem.W.subIn K (.ref A.C_NoNumber) (.ref A.C_Blind) = some false
  v_NoNumber_NoCar : PySem.W.subIn K (.ref A.C_NoNumber) (.ref A.C_NoCar) = some false
  v_NoNumber_NoSight : PySem.W.subIn K (.ref A.C_NoNumber) (.ref A.C_NoSight) = some false
  v_NoRoad_NoName : PySem.W.subIn K (.ref A.C_NoRoad) (.ref A.C_NoName) = some false
  v_NoRoad_SameGate : PySem.W.subIn K (.ref A.C_NoRoad) (.ref A.C_SameGate) = some false
  v_NoRoad_FullNet : PySem.W.subIn K (.ref A.C_NoRoad) (.ref A.C_FullNet) = some false
  v_NoRoad_NoGate : PySem.W.subIn K (.ref A.C_NoRoad) (.ref A.C_NoGate) = some false
  v_NoRoad_NoNumber : PySem.W.subIn K (.ref A.C_NoRoad) (.ref A.C_NoNumber) = some false
  v_NoRoad_NoRoad : PySem.W.subIn K (.ref A.C_NoRoad) (.ref A.C_NoRoad) = some true
  v_NoRoad_Already : PySem.W.subIn K (.ref A.C_NoRoad) (.ref A.C_Already) = some false
  v_NoRoad_NoTime : PySem.W.subIn K (.ref A.C_NoRoad) (.ref A.C_NoTime) = some false
  v_NoRoad_Blind : PySem.W.subIn K (.ref A.C_NoRoad) (.ref A.C_Blind) = some false
  v_NoRoad_NoCar : PySem.W.subIn K (.ref A.C_NoRoad) (.ref A.C_NoCar) = some false
  v_NoRoad_NoSight : PySem.W.subIn K (.ref A.C_NoRoad) (.ref A.C_NoSight) = some false
  v_Already_NoName : PySem.W.subIn K (.ref A.C_Already) (.ref A.C_NoName) = some false
  v_Already_SameGate : PySem.W.subIn K (.ref A.C_Already) (.ref A.C_SameGate) = some false
  v_Already_FullNet : PySem.W.subIn K (.ref A.C_Already) (.ref A.C_FullNet) = some false
  v_Already_NoGate : PySem.W.subIn K (.ref A.C_Already) (.ref A.C_NoGate) = some false
  v_Already_NoNumber : PySem.W.subIn K (.ref A.C_Already) (.ref A.C_NoNumber) = some false
  v_Already_NoRoad : PySem.W.subIn K (.ref A.C_Already) (.ref A.C_NoRoad) = some false
  v_Already_Already : PySem.W.subIn K (.ref A.C_Already) (.ref A.C_Already) = some true
  v_Already_NoTime : PySem.W.subIn K (.ref A.C_Already) (.ref A.C_NoTime) = some false
  v_Already_Blind : PySem.W.subIn K (.ref A.C_Already) (.ref A.C_Blind) = some false
  v_Already_NoCar : PySem.W.subIn K (.ref A.C_Already) (.ref A.C_NoCar) = some false
  v_Already_NoSight : PySem.W.subIn K (.ref A.C_Already) (.ref A.C_NoSight) = some false
  v_NoTime_NoName : PySem.W.subIn K (.ref A.C_NoTime) (.ref A.C_NoName) = some false
  v_NoTime_SameGate : PySem.W.subIn K (.ref A.C_NoTime) (.ref A.C_SameGate) = some false
  v_NoTime_FullNet : PySem.W.subIn K (.ref A.C_NoTime) (.ref A.C_FullNet) = some false
  v_NoTime_NoGate : PySem.W.subIn K (.ref A.C_NoTime) (.ref A.C_NoGate) = some false
  v_NoTime_NoNumber : PySem.W.subIn K (.ref A.C_NoTime) (.ref A.C_NoNumber) = some false
  v_NoTime_NoRoad : PySem.W.subIn K (.ref A.C_NoTime) (.ref A.C_NoRoad) = some false
  v_NoTime_Already : PySem.W.subIn K (.ref A.C_NoTime) (.ref A.C_Already) = some false
  v_NoTime_NoTime : PySem.W.subIn K (.ref A.C_NoTime) (.ref A.C_NoTime) = some true
  v_NoTime_Blind : PySem.W.subIn K (.ref A.C_NoTime) (.ref A.C_Blind) = some false
  v_NoTime_NoCar : PySem.W.subIn K (.ref A.C_NoTime) (.ref A.C_NoCar) = some false
  v_NoTime_NoSight : PySem.W.subIn K (.ref A.C_NoTime) (.ref A.C_NoSight) = some false
  v_Blind_NoName : PySem.W.subIn K (.ref A.C_Blind) (.ref A.C_NoName) = some false
  v_Blind_SameGate : PySem.W.subIn K (.ref A.C_Blind) (.ref A.C_SameGate) = some false
  v_Blind_FullNet : PySem.W.subIn K (.ref A.C_Blind) (.ref A.C_FullNet) = some false
  v_Blind_NoGate : PySem.W.subIn K (.ref A.C_Blind) (.ref A.C_NoGate) = some false
  v_Blind_NoNumber : PySem.W.subIn K (.ref A.C_Blind) (.ref A.C_NoNumber) = some false
  v_Blind_NoRoad : PySem.W.subIn K (.ref A.C_Blind) (.ref A.C_NoRoad) = some false
  v_Blind_Already : PySem.W.subIn K (.ref A.C_Blind) (.ref A.C_Already) = some false
  v_Blind_NoTime : PySem.W.subIn K (.ref A.C_Blind) (.ref A.C_NoTime) = some false
  v_Blind_Blind : PySem.W.subIn K (.ref A.C_Blind) (.ref A.C_Blind) = some true
  v_Blind_NoCar : PySem.W.subIn K (.ref A.C_Blind) (.ref A.C_NoCar) = some false
  v_Blind_NoSight : PySem.W.subIn K (.ref A.C_Blind) (.ref A.C_NoSight) = some false
  v_NoCar_NoName : PySem.W.subIn K (.ref A.C_NoCar) (.ref A.C_NoName) = some false
  v_NoCar_SameGate : PySem.W.subIn K (.ref A.C_NoCar) (.ref A.C_SameGate) = some false
  v_NoCar_FullNet : PySem.W.subIn K (.ref A.C_NoCar) (.ref A.C_FullNet) = some false
  v_NoCar_NoGate : PySem.W.subIn K (.ref A.C_NoCar) (.ref A.C_NoGate) = some false
  v_NoCar_NoNumber : PySem.W.subIn K (.ref A.C_NoCar) (.ref A.C_NoNumber) = some false
  v_NoCar_NoRoad : PySem.W.subIn K (.ref A.C_NoCar) (.ref A.C_NoRoad) = some false
  v_NoCar_Already : PySem.W.subIn K (.ref A.C_NoCar) (.ref A.C_Already) = some false
  v_NoCar_NoTime : PySem.W.subIn K (.ref A.C_NoCar) (.ref A.C_NoTime) = some false
  v_NoCar_Blind : PySem.W.subIn K (.ref A.C_NoCar) (.ref A.C_Blind) = some false
  v_NoCar_NoCar : PySem.W.subIn K (.ref A.C_NoCar) (.ref A.C_NoCar) = some true
  v_NoCar_NoSight : PySem.W.subIn K (.ref A.C_NoCar) (.ref A.C_NoSight) = some false
  v_NoSight_NoName : PySem.W.subIn K (.ref A.C_NoSight) (.ref A.C_NoName) = some false
  v_NoSight_SameGate : PySem.W.subIn K (.ref A.C_NoSight) (.ref A.C_SameGate) = some false
  v_NoSight_FullNet : PySem.W.subIn K (.ref A.C_NoSight) (.ref A.C_FullNet) = some false
  v_NoSight_NoGate : PySem.W.subIn K (.ref A.C_NoSight) (.ref A.C_NoGate) = some false
  v_NoSight_NoNumber : PySem.W.subIn K (.ref A.C_NoSight) (.ref A.C_NoNumber) = some false
  v_NoSight_NoRoad : PySem.W.subIn K (.ref A.C_NoSight) (.ref A.C_NoRoad) = some false
  v_NoSight_Already : PySem.W.subIn K (.ref A.C_NoSight) (.ref A.C_Already) = some false
  v_NoSight_NoTime : PySem.W.subIn K (.ref A.C_NoSight) (.ref A.C_NoTime) = some false
  v_NoSight_Blind : PySem.W.subIn K (.ref A.C_NoSight) (.ref A.C_Blind) = some false
  v_NoSight_NoCar : PySem.W.subIn K (.ref A.C_NoSight) (.ref A.C_NoCar) = some false
  v_NoSight_NoSight : PySem.W.subIn K (.ref A.C_NoSight) (.ref A.C_NoSight) = some true
  m_SMALL_SIGNS : mg "SMALL_SIGNS" = some (.str k_SMALL_SIGNS A.tSMALL_SIGNS)
  m_MOST_SIGNS : mg "MOST_SIGNS" = some (.int 8 A.tMOST_SIGNS)
  m_NAME_SIGNS : mg "NAME_SIGNS" = some (.str k_NAME_SIGNS A.tNAME_SIGNS)
  m_MOST_GATES : mg "MOST_GATES" = some (.int 60 A.tMOST_GATES)
  m_MOST_ROADS : mg "MOST_ROADS" = some (.int 200 A.tMOST_ROADS)
  m_MOST_MINUTES : mg "MOST_MINUTES" = some (.int 1000000 A.tMOST_MINUTES)
  m_MOST_TOLL : mg "MOST_TOLL" = some (.int 1000000 A.tMOST_TOLL)
  m_LAST_TIME : mg "LAST_TIME" = some (.int 1000000000 A.tLAST_TIME)
  b_range : mg "range" = none
  b_len : mg "len" = none
  b_enumerate : mg "enumerate" = none
  b_sum : mg "sum" = none
  b_all : mg "all" = none
  b_list : mg "list" = none
  b_dict : mg "dict" = none
  b_sorted : mg "sorted" = none
  b_isinstance : mg "isinstance" = none
  b_int : mg "int" = none
  b_bool : mg "bool" = none
  b_str : mg "str" = none
  b_max : mg "max" = none
  b_tuple : mg "tuple" = none
  b_min : mg "min" = none
  q_heappop : mg "heappop" = some (.builtin "_heapq.heappop")
  q_heappush : mg "heappush" = some (.builtin "_heapq.heappush")
section
variable {P : Program} {w : World} {K : PySem.W.Frag} {mg : Str → Option Value} {base : Heap} {A : Ads}
def spCell (K : PySem.W.Frag) : Sp := fun vs H Q _ => ∃ (a : Addr) (ns : List Int) (k : Int), vs = [.ref a, .int k] ∧ SqL K H a (ns.map V.int) ∧ 0 ≤ k ∧ Q (.int (cellAt ns k)) H
theorem ok_l_cell_at (T : Txt K mg A) : DefOk P w K mg base CX0 1 A.l_cell_at ["_law_script", "_law_k"] (spCell K) := by
  obtain ⟨fd, F⟩ := T.F_l_cell_at
  refine ⟨fd, ?_, F.binds (ps := ["_law_script", "_law_k"]) fun _ _ _ _ _ _ us hl => match us, hl with | [_, _], _ => rfl, F.kp⟩
  refine F.ok sc_l_cell_at (fun vs H Q E h => ?_) (fun cdv A outer s H vs Q E hr h => ?_)
  · obtain ⟨a, ns, k, rfl, _⟩ := h
    rfl
  · obtain ⟨a, ns, k, rfl, hS, hk, q⟩ := h
    refine ⟨_, (pss_cons (ps_if (pt_cmpR op_lt (pv 1) (pe_callB call_len_seq (by rfl) T.b_len PySem.boot_len (pa_cons (pv 0) pa_nil)) (nomark _)) (pss_one (ps_ret (pe_ix (r := rIxL K) ix_list (pv 0) (pv 1) (fun _ _ => rfl)))) pss_nil)
      (pss_one (ps_ret pe_int))), ?_⟩
    walk_at "go"
    refine ⟨_, _, rfl, .inl hS, ?_⟩
    walk_at "go"
    rw [List.length_map]
    unfold cellAt at q
    refine ite2 (fun h => ?_) (fun h => ?_)
    · have h1 : k < (ns.length : Int) := of_decide_eq_true h
      rw [if_pos h1] at q
      walk_at "go"
      refine ⟨_, _, _, _, rfl, rfl, hS, ?_, q⟩
      obtain ⟨j, rfl⟩ := Int.eq_ofNat_of_zero_le hk
      exact atI_nat (map_int_get (by omega))
    · have h1 : ¬ k < (ns.length : Int) := fun z => h (decide_eq_true z)
      rw [if_neg h1] at q
      exact q
def spMixed (K : PySem.W.Frag) : Sp := fun vs H Q _ => ∃ (a : Addr) (ns : List Int) (k : Int), vs = [.ref a, .int k] ∧ SqL K H a (ns.map V.int) ∧ 0 ≤ k ∧ k ≤ 1000000 ∧ Q (.int (mixed ns k)) H
theorem ok_l_mixed (T : Txt K mg A) : DefOk P w K mg base CX0 1 A.l_mixed ["_law_script", "_law_k"] (spMixed K) := by
  obtain ⟨fd, F⟩ := T.F_l_mixed
  refine ⟨fd, ?_, F.binds (ps := ["_law_script", "_law_k"]) fun _ _ _ _ _ _ us hl => match us, hl with | [_, _], _ => rfl, F.kp⟩
  refine F.ok sc_l_mixed (fun vs H Q E h => ?_) (fun cdv A outer s H vs Q E hr h => ?_)
  · obtain ⟨a, ns, k, rfl, _⟩ := h
    rfl
  · obtain ⟨a, ns, k, rfl, hS, hk, hk2, q⟩ := h
    refine ⟨_, (pss_cons (ps_set (i := 2) sc_l_mixed.nd rfl (by first | exact Or.inl rfl | exact Or.inr rfl) pe_int)
      (C8.pss_cut (ps_if (pt_cmpR op_gt (pe_callB call_len_seq (by rfl) T.b_len PySem.boot_len (pa_cons (pv 0) pa_nil)) pe_int (nomark _)) (pss_one (ps_set (i := 2) sc_l_mixed.nd rfl (by first | exact Or.inl rfl | exact Or.inr rfl) (pe_ix (r := rIxL K) ix_list (pv 0) (pe_op op_mod (pv 1) (pe_callB call_len_seq (by rfl) T.b_len PySem.boot_len (pa_cons (pv 0) pa_nil))) (fun _ _ => rfl)))) pss_nil)
      (pss_cons (ps_set (i := 3) sc_l_mixed.nd rfl (by first | exact Or.inl rfl | exact Or.inr rfl) (pe_op op_mod (pe_op op_mul (pe_op op_add (pv 2) (pe_op op_mul pe_int (pv 1))) pe_int) pe_int))
      (pss_one (ps_ret (pe_op op_mod (pe_op op_add (pe_op op_mul (pv 3) (pv 3)) (pe_op op_mul pe_int (pv 3))) pe_int)))))), ?_⟩
    walk_at "go"
    refine ⟨fun σ' H' => σ' = [some (.ref a), some (.int k), some (.int (mixCell ns k)), none] ∧ H = H', ?_, ?_⟩
    · walk_at "go"
      refine ⟨_, _, rfl, .inl hS, ?_⟩
      walk_at "go"
      rw [List.length_map]
      refine ite2 (fun h => ?_) (fun h => ?_)
      · have h1 : (0 : Int) < (ns.length : Int) := of_decide_eq_true h
        walk_at "go"
        refine ⟨_, _, rfl, .inl hS, ?_⟩
        rw [List.length_map]
        walk_at "go"
        have h2 := Int.emod_nonneg k (b := (ns.length : Int)) (by omega)
        have h3 := Int.emod_lt_of_pos k (b := (ns.length : Int)) (by omega)
        refine ⟨_, _, _, _, rfl, rfl, hS, atI_of (j := (k % (ns.length : Int)).toNat) (by omega) (map_int_get (by omega)), ?_⟩
        refine ⟨?_, rfl⟩
        unfold mixCell
        rw [if_pos (by omega)]
        rfl
      · have h1 : ¬ (0 : Int) < (ns.length : Int) := fun z => h (decide_eq_true z)
        refine ⟨?_, rfl⟩
        unfold mixCell
        rw [if_neg (by omega)]
        rfl
    rintro σ' H' ⟨rfl, rfl⟩
    have m0 := Int.emod_nonneg ((mixCell ns k + 7919 * k) * 48271) (b := 2147483647) (by decide)
    have m1 := Int.emod_lt_of_pos ((mixCell ns k + 7919 * k) * 48271) (b := 2147483647) (by decide)
    walk_at "go"
    rw [mixed_def] at q
    exact q
end
end Toll

set_option Elab.async false
set_option maxRecDepth 100000
set_option maxHeartbeats 4000000
namespace Toll
open PySem L2
local macro_rules | `(tactic| walk_at "go1") => `(tactic| first
  | refine ⟨_, rfl, ?_⟩
  | refine ⟨rfl, ?_⟩
  | refine ⟨_, _, rfl, rfl, ?_⟩
  | refine ⟨_, _, rfl, ?_⟩
  | (with_reducible refine' ⟨log_small ?k1 ?k2, ?_⟩; (case k1 => omega); (case k2 => omega))
  | (refine' ⟨?k1, ?_⟩; (case k1 => ((with_reducible show (_ : Int) < _); omega)))
  | (refine' ⟨⟨?k1, ?k2⟩, ?_⟩; (case k1 => omega); (case k2 => omega))
  | (refine' ⟨⟨?k1, ?k2, ?k3, ?k4⟩, ?_⟩; (case k1 => omega); (case k2 => omega); (case k3 => omega); (case k4 => omega))
  | (refine' ⟨.inl ⟨?k1, ?k2⟩, ?_⟩; (case k1 => omega); (case k2 => omega))
  | (refine' ⟨.inr ⟨?k1, ?k2⟩, ?_⟩; (case k1 => omega); (case k2 => omega))
  | (refine' ⟨Evl.sz_of ?k1, ?_⟩; (case k1 => omega))
  | (refine' ⟨?k1, ?_⟩; (case k1 => ((with_reducible show (_ : Int) ≤ _); omega)))
  | refine ⟨⟨_, rfl⟩, ?_⟩
  | refine .inl ⟨_, rfl, ?_⟩ | refine .inr ⟨_, rfl, ?_⟩
  | refine iteT ?_ | refine iteF ?_)
local macro_rules | `(tactic| walk_at "go") => `(tactic| repeat (walk_at "go1"))
local macro_rules | `(tactic| walk_at "ans") => `(tactic| (intro Q' q'; walk_at "go"; (try rw [dec_int]); (try rw [dec_str]); exact q'))
local macro_rules | `(tactic| walk_at "hp") => `(tactic| first | assumption | exact upd_same | (refine' up_same ?e ?h; (case e => assumption); (case h => walk_at "hp")) | (refine' upd_at ?n ?h; (case n => walk_at "ne"); (case h => walk_at "hp")))
local macro_rules | `(tactic| walk_at "ne") => `(tactic| first | assumption | (apply Ne.symm; assumption))
local macro_rules | `(tactic| walk_at "at") => `(tactic| first | exact atI_nat (j := 0) rfl | exact atI_nat (j := 1) rfl | exact atI_nat (j := 2) rfl | exact atI_nat (j := 3) rfl | exact atI_nat (j := 4) rfl)
local macro_rules | `(tactic| walk_at "step1") => `(tactic| first
  | walk_at "go1"
  | (apply ixL_step; (case h => walk_at "hp"); (case a => walk_at "at"))
  | (apply ixT_step; (case h => walk_at "hp"); (case a => walk_at "at"))
  | (apply lenL_step; (case h => walk_at "hp")))
local macro_rules | `(tactic| walk_at "step") => `(tactic| repeat (walk_at "step1"))
section
variable {P : Program} {w : World} {K : PySem.W.Frag} {mg : Str → Option Value} {base : Heap} {A : Ads}
def spName : Sp := fun vs H Q _ => ∃ (b t : Int), vs = [.int b, .int t] ∧ 0 ≤ b ∧ 0 ≤ t ∧ t ≤ 1000 ∧ ∀ H', Same H H' → Q (.str (nameOf b t)) H'
theorem ok_l_name (T : Txt K mg A) : DefOk P w K mg base CX0 1 A.l_name ["_law_base", "_law_turn"] spName := by
  obtain ⟨fd, F⟩ := T.F_l_name
  refine ⟨fd, ?_, F.binds (ps := ["_law_base", "_law_turn"]) fun _ _ _ _ _ _ us hl => match us, hl with | [_, _], _ => rfl, F.kp⟩
  refine F.ok sc_l_name (fun vs H Q E h => ?_) (fun cdv A outer s H vs Q E hr h => ?_)
  · obtain ⟨b, t, rfl, _⟩ := h
    rfl
  · obtain ⟨b, t, rfl, hb, ht, ht2, q⟩ := h
    refine ⟨_, (pss_cons (ps_set (i := 2) sc_l_name.nd rfl (by first | exact Or.inl rfl | exact Or.inr rfl) pe_str)
      (pss_cons (ps_setLc (i := 3) (own := [("_law_k", 6)]) rfl sc_l_name.nd rfl rfl (sw_true rfl rfl rfl (by decide +kernel)) (pi_range1 (by rfl) T.b_range (pa_cons pe_int pa_nil)) (blkOk_by (own := [("_law_k", 6)]) (N := n_l_name) (sc := defScope s_l_name) (by decide +kernel)) (fun _ _ _ _ _ => (pg_name (i := 6) sc_l_name.nd rfl (by first | exact Or.inl rfl | exact Or.inr rfl))) (fun _ _ _ _ _ => pts_nil) (fun _ _ _ _ _ => (pe_ix ix_str (pv 2) (pe_op op_mod (pe_op op_add (pe_op op_add (pe_op op_fdiv (pv 0) pe_int) (pe_op op_mul pe_int (pv 6))) (pe_op op_mul (pe_op op_fdiv (pv 0) pe_int) (pv 6))) pe_int) (fun _ _ => rfl))))
      (pss_cons (ps_asg (pe_ix ix_str (pv 2) (pe_op op_mod (pe_op op_fdiv (pv 0) pe_int) pe_int) (fun _ _ => rfl)) (pg_sub (pv 3) pe_int set_list))
      (pss_cons (ps_if (PW.pt (pw_and (pt_cmpR op_eq (pe_op op_mod (pv 0) pe_int) pe_int (nomark _)) (pw_and1 (pt_cmpR op_lt (pv 1) pe_int (nomark _))))) (pss_one (ps_ret (pe_join pe_str (pe_slice sl_list (pv 3) po_none (po_some (pe_op op_add pe_int (pv 1))))))) pss_nil)
      (pss_cons (ps_if (PW.pt (pw_or (pt_cmpR op_lt (pe_op op_mod (pv 0) pe_int) pe_int (nomark _)) (pw_or1 (pt_cmpR op_gt (pv 1) pe_int (nomark _))))) (pss_one (ps_ret (pe_op op_add_str (pe_join pe_str (pe_slice sl_list (pv 3) po_none (po_some (pe_op op_add pe_int (pe_op op_mod (pe_op op_fdiv (pv 0) pe_int) pe_int))))) (pe_callTy call_str_int (by rfl) T.b_str (by decide +kernel) (pa_cons (pv 1) pa_nil))))) pss_nil)
      (pss_cons (ps_set (i := 4) sc_l_name.nd rfl (by first | exact Or.inl rfl | exact Or.inr rfl) (pe_op op_add pe_int (pe_op op_mod (pe_op op_fdiv (pv 0) pe_int) pe_int)))
      (pss_cons (ps_set (i := 5) sc_l_name.nd rfl (by first | exact Or.inl rfl | exact Or.inr rfl) (pe_op op_mod (pe_op op_fdiv (pv 0) pe_int) (pv 4)))
      (pss_cons (ps_asg (pe_ix ix_str (pv 2) (pe_op op_mod (pe_op op_add (pe_op op_fdiv (pv 0) pe_int) (pv 1)) (pe_ix (r := rIxL K) ix_list (pe_lst (pa_cons pe_int (pa_cons pe_int pa_nil))) (pe_callTy call_int1 (by rfl) T.b_int (by decide +kernel) (pa_cons (pe_cmpR op_eq (pv 5) pe_int (nomark _)) pa_nil)) (fun _ _ => rfl))) (fun _ _ => rfl)) (pg_sub (pv 3) (pv 5) set_list))
      (pss_one (ps_ret (pe_join pe_str (pe_slice sl_list (pv 3) po_none (po_some (pv 4)))))))))))))), ?_⟩
    walk_at "go"
    intro D hD
    rw [← someS_def]
    refine lc_range (lo := 0) (n := 8) (fun i H' => Same H H' ∧ H' D = some (.lst (onesV ((List.range i).map fun (k : Nat) => sgn ((b / 64 + 7 * (k : Int) + b / 99991 * (k : Int)) % 36)))))
      ⟨same_up hD, upd_same⟩ ?_ ?_
    · rintro i H1 hi ⟨s1, hL⟩
      walk_at "go"
      refine ⟨someS, _, _, rfl, rfl, (by have := someS_len; exact Evl.sz_of (by show someS.cps.toList.length ≤ _; omega)), ix36 _, ?_⟩
      walk_at "go"
      refine ⟨_, hL, by rw [onesV_len]; simp; exact Evl.sz_lt (by omega), same_new s1 hD, ?_⟩
      rw [upd_same, List.range_succ, List.map_append, Int.zero_add]
      unfold onesV
      rw [List.map_append, List.map_append]
      rfl
    rintro H1 ⟨s1, hL⟩
    rw [← sg0_def] at hL
    walk_at "go"
    refine ⟨someS, _, _, rfl, rfl, (by have := someS_len; exact Evl.sz_of (by show someS.cps.toList.length ≤ _; omega)), ix26 _, ?_⟩
    walk_at "go"
    refine ⟨D, _, 0, 0, rfl, rfl, hL, ixN_of rfl (by rw [onesV_len, sg0_len]; decide), ?_⟩
    rw [onesV_set, ← sg_def]
    have s2 : Same H (upd H1 D (HO.lst (onesV (sg b)))) := same_new s1 hD
    have hL2 : (upd H1 D (HO.lst (onesV (sg b)))) D = some (.lst (onesV (sg b))) := upd_same
    generalize upd H1 D (HO.lst (onesV (sg b))) = H2 at s2 hL2
    have sl := sg_len b
    dsimp only
    refine seq_if1 (decide (b % 3 = 0) && decide (t < 8)) (an_and (by walk_at "ans") (fun _ => by walk_at "ans")) (fun h => ?_) (fun h => ?_)
    · simp only [Bool.and_eq_true, decide_eq_true_eq] at h
      have e : nameOf b t = sx ((sg b).take (1 + t).toNat) := by
        rw [nameOf_def, nameL, if_pos h]
      walk_at "go"
      refine ⟨D, _, rfl, SqL.of hL2, fun p hp => ?_⟩
      walk_at "go"
      rw [cut_to _ (by omega), onesV_take]
      refine ⟨_, p, ((sg b).take (1 + t).toNat).map one, rfl, rfl, .inl (SqL.of upd_same), ?_, ?_⟩
      · rw [sum_ones]
        show _ + _ * 0 ≤ _
        rw [List.length_take]
        omega
      rw [join_ones, ← e]
      exact q _ (same_new s2 (s2.free hp))
    have h3 : ¬ (b % 3 = 0 ∧ t < 8) := fun z => by simp [z.1, z.2] at h
    refine seq_if1 (decide (b % 3 < 2) || decide (25 < t)) (an_or (by walk_at "ans") (fun _ => by walk_at "ans")) (fun h => ?_) (fun h => ?_)
    · simp only [Bool.or_eq_true, decide_eq_true_eq] at h
      have e : nameOf b t = sx ((sg b).take (1 + b / 3 % 5).toNat) ++ sx (digs t) := by
        rw [nameOf_def, nameL, if_neg h3, if_pos h, sx_app]
      walk_at "go"
      refine ⟨D, _, rfl, SqL.of hL2, fun p hp => ?_⟩
      walk_at "go"
      rw [cut_to _ (by omega), onesV_take]
      refine ⟨_, p, ((sg b).take (1 + b / 3 % 5).toNat).map one, rfl, rfl, .inl (SqL.of upd_same), ?_, ?_⟩
      · rw [sum_ones]
        show _ + _ * 0 ≤ _
        rw [List.length_take]
        omega
      rw [join_ones]
      walk_at "go"
      rw [digs_sx ht]
      refine ⟨Evl.sz_of (by rw [sx_len, sx_len, List.length_take]; have := digs_len ht2; omega), ?_⟩
      rw [← e]
      exact q _ (same_new s2 (s2.free hp))
    · have h4 : ¬ (b % 3 < 2 ∨ 25 < t) := fun z => by rcases z with z | z <;> simp [z] at h
      have d0 := Int.emod_nonneg (b / 24) (b := 1 + b / 3 % 8) (by omega)
      have d1 := Int.emod_lt_of_pos (b / 24) (b := 1 + b / 3 % 8) (by omega)
      walk_at "go"
      refine ⟨by decide, fun p hp => ?_⟩
      walk_at "go"
      have e : nameOf b t = sx (((sg b).set (b / 24 % (1 + b / 3 % 8)).toNat (sgn ((b / 2311 + t) % (if b / 24 % (1 + b / 3 % 8) = 0 then 26 else 36)))).take (1 + b / 3 % 8).toNat) := by
        rw [nameOf_def, nameL, if_neg h3, if_neg h4]
      have hm : ∃ m : Int, (m = 26 ∨ m = 36) ∧ (if b / 24 % (1 + b / 3 % 8) = 0 then 26 else 36) = m ∧ atI [V.int 36, V.int 26] (if decide (V.int (b / 24 % (1 + b / 3 % 8)) = V.int 0) = true then 1 else 0) = some (V.int m) := by
        rw [dec_int]
        by_cases z : b / 24 % (1 + b / 3 % 8) = 0
        · rw [if_pos z, if_pos (decide_eq_true z)]
          exact ⟨26, .inl rfl, rfl, rfl⟩
        · rw [if_neg z, if_neg (by simpa using z)]
          exact ⟨36, .inr rfl, rfl, rfl⟩
      obtain ⟨m, hm1, hm2, hm3⟩ := hm
      rw [hm2] at e
      have c26 := someS_len
      have hx : atI someS.cps.toList ((b / 2311 + t) % m) = some (sgn ((b / 2311 + t) % m)) := by
        rcases hm1 with rfl | rfl
        · exact ix26 _
        · exact ix36 _
      refine ⟨p, _, _, _, rfl, rfl, SqL.of upd_same, hm3, ?_⟩
      walk_at "go"
      refine ⟨someS, _, _, rfl, rfl, Evl.sz_of (by show someS.cps.toList.length ≤ _; omega), hx, ?_⟩
      walk_at "go"
      have hpD : D ≠ p := ne_of_none hL2 hp
      refine ⟨D, _, _, (b / 24 % (1 + b / 3 % 8)).toNat, rfl, rfl, (by rw [upd_ne hpD]; exact hL2), ixN_of (by omega) (by rw [onesV_len, sl]; omega), ?_⟩
      rw [onesV_set]
      walk_at "go"
      refine ⟨D, _, rfl, SqL.of upd_same, fun r hr2 => ?_⟩
      walk_at "go"
      rw [cut_to _ (by omega), onesV_take]
      refine ⟨_, r, (((sg b).set (b / 24 % (1 + b / 3 % 8)).toNat (sgn ((b / 2311 + t) % m))).take (1 + b / 3 % 8).toNat).map one, rfl, rfl, .inl (SqL.of upd_same), ?_, ?_⟩
      · rw [sum_ones]
        show _ + _ * 0 ≤ _
        rw [List.length_take, List.length_set]
        omega
      rw [join_ones, ← e]
      have s3 : Same H (upd (upd H2 p (HO.lst [V.int 36, V.int 26])) D (HO.lst (onesV ((sg b).set (b / 24 % (1 + b / 3 % 8)).toNat (sgn ((b / 2311 + t) % m)))))) := same_new (same_new s2 (s2.free hp)) hD
      exact q _ (same_new s3 (s3.free hr2))
end
end Toll

set_option Elab.async false
set_option maxRecDepth 100000
set_option maxHeartbeats 4000000
namespace Toll
open PySem L2
local macro_rules | `(tactic| walk_at "go1") => `(tactic| first
  | refine ⟨_, rfl, ?_⟩
  | refine ⟨rfl, ?_⟩
  | refine ⟨_, _, rfl, rfl, ?_⟩
  | refine ⟨_, _, rfl, ?_⟩
  | (with_reducible refine' ⟨log_small ?k1 ?k2, ?_⟩; (case k1 => omega); (case k2 => omega))
  | (refine' ⟨?k1, ?_⟩; (case k1 => ((with_reducible show (_ : Int) < _); omega)))
  | (refine' ⟨⟨?k1, ?k2⟩, ?_⟩; (case k1 => omega); (case k2 => omega))
  | (refine' ⟨⟨?k1, ?k2, ?k3, ?k4⟩, ?_⟩; (case k1 => omega); (case k2 => omega); (case k3 => omega); (case k4 => omega))
  | (refine' ⟨.inl ⟨?k1, ?k2⟩, ?_⟩; (case k1 => omega); (case k2 => omega))
  | (refine' ⟨.inr ⟨?k1, ?k2⟩, ?_⟩; (case k1 => omega); (case k2 => omega))
  | (refine' ⟨Evl.sz_of ?k1, ?_⟩; (case k1 => omega))
  | (refine' ⟨?k1, ?_⟩; (case k1 => ((with_reducible show (_ : Int) ≤ _); omega)))
  | refine ⟨⟨_, rfl⟩, ?_⟩
  | refine .inl ⟨_, rfl, ?_⟩ | refine .inr ⟨_, rfl, ?_⟩
  | refine iteT ?_ | refine iteF ?_)
local macro_rules | `(tactic| walk_at "go") => `(tactic| repeat (walk_at "go1"))
local macro_rules | `(tactic| walk_at "ans") => `(tactic| (intro Q' q'; walk_at "go"; (try rw [dec_int]); (try rw [dec_str]); exact q'))
local macro_rules | `(tactic| walk_at "hp") => `(tactic| first | assumption | exact upd_same | (refine' up_same ?e ?h; (case e => assumption); (case h => walk_at "hp")) | (refine' upd_at ?n ?h; (case n => walk_at "ne"); (case h => walk_at "hp")))
local macro_rules | `(tactic| walk_at "ne") => `(tactic| first | assumption | (apply Ne.symm; assumption))
local macro_rules | `(tactic| walk_at "at") => `(tactic| first | exact atI_nat (j := 0) rfl | exact atI_nat (j := 1) rfl | exact atI_nat (j := 2) rfl | exact atI_nat (j := 3) rfl | exact atI_nat (j := 4) rfl)
local macro_rules | `(tactic| walk_at "step1") => `(tactic| first
  | walk_at "go1"
  | (apply ixL_step; (case h => walk_at "hp"); (case a => walk_at "at"))
  | (apply ixT_step; (case h => walk_at "hp"); (case a => walk_at "at"))
  | (apply lenL_step; (case h => walk_at "hp")))
local macro_rules | `(tactic| walk_at "step") => `(tactic| repeat (walk_at "step1"))
section
variable {P : Program} {w : World} {K : PySem.W.Frag} {mg : Str → Option Value} {base : Heap} {A : Ads}
theorem k_small : k_SMALL_SIGNS.cps.toList = List.range' 97 26 := by decide +kernel
theorem k_sign : k_NAME_SIGNS.cps.toList = List.range' 97 26 ++ List.range' 48 10 := by decide +kernel
def spNeed (A : Ads) : Sp := fun vs H Q E => ∃ (p g r : Addr) (N : NetD) (nm : Str), vs = [.ref p, .str nm] ∧ NetAt A.C_Net H p g r N ∧ nm.length ≤ 1000 ∧ PyData.strOk nm = true ∧
  (seesOf N.gates nm = none → E (.ref A.C_NoGate) none H) ∧ (∀ b, seesOf N.gates nm = some b → Q .non H)
theorem ok_N_need_gate (T : Txt K mg A) : DefOk P w K mg base (L2.CX P w) 1 A.N_need_gate ["self", "name"] (spNeed A) := by
  obtain ⟨fd, F⟩ := T.F_N_need_gate
  refine ⟨fd, ?_, F.binds (ps := ["self", "name"]) fun _ _ _ _ _ _ us hl => match us, hl with | [_, _], _ => rfl, F.kp⟩
  refine F.okX sc_N_need_gate (fun vs H Q E h => ?_) (fun cdv A' outer s H vs Q E hr h => ?_)
  · obtain ⟨p, g, r, N, nm, rfl, _⟩ := h
    rfl
  · obtain ⟨p, g, r, N, nm, rfl, hN, hl, ho, kE, kQ⟩ := h
    have hu := hu_of hr
    obtain ⟨⟨dx, hob⟩, hgt, _, _, _, _⟩ := id hN
    refine ⟨_, (pss_one (ps_if (pt_cmp (pc_dnotin hu (pv 1) (pe_fld (pv 0) rfl))) (pss_one (ps_raise rfl (takes_of rfl rfl rfl rfl) (SkE.pmk_own1 PySem.F.excBase_ValueError T.e_NoGate.x T.e_NoGate.g T.e_NoGate.k (raises_own T.e_NoGate.b T.e_NoGate.t) rfl (pe_joined (.cons pe_str (.cons (pe_fmtR (pv 1)) .nil)))))) pss_nil)), ?_⟩
    walk_at "go"
    refine ⟨p, _, dx, _, _, rfl, hob, T.c_Net, T.na_Net__gates, netF_gates _ _, g, _, rfl, DGet.k (k := Sum.inr nm) hgt, _, rfl, ?_⟩
    rw [valV_gates]
    cases e : seesOf N.gates nm with
    | some b =>
      refine iteF ?_
      exact kQ b e
    | none =>
      refine iteT ?_
      walk_at "go"
      refine ⟨by decide +kernel, ?_⟩
      walk_at "go"
      refine ⟨repr_ok hl ho, ?_⟩
      walk_at "go"
      refine ⟨cat_sz (by decide +kernel) (by have := repr_sz hl ho; omega), ?_⟩
      exact kE e
def spTurnGate (A : Ads) : Sp := fun vs H Q E => ∃ (p g r : Addr) (N : NetD) (nm : Str) (b : Bool), vs = [.ref p, .str nm, .bl b] ∧ NetAt A.C_Net H p g r N ∧ nm.length ≤ 1000 ∧ PyData.strOk nm = true ∧
  (seesOf N.gates nm = none → E (.ref A.C_NoGate) none H) ∧ (seesOf N.gates nm = some b → E (.ref A.C_Already) none H) ∧
  (seesOf N.gates nm = some (!b) → ∀ H', NetAt A.C_Net H' p g r { N with gates := setSees N.gates nm b } → Keep [g] H H' → Q .non H')
theorem ok_N__turn_gate (T : Txt K mg A) : DefOk P w K mg base (L2.CX P w) 2 A.N__turn_gate ["self", "name", "sees"] (spTurnGate A) := by
  obtain ⟨_, G_N_need_gate, B_N_need_gate, K_N_need_gate⟩ := ok_N_need_gate (P := P) (w := w) (base := base) T
  obtain ⟨fd, F⟩ := T.F_N__turn_gate
  refine ⟨fd, ?_, F.binds (ps := ["self", "name", "sees"]) fun _ _ _ _ _ _ us hl => match us, hl with | [_, _, _], _ => rfl, F.kp⟩
  refine F.okX sc_N__turn_gate (fun vs H Q E h => ?_) (fun cdv A' outer s H vs Q E hr h => ?_)
  · obtain ⟨p, g, r, N, nm, b, rfl, _⟩ := h
    rfl
  · obtain ⟨p, g, r, N, nm, b, rfl, hN, hl, ho, kE, kA, kQ⟩ := h
    have hu := hu_of hr
    obtain ⟨⟨dx, hob⟩, hgt, hrt, hnd, l1, l2⟩ := id hN
    refine ⟨_, (pss_cons (ps_expr (pe_meth (pv 0) T.c_Net T.M_N_need_gate G_N_need_gate (hr.mono (by decide)) B_N_need_gate .nil (passes_call (takes_of rfl rfl rfl rfl) fun _ _ _ _ h => h) (pa_cons (pv 1) pa_nil)))
      (pss_cons (ps_if (pt_cmpR op_eq (pe_dget hu (pe_fld (pv 0) rfl) (pv 1) (fun _ _ => rfl)) (pv 2) (nomark _)) (pss_one (ps_raise rfl (takes_of rfl rfl rfl rfl) (SkE.pmk_own1 PySem.F.excBase_ValueError T.e_Already.x T.e_Already.g T.e_Already.k (raises_own T.e_Already.b T.e_Already.t) rfl (pe_joined (.cons pe_str (.cons (pe_fmt (pv 1)) (.cons pe_str .nil))))))) pss_nil)
      (pss_one (ps_dput hu (pe_fld (pv 0) rfl) (pv 1) (pv 2) rfl)))), ?_⟩
    walk_at "go"
    refine ⟨p, dx, _, rfl, hob, netF_no _ _ (by decide +kernel) (by decide +kernel), ?_⟩
    walk_at "go"
    refine ⟨p, g, r, N, nm, rfl, hN, hl, ho, kE, fun c hc => ?_⟩
    walk_at "go"
    refine ⟨p, _, dx, _, _, rfl, hob, T.c_Net, T.na_Net__gates, netF_gates _ _, ?_⟩
    walk_at "go"
    refine ⟨g, .bl c, rfl, (by have := DGet.k (k := Sum.inr nm) hgt; rw [valV_gates, hc] at this; exact this), ?_⟩
    walk_at "go"
    rw [dec_bl]
    refine ite2 (fun h => ?_) (fun h => ?_)
    · have h : c = b := of_decide_eq_true h
      subst h
      walk_at "go"
      refine ⟨by decide +kernel, ?_⟩
      walk_at "go"
      refine ⟨cat_sz (by decide +kernel) (by omega), ?_⟩
      walk_at "go"
      refine ⟨sz3 (by decide +kernel) (by omega) (by decide +kernel), ?_⟩
      exact kA hc
    · have h : seesOf N.gates nm = some (!b) := by
        have h1 : ¬ c = b := fun z => h (decide_eq_true z)
        rw [hc]
        cases c <;> cases b <;> simp_all
      walk_at "go"
      refine ⟨p, _, dx, _, _, rfl, hob, T.c_Net, T.na_Net__gates, netF_gates _ _, ?_⟩
      walk_at "go"
      refine ⟨g, _, rfl, DPut.k (k := Sum.inr nm) hgt (small1000 (by simp [gatesK]; omega)), ?_⟩
      rw [putK_old_gates hc]
      exact kQ h _ (hN.setGates (by rw [setSees_names]; exact hnd) (by rw [setSees_len]; exact l1)) keep1
def spBlind (A : Ads) (b : Bool) : Sp := fun vs H Q E => ∃ (p g r : Addr) (N : NetD) (nm : Str), vs = [.ref p, .str nm] ∧ NetAt A.C_Net H p g r N ∧ nm.length ≤ 1000 ∧ PyData.strOk nm = true ∧
  (seesOf N.gates nm = none → E (.ref A.C_NoGate) none H) ∧ (seesOf N.gates nm = some b → E (.ref A.C_Already) none H) ∧
  (seesOf N.gates nm = some (!b) → ∀ H', NetAt A.C_Net H' p g r { N with gates := setSees N.gates nm b } → Keep [g] H H' → Q .non H')
theorem ok_N_blind (T : Txt K mg A) : DefOk P w K mg base (L2.CX P w) 3 A.N_blind ["self", "name"] (spBlind A false) := by
  obtain ⟨_, G_N__turn_gate, B_N__turn_gate, K_N__turn_gate⟩ := ok_N__turn_gate (P := P) (w := w) (base := base) T
  obtain ⟨fd, F⟩ := T.F_N_blind
  refine ⟨fd, ?_, F.binds (ps := ["self", "name"]) fun _ _ _ _ _ _ us hl => match us, hl with | [_, _], _ => rfl, F.kp⟩
  refine F.okX sc_N_blind (fun vs H Q E h => ?_) (fun cdv A' outer s H vs Q E hr h => ?_)
  · obtain ⟨p, g, r, N, nm, rfl, _⟩ := h
    rfl
  · obtain ⟨p, g, r, N, nm, rfl, hN, hl, ho, kE, kA, kQ⟩ := h
    obtain ⟨⟨dx, hob⟩, _⟩ := id hN
    refine ⟨_, (pss_one (ps_expr (pe_meth (pv 0) T.c_Net T.M_N__turn_gate G_N__turn_gate (hr.mono (by decide)) B_N__turn_gate .nil (passes_call (takes_of rfl rfl rfl rfl) fun _ _ _ _ h => h) (pa_cons (pv 1) (pa_cons pe_bl pa_nil))))), ?_⟩
    walk_at "go"
    refine ⟨p, dx, _, rfl, hob, netF_no _ _ (by decide +kernel) (by decide +kernel), ?_⟩
    walk_at "go"
    exact ⟨p, g, r, N, nm, false, rfl, hN, hl, ho, kE, kA, kQ⟩
theorem ok_N_mend (T : Txt K mg A) : DefOk P w K mg base (L2.CX P w) 3 A.N_mend ["self", "name"] (spBlind A true) := by
  obtain ⟨_, G_N__turn_gate, B_N__turn_gate, K_N__turn_gate⟩ := ok_N__turn_gate (P := P) (w := w) (base := base) T
  obtain ⟨fd, F⟩ := T.F_N_mend
  refine ⟨fd, ?_, F.binds (ps := ["self", "name"]) fun _ _ _ _ _ _ us hl => match us, hl with | [_, _], _ => rfl, F.kp⟩
  refine F.okX sc_N_mend (fun vs H Q E h => ?_) (fun cdv A' outer s H vs Q E hr h => ?_)
  · obtain ⟨p, g, r, N, nm, rfl, _⟩ := h
    rfl
  · obtain ⟨p, g, r, N, nm, rfl, hN, hl, ho, kE, kA, kQ⟩ := h
    obtain ⟨⟨dx, hob⟩, _⟩ := id hN
    refine ⟨_, (pss_one (ps_expr (pe_meth (pv 0) T.c_Net T.M_N__turn_gate G_N__turn_gate (hr.mono (by decide)) B_N__turn_gate .nil (passes_call (takes_of rfl rfl rfl rfl) fun _ _ _ _ h => h) (pa_cons (pv 1) (pa_cons pe_bl pa_nil))))), ?_⟩
    walk_at "go"
    refine ⟨p, dx, _, rfl, hob, netF_no _ _ (by decide +kernel) (by decide +kernel), ?_⟩
    walk_at "go"
    exact ⟨p, g, r, N, nm, true, rfl, hN, hl, ho, kE, kA, kQ⟩
end
end Toll

set_option Elab.async false
set_option maxRecDepth 100000
set_option maxHeartbeats 4000000
namespace Toll
open PySem L2
local macro_rules | `(tactic| walk_at "go1") => `(tactic| first
  | refine ⟨_, rfl, ?_⟩
  | refine ⟨rfl, ?_⟩
  | refine ⟨_, _, rfl, rfl, ?_⟩
  | refine ⟨_, _, rfl, ?_⟩
  | (with_reducible refine' ⟨log_small ?k1 ?k2, ?_⟩; (case k1 => omega); (case k2 => omega))
  | (refine' ⟨?k1, ?_⟩; (case k1 => ((with_reducible show (_ : Int) < _); omega)))
  | (refine' ⟨⟨?k1, ?k2⟩, ?_⟩; (case k1 => omega); (case k2 => omega))
  | (refine' ⟨⟨?k1, ?k2, ?k3, ?k4⟩, ?_⟩; (case k1 => omega); (case k2 => omega); (case k3 => omega); (case k4 => omega))
  | (refine' ⟨.inl ⟨?k1, ?k2⟩, ?_⟩; (case k1 => omega); (case k2 => omega))
  | (refine' ⟨.inr ⟨?k1, ?k2⟩, ?_⟩; (case k1 => omega); (case k2 => omega))
  | (refine' ⟨Evl.sz_of ?k1, ?_⟩; (case k1 => omega))
  | (refine' ⟨?k1, ?_⟩; (case k1 => ((with_reducible show (_ : Int) ≤ _); omega)))
  | refine ⟨⟨_, rfl⟩, ?_⟩
  | refine .inl ⟨_, rfl, ?_⟩ | refine .inr ⟨_, rfl, ?_⟩
  | refine iteT ?_ | refine iteF ?_)
local macro_rules | `(tactic| walk_at "go") => `(tactic| repeat (walk_at "go1"))
local macro_rules | `(tactic| walk_at "ans") => `(tactic| (intro Q' q'; walk_at "go"; (try rw [dec_int]); (try rw [dec_str]); exact q'))
local macro_rules | `(tactic| walk_at "hp") => `(tactic| first | assumption | exact upd_same | (refine' up_same ?e ?h; (case e => assumption); (case h => walk_at "hp")) | (refine' upd_at ?n ?h; (case n => walk_at "ne"); (case h => walk_at "hp")))
local macro_rules | `(tactic| walk_at "ne") => `(tactic| first | assumption | (apply Ne.symm; assumption))
local macro_rules | `(tactic| walk_at "at") => `(tactic| first | exact atI_nat (j := 0) rfl | exact atI_nat (j := 1) rfl | exact atI_nat (j := 2) rfl | exact atI_nat (j := 3) rfl | exact atI_nat (j := 4) rfl)
local macro_rules | `(tactic| walk_at "step1") => `(tactic| first
  | walk_at "go1"
  | (apply ixL_step; (case h => walk_at "hp"); (case a => walk_at "at"))
  | (apply ixT_step; (case h => walk_at "hp"); (case a => walk_at "at"))
  | (apply lenL_step; (case h => walk_at "hp")))
local macro_rules | `(tactic| walk_at "step") => `(tactic| repeat (walk_at "step1"))
section
variable {P : Program} {w : World} {K : PySem.W.Frag} {mg : Str → Option Value} {base : Heap} {A : Ads}
def spTurnRoad (A : Ads) : Sp := fun vs H Q E => ∃ (p g r : Addr) (N : NetD) (n : Int) (b : Bool), vs = [.ref p, .int n, .bl b] ∧ NetAt A.C_Net H p g r N ∧
  (¬ (0 ≤ n ∧ n < (N.roads.length : Int)) → E (.ref A.C_NoRoad) none H) ∧ (∀ rd, 0 ≤ n → N.roads[n.toNat]? = some rd → rd.op = b → E (.ref A.C_Already) none H) ∧
  (∀ rd, 0 ≤ n → N.roads[n.toNat]? = some rd → rd.op = !b → ∀ H', NetAt A.C_Net H' p g r { N with roads := N.roads.set n.toNat { rd with op := b } } → Keep [r] H H' → Q .non H')
theorem ok_N__turn_road (T : Txt K mg A) : DefOk P w K mg base (L2.CX P w) 1 A.N__turn_road ["self", "number", "is_open"] (spTurnRoad A) := by
  obtain ⟨fd, F⟩ := T.F_N__turn_road
  refine ⟨fd, ?_, F.binds (ps := ["self", "number", "is_open"]) fun _ _ _ _ _ _ us hl => match us, hl with | [_, _, _], _ => rfl, F.kp⟩
  refine F.okX sc_N__turn_road (fun vs H Q E h => ?_) (fun cdv A' outer s H vs Q E hr h => ?_)
  · obtain ⟨p, g, r, N, n, b, rfl, _⟩ := h
    rfl
  · obtain ⟨p, g, r, N, n, b, rfl, hN, kE, kA, kQ⟩ := h
    obtain ⟨⟨dx, hob⟩, hgt, ⟨us, hrt, hP⟩, hnd, l1, l2⟩ := id hN
    have hus := paired_len hP
    have hpr := hN.pr
    refine ⟨_, (pss_cons (ps_if (pt_not (pt_chain op_le op_lt pe_int (pv 1) (pe_callB call_len_seq (by rfl) T.b_len PySem.boot_len (pa_cons (pe_fld (pv 0) rfl) pa_nil)))) (pss_one (ps_raise rfl (takes_of rfl rfl rfl rfl) (SkE.pmk_own1 PySem.F.excBase_ValueError T.e_NoRoad.x T.e_NoRoad.g T.e_NoRoad.k (raises_own T.e_NoRoad.b T.e_NoRoad.t) rfl pe_str))) pss_nil)
      (pss_cons (ps_asg (pe_ix (r := rIxL K) ix_list (pe_fld (pv 0) rfl) (pv 1) (fun _ _ => rfl)) (pg_tup (by rfl) (pgs_cons (pg_name (i := 3) sc_N__turn_road.nd rfl (by first | exact Or.inl rfl | exact Or.inr rfl)) (pgs_cons (pg_name (i := 4) sc_N__turn_road.nd rfl (by first | exact Or.inl rfl | exact Or.inr rfl)) (pgs_cons (pg_name (i := 5) sc_N__turn_road.nd rfl (by first | exact Or.inl rfl | exact Or.inr rfl)) (pgs_cons (pg_name (i := 6) sc_N__turn_road.nd rfl (by first | exact Or.inl rfl | exact Or.inr rfl)) (pgs_cons (pg_name (i := 7) sc_N__turn_road.nd rfl (by first | exact Or.inl rfl | exact Or.inr rfl)) pgs_nil)))))))
      (pss_cons (ps_if (pt_cmpR op_eq (pv 7) (pv 2) (nomark _)) (pss_one (ps_raise rfl (takes_of rfl rfl rfl rfl) (SkE.pmk_own1 PySem.F.excBase_ValueError T.e_Already.x T.e_Already.g T.e_Already.k (raises_own T.e_Already.b T.e_Already.t) rfl pe_str))) pss_nil)
      (pss_one (ps_asg (pe_tup (pa_cons (pv 3) (pa_cons (pv 4) (pa_cons (pv 5) (pa_cons (pv 6) (pa_cons (pv 2) pa_nil)))))) (pg_sub (pe_fld (pv 0) rfl) (pv 1) set_list)))))), ?_⟩
    walk_at "go"
    refine ite2 (fun h0 => ?_) (fun h0 => ?_)
    rotate_left
    · have h0 : ¬ 0 ≤ n := fun z => h0 (decide_eq_true z)
      walk_at "go"
      exact kE fun z => h0 z.1
    have h0 : 0 ≤ n := of_decide_eq_true h0
    walk_at "go"
    refine ⟨p, _, dx, _, _, rfl, hob, T.c_Net, T.na_Net__roads, netF_roads _ _, ?_⟩
    walk_at "go"
    refine ⟨r, us, rfl, .inl (SqL.of hrt), ?_⟩
    walk_at "go"
    refine ite2 (fun h1 => ?_) (fun h1 => ?_)
    · have h1 : ¬ n < (us.length : Int) := by simpa using h1
      walk_at "go"
      exact kE fun z => h1 (by rw [hus]; exact z.2)
    have h1 : n < (us.length : Int) := by simpa using h1
    obtain ⟨rd, hrd⟩ : ∃ rd, N.roads[n.toNat]? = some rd := ⟨_, List.getElem?_eq_getElem (by omega)⟩
    obtain ⟨_, hv, t, rfl, ht⟩ := paired_get hP hrd
    walk_at "go"
    refine ⟨p, _, dx, _, _, rfl, hob, T.c_Net, T.na_Net__roads, netF_roads _ _, ?_⟩
    walk_at "go"
    refine ⟨r, us, _, _, rfl, rfl, SqL.of hrt, atI_of (j := n.toNat) (by omega) hv, ?_⟩
    walk_at "go"
    refine ⟨t, _, rfl, SqT.of ht, rfl, ?_⟩
    walk_at "go"
    rw [dec_bl]
    refine ite2 (fun h2 => ?_) (fun h2 => ?_)
    · have h2 : rd.op = b := of_decide_eq_true h2
      walk_at "go"
      exact kA rd h0 hrd h2
    · have h2 : rd.op = !b := by
        have h2 : ¬ rd.op = b := fun z => h2 (decide_eq_true z)
        cases h3 : rd.op <;> cases b <;> simp_all
      walk_at "go"
      refine ⟨(by show 5 ≤ sizeLine; decide), fun q hq => ?_⟩
      have hqp : p ≠ q := ne_of_none hob hq
      have hqr : r ≠ q := ne_of_none hrt hq
      walk_at "go"
      refine ⟨p, _, dx, _, _, rfl, (by rw [upd_ne hqp]; exact hob), T.c_Net, T.na_Net__roads, netF_roads _ _, ?_⟩
      walk_at "go"
      refine ⟨r, us, _, n.toNat, rfl, rfl, (by rw [upd_ne hqr]; exact hrt), ixN_of (by omega) (by omega), ?_⟩
      have hN2 : NetAt A.C_Net (upd H q (.tup [.str rd.one, .str rd.other, .int rd.mi, .int rd.tl, .bl b])) p g r N := hN.same (same_up hq)
      have hP2 := roads_same (same_up (o := .tup [.str rd.one, .str rd.other, .int rd.mi, .int rd.tl, .bl b]) hq) hP
      refine kQ rd h0 hrd h2 _ (hN2.setRoads (paired_set ⟨q, rfl, upd_same⟩ n.toNat hP2) (by rw [List.length_set]; exact l2)) ?_
      exact (Keep.of_same (same_up hq)).upd (.inl (by simp))
def spClose (A : Ads) (b : Bool) : Sp := fun vs H Q E => ∃ (p g r : Addr) (N : NetD) (n : Int), vs = [.ref p, .int n] ∧ NetAt A.C_Net H p g r N ∧
  (¬ (0 ≤ n ∧ n < (N.roads.length : Int)) → E (.ref A.C_NoRoad) none H) ∧ (∀ rd, 0 ≤ n → N.roads[n.toNat]? = some rd → rd.op = b → E (.ref A.C_Already) none H) ∧
  (∀ rd, 0 ≤ n → N.roads[n.toNat]? = some rd → rd.op = !b → ∀ H', NetAt A.C_Net H' p g r { N with roads := N.roads.set n.toNat { rd with op := b } } → Keep [r] H H' → Q .non H')
theorem ok_N_close (T : Txt K mg A) : DefOk P w K mg base (L2.CX P w) 2 A.N_close ["self", "number"] (spClose A false) := by
  obtain ⟨_, G_N__turn_road, B_N__turn_road, K_N__turn_road⟩ := ok_N__turn_road (P := P) (w := w) (base := base) T
  obtain ⟨fd, F⟩ := T.F_N_close
  refine ⟨fd, ?_, F.binds (ps := ["self", "number"]) fun _ _ _ _ _ _ us hl => match us, hl with | [_, _], _ => rfl, F.kp⟩
  refine F.okX sc_N_close (fun vs H Q E h => ?_) (fun cdv A' outer s H vs Q E hr h => ?_)
  · obtain ⟨p, g, r, N, n, rfl, _⟩ := h
    rfl
  · obtain ⟨p, g, r, N, n, rfl, hN, kE, kA, kQ⟩ := h
    obtain ⟨⟨dx, hob⟩, _⟩ := id hN
    refine ⟨_, (pss_one (ps_expr (pe_meth (pv 0) T.c_Net T.M_N__turn_road G_N__turn_road (hr.mono (by decide)) B_N__turn_road .nil (passes_call (takes_of rfl rfl rfl rfl) fun _ _ _ _ h => h) (pa_cons (pv 1) (pa_cons pe_bl pa_nil))))), ?_⟩
    walk_at "go"
    refine ⟨p, dx, _, rfl, hob, netF_no _ _ (by decide +kernel) (by decide +kernel), ?_⟩
    walk_at "go"
    exact ⟨p, g, r, N, n, false, rfl, hN, kE, kA, kQ⟩
theorem ok_N_reopen (T : Txt K mg A) : DefOk P w K mg base (L2.CX P w) 2 A.N_reopen ["self", "number"] (spClose A true) := by
  obtain ⟨_, G_N__turn_road, B_N__turn_road, K_N__turn_road⟩ := ok_N__turn_road (P := P) (w := w) (base := base) T
  obtain ⟨fd, F⟩ := T.F_N_reopen
  refine ⟨fd, ?_, F.binds (ps := ["self", "number"]) fun _ _ _ _ _ _ us hl => match us, hl with | [_, _], _ => rfl, F.kp⟩
  refine F.okX sc_N_reopen (fun vs H Q E h => ?_) (fun cdv A' outer s H vs Q E hr h => ?_)
  · obtain ⟨p, g, r, N, n, rfl, _⟩ := h
    rfl
  · obtain ⟨p, g, r, N, n, rfl, hN, kE, kA, kQ⟩ := h
    obtain ⟨⟨dx, hob⟩, _⟩ := id hN
    refine ⟨_, (pss_one (ps_expr (pe_meth (pv 0) T.c_Net T.M_N__turn_road G_N__turn_road (hr.mono (by decide)) B_N__turn_road .nil (passes_call (takes_of rfl rfl rfl rfl) fun _ _ _ _ h => h) (pa_cons (pv 1) (pa_cons pe_bl pa_nil))))), ?_⟩
    walk_at "go"
    refine ⟨p, dx, _, rfl, hob, netF_no _ _ (by decide +kernel) (by decide +kernel), ?_⟩
    walk_at "go"
    exact ⟨p, g, r, N, n, true, rfl, hN, kE, kA, kQ⟩
end
end Toll

set_option Elab.async false
set_option maxRecDepth 100000
set_option maxHeartbeats 4000000
namespace Toll
open PySem L2
local macro_rules | `(tactic| walk_at "go1") => `(tactic| first
  | refine ⟨_, rfl, ?_⟩
  | refine ⟨rfl, ?_⟩
  | refine ⟨_, _, rfl, rfl, ?_⟩
  | refine ⟨_, _, rfl, ?_⟩
  | (with_reducible refine' ⟨log_small ?k1 ?k2, ?_⟩; (case k1 => omega); (case k2 => omega))
  | (refine' ⟨?k1, ?_⟩; (case k1 => ((with_reducible show (_ : Int) < _); omega)))
  | (refine' ⟨⟨?k1, ?k2⟩, ?_⟩; (case k1 => omega); (case k2 => omega))
  | (refine' ⟨⟨?k1, ?k2, ?k3, ?k4⟩, ?_⟩; (case k1 => omega); (case k2 => omega); (case k3 => omega); (case k4 => omega))
  | (refine' ⟨.inl ⟨?k1, ?k2⟩, ?_⟩; (case k1 => omega); (case k2 => omega))
  | (refine' ⟨.inr ⟨?k1, ?k2⟩, ?_⟩; (case k1 => omega); (case k2 => omega))
  | (refine' ⟨Evl.sz_of ?k1, ?_⟩; (case k1 => omega))
  | (refine' ⟨?k1, ?_⟩; (case k1 => ((with_reducible show (_ : Int) ≤ _); omega)))
  | refine ⟨⟨_, rfl⟩, ?_⟩
  | refine .inl ⟨_, rfl, ?_⟩ | refine .inr ⟨_, rfl, ?_⟩
  | refine iteT ?_ | refine iteF ?_)
local macro_rules | `(tactic| walk_at "go") => `(tactic| repeat (walk_at "go1"))
local macro_rules | `(tactic| walk_at "ans") => `(tactic| (intro Q' q'; walk_at "go"; (try rw [dec_int]); (try rw [dec_str]); exact q'))
local macro_rules | `(tactic| walk_at "hp") => `(tactic| first | assumption | exact upd_same | (refine' up_same ?e ?h; (case e => assumption); (case h => walk_at "hp")) | (refine' upd_at ?n ?h; (case n => walk_at "ne"); (case h => walk_at "hp")))
local macro_rules | `(tactic| walk_at "ne") => `(tactic| first | assumption | (apply Ne.symm; assumption))
local macro_rules | `(tactic| walk_at "at") => `(tactic| first | exact atI_nat (j := 0) rfl | exact atI_nat (j := 1) rfl | exact atI_nat (j := 2) rfl | exact atI_nat (j := 3) rfl | exact atI_nat (j := 4) rfl)
local macro_rules | `(tactic| walk_at "step1") => `(tactic| first
  | walk_at "go1"
  | (apply ixL_step; (case h => walk_at "hp"); (case a => walk_at "at"))
  | (apply ixT_step; (case h => walk_at "hp"); (case a => walk_at "at"))
  | (apply lenL_step; (case h => walk_at "hp")))
local macro_rules | `(tactic| walk_at "step") => `(tactic| repeat (walk_at "step1"))
section
variable {P : Program} {w : World} {K : PySem.W.Frag} {mg : Str → Option Value} {base : Heap} {A : Ads}
def spNetInit (A : Ads) : Sp := fun vs H Q _ => ∃ (p dx : Addr), vs = [.ref p] ∧ H p = some (.ins A.C_Net dx []) ∧ ∀ (g r : Addr) (H' : Hp), H g = none → H r = none → NetAt A.C_Net H' p g r ⟨[], []⟩ → Keep [p] H H' → Q .non H'
theorem ok_N_init (T : Txt K mg A) : DefOk P w K mg base CX0 1 A.N_init ["self"] (spNetInit A) := by
  obtain ⟨fd, F⟩ := T.F_N_init
  refine ⟨fd, ?_, F.binds (ps := ["self"]) fun _ _ _ _ _ _ us hl => match us, hl with | [_], _ => rfl, F.kp⟩
  refine F.ok sc_N_init (fun vs H Q E h => ?_) (fun cdv A' outer s H vs Q E hr h => ?_)
  · obtain ⟨p, dx, rfl, _⟩ := h
    rfl
  · obtain ⟨p, dx, rfl, hp, q⟩ := h
    refine ⟨_, (pss_cons (ps_fld (pv 0) pe_dnewK rfl)
      (pss_one (ps_fld (pv 0) (pe_lst pa_nil) rfl))), ?_⟩
    intro g hg
    have hpg : p ≠ g := ne_of_none hp hg
    walk_at "go"
    refine ⟨p, _, dx, [], rfl, (by rw [upd_ne hpg]; exact hp), T.c_Net, T.na_Net__gates, (by show 0 < 1000; decide), ?_⟩
    walk_at "go"
    refine ⟨Nat.zero_le _, fun r hr2 => ?_⟩
    have hpr : p ≠ r := ne_of_none upd_same hr2
    have hrg : r ≠ g := fun z => by
      subst z
      rw [upd_ne hpg.symm, upd_same] at hr2
      cases hr2
    walk_at "go"
    refine ⟨p, _, dx, _, rfl, (by rw [upd_ne hpr]; exact upd_same), T.c_Net, T.na_Net__roads, (by show 1 < 1000; decide), ?_⟩
    have hr0 : H r = none := by
      rw [upd_ne hpr.symm, upd_ne hrg] at hr2
      exact hr2
    refine q g r _ hg hr0 ⟨⟨dx, upd_same⟩, ?_, ⟨[], ?_, .nil⟩, List.nodup_nil, by simp, by simp⟩ ?_
    · rw [upd_ne hpg.symm, upd_ne hrg.symm, upd_ne hpg.symm, upd_same]
      rfl
    · rw [upd_ne hpr.symm, upd_same]
    · exact ((((Keep.of_same (Same.refl H)).upd (.inr hg)).upd (.inl (by simp))).upd (.inr hr0)).upd (.inl (by simp))
def spIsName : Sp := fun vs H Q _ => ∃ z : Str, vs = [.str z] ∧ z.length ≤ 1000 ∧ ∀ H', Same H H' → Q (.bl (isName z.cps.toList)) H'
theorem ok_is_name (T : Txt K mg A) : DefOk P w K mg base CX0 1 A.is_name ["text"] spIsName := by
  obtain ⟨fd, F⟩ := T.F_is_name
  refine ⟨fd, ?_, F.binds (ps := ["text"]) fun _ _ _ _ _ _ us hl => match us, hl with | [_], _ => rfl, F.kp⟩
  refine F.ok sc_is_name (fun vs H Q E h => ?_) (fun cdv A outer s H vs Q E hr h => ?_)
  · obtain ⟨z, rfl, _⟩ := h
    rfl
  · obtain ⟨z, rfl, hz, k⟩ := h
    refine ⟨_, (pss_cons (ps_if (PW.pt (pw_or (pt_cmpR op_eq (pv 0) pe_str (nomark _)) (pw_or1 (pt_cmpR op_gt (pe_callB call_len_str (by rfl) T.b_len PySem.boot_len (pa_cons (pv 0) pa_nil)) (pe_glob (v := .int 8) rfl T.m_MOST_SIGNS ⟨_, rfl⟩) (nomark _))))) (pss_one (ps_ret pe_bl)) pss_nil)
      (pss_cons (ps_if (pt_cmpR op_notIn_sign (pe_ix ix_str (pv 0) pe_int (fun _ _ => rfl)) (pe_glob (v := .str k_SMALL_SIGNS) rfl T.m_SMALL_SIGNS ⟨_, rfl⟩) rfl) (pss_one (ps_ret pe_bl)) pss_nil)
      (pss_one (ps_ret (pe_callB (cr_all rfl) (by rfl) T.b_all (by decide +kernel) (pa_cons (pe_lc (own := [("sign", 1)]) rfl sc_is_name.nd (pi_str (pv 0)) (blkOk_by (own := [("sign", 1)]) (N := n_is_name) (sc := defScope s_is_name) (by decide +kernel)) (fun _ _ _ _ _ => (pg_name (i := 1) sc_is_name.nd rfl (by first | exact Or.inl rfl | exact Or.inr rfl))) (fun _ _ _ _ _ => pts_nil) (fun _ _ _ _ _ => (pe_cmpR op_in_sign (pv 1) (pe_glob (v := .str k_NAME_SIGNS) rfl T.m_NAME_SIGNS ⟨_, rfl⟩) rfl))) pa_nil)))))), ?_⟩
    walk_at "go"
    refine ite2 (fun h => ?_) (fun h => ?_)
    · have e : isName z.cps.toList = false := by
        have h1 := of_decide_eq_true h
        cases h1
        rfl
      rw [← e]
      exact k _ (Same.refl H)
    · have hl : z.length = z.cps.toList.length := rfl
      have hp : 0 < z.cps.toList.length := by
        cases q : z.cps.toList with
        | nil => exact absurd (decide_eq_true (by rw [show z = (Str.ofString "") from (congrArg Str.mk (Array.toList_inj.mp q))])) h
        | cons _ _ => simp
      walk_at "go"
      refine ite2 (fun h2 => ?_) (fun h2 => ?_)
      · have h3 : (8 : Int) < z.length := of_decide_eq_true h2
        have e : isName z.cps.toList = false := by
          unfold isName
          rw [decide_eq_false (show ¬ z.cps.toList.length ≤ 8 by omega)]
          simp
        rw [← e]
        exact k _ (Same.refl H)
      · have h3 : ¬ (8 : Int) < z.length := fun q => h2 (decide_eq_true q)
        obtain ⟨c, cs, hc⟩ : ∃ c cs, z.cps.toList = c :: cs := by
          cases q : z.cps.toList with
          | nil => rw [q] at hp; cases hp
          | cons c cs => exact ⟨c, cs, rfl⟩
        walk_at "go"
        refine ⟨z, 0, c, rfl, rfl, Evl.sz_of (by omega), atI_nat (j := 0) (by rw [hc]; rfl), c, _, rfl, rfl, _, rfl, ?_⟩
        rw [mem_small k_small]
        refine ite2 (fun h4 => ?_) (fun h4 => ?_)
        · have e : isName z.cps.toList = false := by
            unfold isName
            have h5 : smallC c = false := by simpa using h4
            rw [hc, show (c :: cs).getD 0 0 = c from rfl, h5]
            simp
          rw [← e]
          exact k _ (Same.refl H)
        · have h5 : smallC c = true := by simpa using h4
          have e : isName z.cps.toList = ((z.cps.toList.map signC).all id) := by
            unfold isName
            rw [decide_eq_true hp, decide_eq_true (show z.cps.toList.length ≤ 8 by omega), hc, show (c :: cs).getD 0 0 = c from rfl, h5]
            simp
          refine ⟨_, rfl, _, rfl, fun D hD => ?_⟩
          refine lc_it (walk_str (z := z)) (fun i H' => Same H H' ∧ H' D = some (.lst (((z.cps.toList.take i).map signC).map V.bl)))
            ⟨same_up hD, upd_same⟩ (fun _ _ _ _ => trivial) ?_ ?_
          · rintro i x H1 H2 hi ⟨s1, hL⟩ ⟨rfl, c', hc', rfl⟩
            have hc2 : z.cps.toList[i]? = some c' := by rw [← hc']; simp
            refine ⟨rfl, ?_⟩
            walk_at "go"
            rw [mem_sign k_sign]
            refine ⟨_, hL, ?_, same_new s1 hD, ?_⟩
            · have : i < z.cps.size := hi
              simp
              refine Evl.sz_lt (Nat.lt_of_le_of_lt (Nat.min_le_left _ _) ?_)
              have : z.length = z.cps.size := rfl
              omega
            · rw [upd_same, List.take_add_one, hc2]
              simp
          · rintro H1 ⟨s1, hL⟩
            rw [show z.cps.size = z.cps.toList.length from rfl, List.take_length] at hL
            refine ⟨D, _, rfl, SqL.of hL, ?_⟩
            rw [← e]
            exact k _ s1
def spGate (A : Ads) : Sp := fun vs H Q E => ∃ (p g r : Addr) (N : NetD) (nm : Str) (b : Bool), vs = [.ref p, .str nm, .bl b] ∧ NetAt A.C_Net H p g r N ∧ nm.length ≤ 1000 ∧ PyData.strOk nm = true ∧
  (isName nm.cps.toList = false → ∀ H', Same H H' → E (.ref A.C_NoName) none H') ∧
  (isName nm.cps.toList = true → seesOf N.gates nm ≠ none → ∀ H', Same H H' → E (.ref A.C_SameGate) none H') ∧
  (isName nm.cps.toList = true → seesOf N.gates nm = none → 60 ≤ N.gates.length → ∀ H', Same H H' → E (.ref A.C_FullNet) none H') ∧
  (isName nm.cps.toList = true → seesOf N.gates nm = none → N.gates.length < 60 → ∀ H', NetAt A.C_Net H' p g r { N with gates := N.gates ++ [(nm, b)] } → Keep [g] H H' → Q .non H')
theorem ok_N_gate (T : Txt K mg A) : DefOk P w K mg base (L2.CX P w) 2 A.N_gate ["self", "name", "sees"] (spGate A) := by
  obtain ⟨_, G_is_name, B_is_name, K_is_name⟩ := ok_is_name (P := P) (w := w) (base := base) T
  obtain ⟨fd, F⟩ := T.F_N_gate
  refine ⟨fd, ?_, F.binds (ps := ["self", "name", "sees"]) fun _ _ _ _ _ _ us hl => match us, hl with | [_, _, _], _ => rfl, F.kp⟩
  refine F.okX sc_N_gate (fun vs H Q E h => ?_) (fun cdv A' outer s H vs Q E hr h => ?_)
  · obtain ⟨p, g, r, N, nm, b, rfl, _⟩ := h
    rfl
  · obtain ⟨p, g, r, N, nm, b, rfl, hN, hl, ho, kN, kS, kF, kQ⟩ := h
    have hu := hu_of hr
    refine ⟨_, (pss_cons (ps_if (pt_not (pt_val (pe_call G_is_name (hr.mono (by decide)) rfl T.m_is_name K_is_name B_is_name .nil pass0 (pa_cons (pv 1) pa_nil)))) (pss_one (ps_raise rfl (takes_of rfl rfl rfl rfl) (SkE.pmk_own1 PySem.F.excBase_ValueError T.e_NoName.x T.e_NoName.g T.e_NoName.k (raises_own T.e_NoName.b T.e_NoName.t) rfl (pe_joined (.cons (pe_fmtR (pv 1)) (.cons pe_str .nil)))))) pss_nil)
      (pss_cons (ps_if (pt_cmp (pc_din hu (pv 1) (pe_fld (pv 0) rfl))) (pss_one (ps_raise rfl (takes_of rfl rfl rfl rfl) (SkE.pmk_own1 PySem.F.excBase_ValueError T.e_SameGate.x T.e_SameGate.g T.e_SameGate.k (raises_own T.e_SameGate.b T.e_SameGate.t) rfl (pe_joined (.cons pe_str (.cons (pe_fmt (pv 1)) .nil)))))) pss_nil)
      (pss_cons (ps_if (pt_cmpR op_ge (pe_callB call_lenD (by rfl) T.b_len PySem.boot_len (pa_cons (pe_fld (pv 0) rfl) pa_nil)) (pe_glob (v := .int 60) rfl T.m_MOST_GATES ⟨_, rfl⟩) (nomark _)) (pss_one (ps_raise rfl (takes_of rfl rfl rfl rfl) (SkE.pmk_own1 PySem.F.excBase_ValueError T.e_FullNet.x T.e_FullNet.g T.e_FullNet.k (raises_own T.e_FullNet.b T.e_FullNet.t) rfl (pe_joined (.cons pe_str (.cons (pe_fmt (pe_glob (v := .int 60) rfl T.m_MOST_GATES ⟨_, rfl⟩)) (.cons pe_str .nil))))))) pss_nil)
      (pss_one (ps_dput hu (pe_fld (pv 0) rfl) (pv 1) (pv 2) rfl))))), ?_⟩
    walk_at "go"
    refine ⟨hl, fun H1 s1 => ?_⟩
    have hN1 := hN.same s1
    obtain ⟨⟨dx, hob⟩, hgt, ⟨us, hrt, hP⟩, hnd, l1, l2⟩ := id hN1
    cases e : isName nm.cps.toList with
    | false =>
      walk_at "go"
      refine ⟨repr_ok hl ho, ?_⟩
      walk_at "go"
      refine ⟨cat_sz2 (n := 0) (m := 20000) (by decide +kernel) (repr_sz hl ho) (by decide), ?_⟩
      walk_at "go"
      refine ⟨sz3 (by decide +kernel) (by have := repr_sz hl ho; omega) (by decide +kernel), ?_⟩
      exact kN e H1 s1
    | true =>
      walk_at "go"
      refine ⟨p, _, dx, _, _, rfl, hob, T.c_Net, T.na_Net__gates, netF_gates _ _, g, _, rfl, DGet.k (k := Sum.inr nm) hgt, _, rfl, ?_⟩
      rw [valV_gates]
      cases e2 : seesOf N.gates nm with
      | some c =>
        refine iteT ?_
        walk_at "go"
        refine ⟨by decide +kernel, ?_⟩
        walk_at "go"
        refine ⟨cat_sz (by decide +kernel) (by omega), ?_⟩
        exact kS e (by rw [e2]; simp) H1 s1
      | none =>
        refine iteF ?_
        walk_at "go"
        refine ⟨p, _, dx, _, _, rfl, hob, T.c_Net, T.na_Net__gates, netF_gates _ _, ?_⟩
        walk_at "go"
        refine ⟨g, _, rfl, hgt, ?_⟩
        walk_at "go"
        rw [show (gatesK N.gates).length = N.gates.length by simp [gatesK]]
        refine ite2 (fun h => ?_) (fun h => ?_)
        · have h : (60 : Int) ≤ N.gates.length := of_decide_eq_true h
          walk_at "go"
          refine ⟨by decide +kernel, ?_⟩
          walk_at "go"
          refine ⟨by decide +kernel, ?_⟩
          walk_at "go"
          refine ⟨by decide +kernel, ?_⟩
          exact kF e e2 (by omega) H1 s1
        · have h : ¬ (60 : Int) ≤ N.gates.length := fun z => h (decide_eq_true z)
          walk_at "go"
          refine ⟨p, _, dx, _, _, rfl, hob, T.c_Net, T.na_Net__gates, netF_gates _ _, ?_⟩
          walk_at "go"
          refine ⟨g, _, rfl, DPut.k (k := Sum.inr nm) hgt (small1000 (by simp [gatesK]; omega)), ?_⟩
          rw [putK_new_gates e2]
          refine kQ e e2 (by omega) _ (hN1.setGates (gs := N.gates ++ [(nm, b)]) ?_ (by rw [List.length_append]; simp; omega)) ((Keep.of_same s1).upd (.inl (by simp)))
          rw [List.map_append, List.nodup_append]
          refine ⟨hnd, by simp, fun x hx y hy => ?_⟩
          simp at hy
          subst hy
          intro z
          subst z
          exact (seesOf_none.mp e2) hx
end
end Toll

set_option Elab.async false
set_option maxRecDepth 100000
set_option maxHeartbeats 4000000
namespace Toll
open PySem L2
local macro_rules | `(tactic| walk_at "go1") => `(tactic| first
  | refine ⟨_, rfl, ?_⟩
  | refine ⟨rfl, ?_⟩
  | refine ⟨_, _, rfl, rfl, ?_⟩
  | refine ⟨_, _, rfl, ?_⟩
  | (with_reducible refine' ⟨log_small ?k1 ?k2, ?_⟩; (case k1 => omega); (case k2 => omega))
  | (refine' ⟨?k1, ?_⟩; (case k1 => ((with_reducible show (_ : Int) < _); omega)))
  | (refine' ⟨⟨?k1, ?k2⟩, ?_⟩; (case k1 => omega); (case k2 => omega))
  | (refine' ⟨⟨?k1, ?k2, ?k3, ?k4⟩, ?_⟩; (case k1 => omega); (case k2 => omega); (case k3 => omega); (case k4 => omega))
  | (refine' ⟨.inl ⟨?k1, ?k2⟩, ?_⟩; (case k1 => omega); (case k2 => omega))
  | (refine' ⟨.inr ⟨?k1, ?k2⟩, ?_⟩; (case k1 => omega); (case k2 => omega))
  | (refine' ⟨Evl.sz_of ?k1, ?_⟩; (case k1 => omega))
  | (refine' ⟨?k1, ?_⟩; (case k1 => ((with_reducible show (_ : Int) ≤ _); omega)))
  | refine ⟨⟨_, rfl⟩, ?_⟩
  | refine .inl ⟨_, rfl, ?_⟩ | refine .inr ⟨_, rfl, ?_⟩
  | refine iteT ?_ | refine iteF ?_)
local macro_rules | `(tactic| walk_at "go") => `(tactic| repeat (walk_at "go1"))
local macro_rules | `(tactic| walk_at "ans") => `(tactic| (intro Q' q'; walk_at "go"; (try rw [dec_int]); (try rw [dec_str]); exact q'))
local macro_rules | `(tactic| walk_at "hp") => `(tactic| first | assumption | exact upd_same | (refine' up_same ?e ?h; (case e => assumption); (case h => walk_at "hp")) | (refine' upd_at ?n ?h; (case n => walk_at "ne"); (case h => walk_at "hp")))
local macro_rules | `(tactic| walk_at "ne") => `(tactic| first | assumption | (apply Ne.symm; assumption))
local macro_rules | `(tactic| walk_at "at") => `(tactic| first | exact atI_nat (j := 0) rfl | exact atI_nat (j := 1) rfl | exact atI_nat (j := 2) rfl | exact atI_nat (j := 3) rfl | exact atI_nat (j := 4) rfl)
local macro_rules | `(tactic| walk_at "step1") => `(tactic| first
  | walk_at "go1"
  | (apply ixL_step; (case h => walk_at "hp"); (case a => walk_at "at"))
  | (apply ixT_step; (case h => walk_at "hp"); (case a => walk_at "at"))
  | (apply lenL_step; (case h => walk_at "hp")))
local macro_rules | `(tactic| walk_at "step") => `(tactic| repeat (walk_at "step1"))
section
variable {P : Program} {w : World} {K : PySem.W.Frag} {mg : Str → Option Value} {base : Heap} {A : Ads}
def spRoad (A : Ads) : Sp := fun vs H Q E => ∃ (p g r : Addr) (N : NetD) (one other : Str) (mi tl : Int), vs = [.ref p, .str one, .str other, .int mi, .int tl] ∧ NetAt A.C_Net H p g r N ∧ one.length ≤ 1000 ∧ PyData.strOk one = true ∧ other.length ≤ 1000 ∧ PyData.strOk other = true ∧
  (seesOf N.gates one = none ∨ seesOf N.gates other = none → E (.ref A.C_NoGate) none H) ∧
  (seesOf N.gates one ≠ none → seesOf N.gates other ≠ none → one = other → E (.ref A.C_SameGate) none H) ∧
  (seesOf N.gates one ≠ none → seesOf N.gates other ≠ none → one ≠ other → ¬ ((1 ≤ mi ∧ mi ≤ 1000000) ∧ (0 ≤ tl ∧ tl ≤ 1000000)) → E (.ref A.C_NoNumber) none H) ∧
  (seesOf N.gates one ≠ none → seesOf N.gates other ≠ none → one ≠ other → (1 ≤ mi ∧ mi ≤ 1000000) ∧ (0 ≤ tl ∧ tl ≤ 1000000) → 200 ≤ N.roads.length → E (.ref A.C_FullNet) none H) ∧
  (seesOf N.gates one ≠ none → seesOf N.gates other ≠ none → one ≠ other → (1 ≤ mi ∧ mi ≤ 1000000) ∧ (0 ≤ tl ∧ tl ≤ 1000000) → N.roads.length < 200 →
    ∀ H', NetAt A.C_Net H' p g r { N with roads := N.roads ++ [⟨one, other, mi, tl, true⟩] } → Keep [r] H H' → Q (.int (N.roads.length : Int)) H')
theorem ok_N_road (T : Txt K mg A) : DefOk P w K mg base (L2.CX P w) 2 A.N_road ["self", "one", "other", "minutes", "toll"] (spRoad A) := by
  obtain ⟨_, G_N_need_gate, B_N_need_gate, K_N_need_gate⟩ := ok_N_need_gate (P := P) (w := w) (base := base) T
  obtain ⟨fd, F⟩ := T.F_N_road
  refine ⟨fd, ?_, F.binds (ps := ["self", "one", "other", "minutes", "toll"]) fun _ _ _ _ _ _ us hl => match us, hl with | [_, _, _, _, _], _ => rfl, F.kp⟩
  refine F.okX sc_N_road (fun vs H Q E h => ?_) (fun cdv A' outer s H vs Q E hr h => ?_)
  · obtain ⟨p, g, r, N, one, other, mi, tl, rfl, _⟩ := h
    rfl
  · obtain ⟨p, g, r, N, one, other, mi, tl, rfl, hN, h1, o1, h2, o2, kG, kS, kN, kF, kQ⟩ := h
    obtain ⟨⟨dx, hob⟩, hgt, ⟨us, hrt, hP⟩, hnd, l1, l2⟩ := id hN
    have hus := paired_len hP
    refine ⟨_, (pss_cons (ps_expr (pe_meth (pv 0) T.c_Net T.M_N_need_gate G_N_need_gate (hr.mono (by decide)) B_N_need_gate .nil (passes_call (takes_of rfl rfl rfl rfl) fun _ _ _ _ h => h) (pa_cons (pv 1) pa_nil)))
      (pss_cons (ps_expr (pe_meth (pv 0) T.c_Net T.M_N_need_gate G_N_need_gate (hr.mono (by decide)) B_N_need_gate .nil (passes_call (takes_of rfl rfl rfl rfl) fun _ _ _ _ h => h) (pa_cons (pv 2) pa_nil)))
      (pss_cons (ps_if (pt_cmpR op_eq (pv 1) (pv 2) (nomark _)) (pss_one (ps_raise rfl (takes_of rfl rfl rfl rfl) (SkE.pmk_own1 PySem.F.excBase_ValueError T.e_SameGate.x T.e_SameGate.g T.e_SameGate.k (raises_own T.e_SameGate.b T.e_SameGate.t) rfl pe_str))) pss_nil)
      (pss_cons (ps_if (pt_not (pt_chain op_le op_le pe_int (pv 3) (pe_glob (v := .int 1000000) rfl T.m_MOST_MINUTES ⟨_, rfl⟩))) (pss_one (ps_raise rfl (takes_of rfl rfl rfl rfl) (SkE.pmk_own1 PySem.F.excBase_ValueError T.e_NoNumber.x T.e_NoNumber.g T.e_NoNumber.k (raises_own T.e_NoNumber.b T.e_NoNumber.t) rfl (pe_joined (.cons pe_str (.cons (pe_fmt (pe_glob (v := .int 1000000) rfl T.m_MOST_MINUTES ⟨_, rfl⟩)) .nil)))))) pss_nil)
      (pss_cons (ps_if (pt_not (pt_chain op_le op_le pe_int (pv 4) (pe_glob (v := .int 1000000) rfl T.m_MOST_TOLL ⟨_, rfl⟩))) (pss_one (ps_raise rfl (takes_of rfl rfl rfl rfl) (SkE.pmk_own1 PySem.F.excBase_ValueError T.e_NoNumber.x T.e_NoNumber.g T.e_NoNumber.k (raises_own T.e_NoNumber.b T.e_NoNumber.t) rfl (pe_joined (.cons pe_str (.cons (pe_fmt (pe_glob (v := .int 1000000) rfl T.m_MOST_TOLL ⟨_, rfl⟩)) .nil)))))) pss_nil)
      (pss_cons (ps_if (pt_cmpR op_ge (pe_callB call_len_seq (by rfl) T.b_len PySem.boot_len (pa_cons (pe_fld (pv 0) rfl) pa_nil)) (pe_glob (v := .int 200) rfl T.m_MOST_ROADS ⟨_, rfl⟩) (nomark _)) (pss_one (ps_raise rfl (takes_of rfl rfl rfl rfl) (SkE.pmk_own1 PySem.F.excBase_ValueError T.e_FullNet.x T.e_FullNet.g T.e_FullNet.k (raises_own T.e_FullNet.b T.e_FullNet.t) rfl (pe_joined (.cons pe_str (.cons (pe_fmt (pe_glob (v := .int 200) rfl T.m_MOST_ROADS ⟨_, rfl⟩)) (.cons pe_str .nil))))))) pss_nil)
      (pss_cons (ps_expr (pe_bm PySem.F.plainAttrs_list PySem.F.slot_list_append PySem.F.type_list_append mt_append (pe_fld (pv 0) rfl) (pa_cons (pe_tup (pa_cons (pv 1) (pa_cons (pv 2) (pa_cons (pv 3) (pa_cons (pv 4) (pa_cons pe_bl pa_nil)))))) pa_nil)))
      (pss_one (ps_ret (pe_op op_sub (pe_callB call_len_seq (by rfl) T.b_len PySem.boot_len (pa_cons (pe_fld (pv 0) rfl) pa_nil)) pe_int)))))))))), ?_⟩
    walk_at "go"
    refine ⟨p, dx, _, rfl, hob, netF_no _ _ (by decide +kernel) (by decide +kernel), ?_⟩
    walk_at "go"
    refine ⟨p, g, r, N, one, rfl, hN, h1, o1, fun e => kG (.inl e), fun b1 e1 => ?_⟩
    have e1 : seesOf N.gates one ≠ none := by rw [e1]; simp
    walk_at "go"
    refine ⟨p, dx, _, rfl, hob, netF_no _ _ (by decide +kernel) (by decide +kernel), ?_⟩
    walk_at "go"
    refine ⟨p, g, r, N, other, rfl, hN, h2, o2, fun e => kG (.inr e), fun b2 e2 => ?_⟩
    have e2 : seesOf N.gates other ≠ none := by rw [e2]; simp
    walk_at "go"
    rw [dec_str]
    refine ite2 (fun h => ?_) (fun h => ?_)
    · exact kS e1 e2 (of_decide_eq_true h)
    have e3 : one ≠ other := fun z => h (decide_eq_true z)
    walk_at "go"
    refine ite2 (fun m1 => ?_) (fun m1 => ?_)
    rotate_left
    · have m1 : ¬ 1 ≤ mi := fun z => m1 (decide_eq_true z)
      walk_at "go"
      refine ⟨by decide +kernel, ?_⟩
      walk_at "go"
      refine ⟨by decide +kernel, ?_⟩
      exact kN e1 e2 e3 (by omega)
    have m1 : 1 ≤ mi := of_decide_eq_true m1
    walk_at "go"
    refine ite2 (fun m2 => ?_) (fun m2 => ?_)
    · have m2 : ¬ mi ≤ 1000000 := by simpa using m2
      walk_at "go"
      refine ⟨by decide +kernel, ?_⟩
      walk_at "go"
      refine ⟨by decide +kernel, ?_⟩
      exact kN e1 e2 e3 (by omega)
    have m2 : mi ≤ 1000000 := by simpa using m2
    walk_at "go"
    refine ite2 (fun t1 => ?_) (fun t1 => ?_)
    rotate_left
    · have t1 : ¬ 0 ≤ tl := fun z => t1 (decide_eq_true z)
      walk_at "go"
      refine ⟨by decide +kernel, ?_⟩
      walk_at "go"
      refine ⟨by decide +kernel, ?_⟩
      exact kN e1 e2 e3 (by omega)
    have t1 : 0 ≤ tl := of_decide_eq_true t1
    walk_at "go"
    refine ite2 (fun t2 => ?_) (fun t2 => ?_)
    · have t2 : ¬ tl ≤ 1000000 := by simpa using t2
      walk_at "go"
      refine ⟨by decide +kernel, ?_⟩
      walk_at "go"
      refine ⟨by decide +kernel, ?_⟩
      exact kN e1 e2 e3 (by omega)
    have t2 : tl ≤ 1000000 := by simpa using t2
    walk_at "go"
    refine ⟨p, _, dx, _, _, rfl, hob, T.c_Net, T.na_Net__roads, netF_roads _ _, ?_⟩
    walk_at "go"
    refine ⟨r, us, rfl, .inl (SqL.of hrt), ?_⟩
    walk_at "go"
    refine ite2 (fun h => ?_) (fun h => ?_)
    · have h : (200 : Int) ≤ us.length := of_decide_eq_true h
      walk_at "go"
      refine ⟨by decide +kernel, ?_⟩
      walk_at "go"
      refine ⟨by decide +kernel, ?_⟩
      walk_at "go"
      refine ⟨by decide +kernel, ?_⟩
      exact kF e1 e2 e3 ⟨⟨m1, m2⟩, t1, t2⟩ (by omega)
    · have h : ¬ (200 : Int) ≤ us.length := fun z => h (decide_eq_true z)
      walk_at "go"
      refine ⟨p, _, dx, _, _, rfl, hob, T.c_Net, T.na_Net__roads, netF_roads _ _, ?_⟩
      refine ⟨.inl ⟨rfl, _, SqL.of hrt⟩, ?_⟩
      walk_at "go"
      refine ⟨(by show 5 ≤ sizeLine; decide), fun q hq => ?_⟩
      have hqp : p ≠ q := ne_of_none hob hq
      have hqr : r ≠ q := ne_of_none hrt hq
      walk_at "go"
      refine ⟨r, us, _, rfl, rfl, (by rw [upd_ne hqr]; exact hrt), Evl.sz_lt (by omega), ?_⟩
      walk_at "go"
      have hN2 : NetAt A.C_Net (upd H q (.tup [.str one, .str other, .int mi, .int tl, .bl true])) p g r N := hN.same (same_up hq)
      have hP2 := roads_same (same_up (o := .tup [.str one, .str other, .int mi, .int tl, .bl true]) hq) hP
      have hN3 := hN2.setRoads (us := us ++ [.ref q]) (rs := N.roads ++ [⟨one, other, mi, tl, true⟩]) (Paired.snoc hP2 ⟨q, rfl, upd_same⟩) (by rw [List.length_append]; simp; omega)
      obtain ⟨dx3, hob3⟩ := hN3.ob
      refine ⟨p, _, dx3, _, _, rfl, hob3, T.c_Net, T.na_Net__roads, netF_roads _ _, ?_⟩
      walk_at "go"
      refine ⟨r, _, rfl, .inl (SqL.of upd_same), ?_⟩
      walk_at "go"
      have e : (((us ++ [V.ref q]).length : Nat) : Int) - 1 = (N.roads.length : Int) := by
        rw [List.length_append, hus]
        simp
      show Q (V.int ((((us ++ [V.ref q]).length : Nat) : Int) - 1)) _
      rw [e]
      exact kQ e1 e2 e3 ⟨⟨m1, m2⟩, t1, t2⟩ (by omega) _ hN3 ((Keep.of_same (same_up hq)).upd (.inl (by simp)))
def spGates (A : Ads) : Sp := fun vs H Q _ => ∃ (p g r : Addr) (N : NetD), vs = [.ref p] ∧ NetAt A.C_Net H p g r N ∧ ∀ (H' : Hp) (L : Addr) (us : List V), Same H H' → H L = none → H' L = some (.lst us) → Paired (GateV H') us N.gates → Q (.ref L) H'
theorem ok_N_gates (T : Txt K mg A) : DefOk P w K mg base CX0 1 A.N_gates ["self"] (spGates A) := by
  obtain ⟨fd, F⟩ := T.F_N_gates
  refine ⟨fd, ?_, F.binds (ps := ["self"]) fun _ _ _ _ _ _ us hl => match us, hl with | [_], _ => rfl, F.kp⟩
  refine F.ok sc_N_gates (fun vs H Q E h => ?_) (fun cdv A' outer s H vs Q E hr h => ?_)
  · obtain ⟨p, g, r, N, rfl, _⟩ := h
    rfl
  · obtain ⟨p, g, r, N, rfl, hN, q⟩ := h
    obtain ⟨⟨dx, hob⟩, hgt, ⟨us, hrt, hP⟩, hnd, l1, l2⟩ := id hN
    refine ⟨_, (pss_one (ps_ret (LiI.pe_listItems rfl (pe_fld (pv 0) rfl) (by rfl) T.b_list (by decide +kernel)))), ?_⟩
    walk_at "go"
    refine ⟨p, _, dx, _, _, rfl, hob, T.c_Net, T.na_Net__gates, netF_gates _ _, ?_⟩
    walk_at "go"
    refine ⟨g, _, rfl, hgt, fun H' L ts s hL _ _ hLs hp => ?_⟩
    exact q H' L _ s hL hLs (gates_paired hp)
def spNetRoads (A : Ads) : Sp := fun vs H Q _ => ∃ (p g r : Addr) (N : NetD), vs = [.ref p] ∧ NetAt A.C_Net H p g r N ∧ ∀ (H' : Hp) (L : Addr) (us : List V), Same H H' → H L = none → H' L = some (.lst us) → Paired (RoadV H') us N.roads → Q (.ref L) H'
theorem ok_N_roads (T : Txt K mg A) : DefOk P w K mg base CX0 1 A.N_roads ["self"] (spNetRoads A) := by
  obtain ⟨fd, F⟩ := T.F_N_roads
  refine ⟨fd, ?_, F.binds (ps := ["self"]) fun _ _ _ _ _ _ us hl => match us, hl with | [_], _ => rfl, F.kp⟩
  refine F.ok sc_N_roads (fun vs H Q E h => ?_) (fun cdv A' outer s H vs Q E hr h => ?_)
  · obtain ⟨p, g, r, N, rfl, _⟩ := h
    rfl
  · obtain ⟨p, g, r, N, rfl, hN, q⟩ := h
    obtain ⟨⟨dx, hob⟩, hgt, ⟨us, hrt, hP⟩, hnd, l1, l2⟩ := id hN
    refine ⟨_, (pss_one (ps_ret (pe_callTy call_list_of (by rfl) T.b_list (by decide +kernel) (pa_cons (pe_fld (pv 0) rfl) pa_nil)))), ?_⟩
    walk_at "go"
    refine ⟨p, _, dx, _, _, rfl, hob, T.c_Net, T.na_Net__roads, netF_roads _ _, ?_⟩
    walk_at "go"
    refine ⟨r, us, rfl, .inl (SqL.of hrt), fun L hL => ?_⟩
    exact q _ L us (same_up hL) hL upd_same (roads_same (same_up hL) hP)
end
end Toll

set_option Elab.async false
set_option maxRecDepth 100000
set_option maxHeartbeats 4000000
set_option linter.all false
namespace Toll
open PySem L2
local macro_rules | `(tactic| walk_at "go1") => `(tactic| first
  | refine ⟨_, rfl, ?_⟩
  | refine ⟨rfl, ?_⟩
  | refine ⟨_, _, rfl, rfl, ?_⟩
  | refine ⟨_, _, rfl, ?_⟩
  | (with_reducible refine' ⟨log_small ?k1 ?k2, ?_⟩; (case k1 => omega); (case k2 => omega))
  | (refine' ⟨?k1, ?_⟩; (case k1 => ((with_reducible show (_ : Int) < _); omega)))
  | (refine' ⟨⟨?k1, ?k2⟩, ?_⟩; (case k1 => omega); (case k2 => omega))
  | (refine' ⟨⟨?k1, ?k2, ?k3, ?k4⟩, ?_⟩; (case k1 => omega); (case k2 => omega); (case k3 => omega); (case k4 => omega))
  | (refine' ⟨.inl ⟨?k1, ?k2⟩, ?_⟩; (case k1 => omega); (case k2 => omega))
  | (refine' ⟨.inr ⟨?k1, ?k2⟩, ?_⟩; (case k1 => omega); (case k2 => omega))
  | (refine' ⟨Evl.sz_of ?k1, ?_⟩; (case k1 => omega))
  | (refine' ⟨?k1, ?_⟩; (case k1 => ((with_reducible show (_ : Int) ≤ _); omega)))
  | refine ⟨⟨_, rfl⟩, ?_⟩
  | refine .inl ⟨_, rfl, ?_⟩ | refine .inr ⟨_, rfl, ?_⟩
  | refine iteT ?_ | refine iteF ?_)
local macro_rules | `(tactic| walk_at "go") => `(tactic| repeat (walk_at "go1"))
local macro_rules | `(tactic| walk_at "ans") => `(tactic| (intro Q' q'; walk_at "go"; (try rw [dec_int]); (try rw [dec_str]); exact q'))
local macro_rules | `(tactic| walk_at "hp") => `(tactic| first | assumption | exact upd_same | (refine' up_same ?e ?h; (case e => assumption); (case h => walk_at "hp")) | (refine' upd_at ?n ?h; (case n => walk_at "ne"); (case h => walk_at "hp")))
local macro_rules | `(tactic| walk_at "ne") => `(tactic| first | assumption | (apply Ne.symm; assumption))
local macro_rules | `(tactic| walk_at "at") => `(tactic| first | exact atI_nat (j := 0) rfl | exact atI_nat (j := 1) rfl | exact atI_nat (j := 2) rfl | exact atI_nat (j := 3) rfl | exact atI_nat (j := 4) rfl)
local macro_rules | `(tactic| walk_at "step1") => `(tactic| first
  | walk_at "go1"
  | (apply ixL_step; (case h => walk_at "hp"); (case a => walk_at "at"))
  | (apply ixT_step; (case h => walk_at "hp"); (case a => walk_at "at"))
  | (apply lenL_step; (case h => walk_at "hp")))
local macro_rules | `(tactic| walk_at "step") => `(tactic| repeat (walk_at "step1"))
section
variable {P : Program} {w : World} {K : PySem.W.Frag} {mg : Str → Option Value} {base : Heap} {A : Ads}
/-- the ways of each gate, new lists in a new dict -/
def WaysAt (H : Hp) (N : NetD) (wk : List (Key × V)) (n : Nat) : Prop := ∀ nm, seesOf N.gates nm ≠ none → ∃ a vs, valV wk (Sum.inr nm) = some (.ref a) ∧ H a = some (.lst vs) ∧ Paired (WayV H) vs (waysF N nm n)
def spWaysBy (A : Ads) : Sp := fun vs H Q _ => ∃ (p g r : Addr) (N : NetD), vs = [.ref p] ∧ NetAt A.C_Net H p g r N ∧ NetOk N ∧
  ∀ (H' : Hp) (W : Addr) (wk : List (Key × V)), Same H H' → H' W = some (.dK wk) → WaysAt H' N wk N.roads.length → Q (.ref W) H'
theorem ok_ways_by_gate (T : Txt K mg A) : DefOk P w K mg base CX0 2 A.ways_by_gate ["net"] (spWaysBy A) := by
  obtain ⟨_, G_N_gates, B_N_gates, K_N_gates⟩ := ok_N_gates (P := P) (w := w) (base := base) T
  obtain ⟨_, G_N_roads, B_N_roads, K_N_roads⟩ := ok_N_roads (P := P) (w := w) (base := base) T
  obtain ⟨fd, F⟩ := T.F_ways_by_gate
  refine ⟨fd, ?_, F.binds (ps := ["net"]) fun _ _ _ _ _ _ us hl => match us, hl with | [_], _ => rfl, F.kp⟩
  refine F.ok sc_ways_by_gate (fun vs H Q E h => ?_) (fun cdv A' outer s H vs Q E hr h => ?_)
  · obtain ⟨p, g, r, N, rfl, _⟩ := h
    rfl
  · obtain ⟨p, g, r, N, rfl, hN, hOk, q⟩ := h
    have hu := hu_of hr
    refine ⟨_, (pss_cons (ps_set (i := 1) sc_ways_by_gate.nd rfl (by first | exact Or.inl rfl | exact Or.inr rfl) pe_dnewK)
      (pss_cons (ps_set (i := 2) sc_ways_by_gate.nd rfl (by first | exact Or.inl rfl | exact Or.inr rfl) pe_dnewK)
      (pss_cons (ps_for PassesOwn.never rfl (pi_enum (by rfl) T.b_enumerate (pa_cons (pe_meth0 (pv 0) T.c_Net T.M_N_gates G_N_gates (hr.mono (by decide)) B_N_gates .nil pass0) pa_nil)) (pg_tup (by rfl) (pgs_cons (pg_name (i := 3) sc_ways_by_gate.nd rfl (by first | exact Or.inl rfl | exact Or.inr rfl)) (pgs_cons (pg_tup (by rfl) (pgs_cons (pg_name (i := 4) sc_ways_by_gate.nd rfl (by first | exact Or.inl rfl | exact Or.inr rfl)) (pgs_cons (pg_name (i := 5) sc_ways_by_gate.nd rfl (by first | exact Or.inl rfl | exact Or.inr rfl)) pgs_nil))) pgs_nil))) (pss_cons (ps_dput hu (pv 1) (pv 4) (pv 3) rfl)
      (pss_one (ps_dput hu (pv 2) (pv 4) (pe_lst pa_nil) rfl))))
      (pss_cons (ps_for PassesOwn.never rfl (pi_enum (by rfl) T.b_enumerate (pa_cons (pe_meth0 (pv 0) T.c_Net T.M_N_roads G_N_roads (hr.mono (by decide)) B_N_roads .nil pass0) pa_nil)) (pg_tup (by rfl) (pgs_cons (pg_name (i := 6) sc_ways_by_gate.nd rfl (by first | exact Or.inl rfl | exact Or.inr rfl)) (pgs_cons (pg_tup (by rfl) (pgs_cons (pg_name (i := 7) sc_ways_by_gate.nd rfl (by first | exact Or.inl rfl | exact Or.inr rfl)) (pgs_cons (pg_name (i := 8) sc_ways_by_gate.nd rfl (by first | exact Or.inl rfl | exact Or.inr rfl)) (pgs_cons (pg_name (i := 9) sc_ways_by_gate.nd rfl (by first | exact Or.inl rfl | exact Or.inr rfl)) (pgs_cons (pg_name (i := 10) sc_ways_by_gate.nd rfl (by first | exact Or.inl rfl | exact Or.inr rfl)) (pgs_cons (pg_name (i := 11) sc_ways_by_gate.nd rfl (by first | exact Or.inl rfl | exact Or.inr rfl)) pgs_nil)))))) pgs_nil))) (pss_one (ps_if (pt_val (pv 11)) (pss_one (ps_expr (pe_bm PySem.F.plainAttrs_list PySem.F.slot_list_append PySem.F.type_list_append mt_append (pe_dget hu (pv 2) (pv 7) (fun _ _ => rfl)) (pa_cons (pe_tup (pa_cons (pv 6) (pa_cons (pe_dget hu (pv 1) (pv 8) (fun _ _ => rfl)) (pa_cons (pv 9) (pa_cons (pv 10) pa_nil))))) pa_nil)))) pss_nil)))
      (pss_one (ps_ret (pv 2))))))), ?_⟩
    have gl60 := hN.l1
    have rl200 := hN.l2
    intro T0 hT0
    walk_at "go"
    intro W hW
    have hTW : T0 ≠ W := ne_of_none upd_same hW
    have nW : H W = none := by rw [upd_ne hTW.symm] at hW; exact hW
    have s1 : Same H (upd (upd H T0 (.dK [])) W (.dK [])) := same_new (same_up hT0) nW
    have h1T : (upd (upd H T0 (.dK [])) W (.dK [])) T0 = some (.dK []) := upd_at hTW upd_same
    have h1W : (upd (upd H T0 (.dK [])) W (.dK [])) W = some (.dK []) := upd_same
    generalize upd (upd H T0 (.dK [])) W (.dK []) = H1 at s1 h1T h1W
    obtain ⟨dx, hob⟩ := hN.ob
    walk_at "go"
    refine ⟨p, dx, _, rfl, s1 _ _ hob, netF_no _ _ (by decide +kernel) (by decide +kernel), p, g, r, N, rfl, hN.same s1, fun H2 Lg us2 s2 n2 h2 p2 => ?_⟩
    have gl := paired_len p2
    walk_at "go"
    have s12 := s1.trans s2
    have h2T := s2 _ _ h1T
    have h2W := s2 _ _ h1W
    have hLT : Lg ≠ T0 := (ne_of_none h1T n2).symm
    have hLW : Lg ≠ W := (ne_of_none h1W n2).symm
    refine ⟨Lg, us2, rfl, SqL.of h2, ?_⟩
    refine for_it (walk_enum (K := K) (a := Lg) (xs := us2)) (fun i σ' H' => ∃ tk wk v3 v4 v5, σ' = [some (.ref p), some (.ref T0), some (.ref W), v3, v4, v5, none, none, none, none, none, none] ∧ Keep [T0, W] H2 H' ∧ H' T0 = some (.dK tk) ∧ H' W = some (.dK wk) ∧ tk.length ≤ i ∧ wk.length ≤ i ∧
        (∀ nm t c, t < i → N.gates[t]? = some (nm, c) → valV tk (Sum.inr nm) = some (.int (t : Int)) ∧ ∃ a, valV wk (Sum.inr nm) = some (.ref a) ∧ H' a = some (.lst [])) ∧
        (∀ nm v, valV wk (Sum.inr nm) = some v → ∃ a, v = .ref a ∧ H2 a = none ∧ (∃ vs, H' a = some (.lst vs)) ∧ ∃ t c, t < i ∧ N.gates[t]? = some (nm, c)) ∧
        (∀ nm nm' v, valV wk (Sum.inr nm) = some v → valV wk (Sum.inr nm') = some v → nm = nm'))
      ⟨[], [], none, none, none, rfl, Keep.of_same (Same.refl _), h2T, h2W, Nat.le_refl _, Nat.le_refl _, fun nm t c h => absurd h (by omega), fun nm v h => (by rw [valV_nil] at h; cases h), fun nm nm' v h => (by rw [valV_nil] at h; cases h)⟩
      (fun i σ H' _ ⟨_, _, _, _, _, _, k, _⟩ => SqL.of (k _ _ h2 (by simp [hLT, hLW]))) ?_ ?_
    · rintro i x σ' H3 H4 hi ⟨tk, wk, v3, v4, v5, rfl, k3, hT3, hW3, lt, lw, f1, f2, f3⟩ ⟨t, x1, x2, rfl, ht, rfl, e3, e4⟩
      cases e3
      obtain ⟨gq, hgq, tg, rfl, htg⟩ := paired_getL p2 e4
      have kt : ∀ u, H2 u = none ∨ u = T0 ∨ u = W ∨ H3 u ≠ none := fun u => by
        cases e : H2 u with
        | none => exact .inl rfl
        | some z =>
          by_cases m : u ∈ [T0, W]
          · simp at m
            rcases m with m | m
            · exact .inr (.inl m)
            · exact .inr (.inr (.inl m))
          · exact .inr (.inr (.inr (by rw [k3 u z e m]; simp)))
      have fr3 : ∀ u, H3 u = none → H2 u = none := fun u hu => by
        rcases kt u with z | z | z | z
        · exact z
        · rw [z, hT3] at hu; cases hu
        · rw [z, hW3] at hu; cases hu
        · exact absurd hu z
      have htg3 := k3 _ _ htg (by
        have a1 : tg ≠ T0 := ne_of htg h2T (by intro z; cases z)
        have a2 : tg ≠ W := ne_of htg h2W (by intro z; cases z)
        simp [a1, a2])
      have s4 := same_up (o := HO.tup [V.int (i : Int), V.ref tg]) ht
      have hti : (upd H3 t (HO.tup [V.int (i : Int), V.ref tg])) t = some (.tup [V.int (i : Int), V.ref tg]) := upd_same
      generalize upd H3 t (HO.tup [V.int (i : Int), V.ref tg]) = H5 at s4 hti
      replace htg3 := s4 _ _ htg3
      have hT5 := s4 _ _ hT3
      have hW5 := s4 _ _ hW3
      refine ⟨t, _, rfl, SqT.of hti, rfl, ?_⟩
      walk_at "go"
      refine ⟨tg, _, rfl, SqT.of htg3, rfl, ?_⟩
      refine ⟨_, _, rfl, _, _, rfl, rfl, rfl, ?_⟩
      walk_at "go"
      have hil : i < N.gates.length := (List.getElem?_eq_some_iff.mp hgq).1
      refine ⟨T0, _, rfl, DPut.k (k := Sum.inr gq.1) hT5 (small1000 (by omega)), ?_⟩
      have hW6 := upd_at (o := HO.dK (putK tk (Sum.inr gq.1) (V.int (i : Int)))) hTW.symm hW5
      have hT6 : (upd H5 T0 (.dK (putK tk (Sum.inr gq.1) (V.int (i : Int))))) T0 = some (.dK (putK tk (Sum.inr gq.1) (V.int (i : Int)))) := upd_same
      have k6 : Keep [T0, W] H2 (upd H5 T0 (.dK (putK tk (Sum.inr gq.1) (V.int (i : Int))))) := (k3.trans (Keep.of_same s4)).upd (.inl (by simp))
      have l6 : ∀ a vs, H3 a = some (.lst vs) → (upd H5 T0 (.dK (putK tk (Sum.inr gq.1) (V.int (i : Int))))) a = some (.lst vs) := fun a vs e => upd_at (ne_of e hT3 (by intro z; cases z)) (s4 _ _ e)
      have n6 : ∀ a, (upd H5 T0 (.dK (putK tk (Sum.inr gq.1) (V.int (i : Int))))) a = none → H3 a = none := fun a e => by
        have ne : a ≠ T0 := fun z => by rw [z, hT6] at e; cases e
        rw [upd_ne ne] at e
        exact s4.free e
      generalize upd H5 T0 (.dK (putK tk (Sum.inr gq.1) (V.int (i : Int)))) = H6 at hW6 hT6 k6 l6 n6
      walk_at "go"
      refine ⟨Nat.zero_le _, fun a ha => ?_⟩
      have haW : W ≠ a := ne_of_none hW6 ha
      have haT : T0 ≠ a := ne_of_none hT6 ha
      walk_at "go"
      refine ⟨W, _, rfl, DPut.k (k := Sum.inr gq.1) (upd_at haW hW6) (small1000 (by omega)), ?_⟩
      have ha3 := n6 a ha
      have old : ∀ b vs, H3 b = some (.lst vs) → (upd (upd H6 a (.lst [])) W (.dK (putK wk (Sum.inr gq.1) (V.ref a)))) b = some (.lst vs) := fun b vs e =>
        upd_at (ne_of e hW3 (by intro z; cases z)) (upd_at (ne_of_none e ha3) (l6 b vs e))
      have hnew : (upd (upd H6 a (.lst [])) W (.dK (putK wk (Sum.inr gq.1) (V.ref a)))) a = some (.lst []) := upd_at haW.symm upd_same
      have nin : ∀ t c, t < i → N.gates[t]? ≠ some (gq.1, c) := fun t c h e => by
        have := nodup_at hN.nd e (show N.gates[i]? = some (gq.1, gq.2) from hgq)
        omega
      refine ⟨_, _, _, _, _, rfl, (k6.upd (.inr (fr3 a ha3))).upd (.inl (by simp)), upd_at hTW (upd_at haT hT6), upd_same, Nat.le_trans (putK_le _ _ _) (by omega), Nat.le_trans (putK_le _ _ _) (by omega), fun nm t' c h e => ?_, fun nm v e => ?_, fun nm nm' v e e' => ?_⟩
      · rw [valV_put, valV_put]
        by_cases z : t' = i
        · subst z
          rw [hgq] at e
          have e := Option.some.inj e
          subst e
          rw [if_pos rfl, if_pos rfl]
          exact ⟨rfl, a, rfl, hnew⟩
        · have hne : ¬ ((Sum.inr nm : Key) = Sum.inr gq.1) := fun y => nin t' c (by omega) (by rw [← key_inr.mp y]; exact e)
          rw [if_neg hne, if_neg hne]
          obtain ⟨g1, b, g2, g3⟩ := f1 nm t' c (by omega) e
          exact ⟨g1, b, g2, old b _ g3⟩
      · rw [valV_put] at e
        by_cases y : (Sum.inr nm : Key) = Sum.inr gq.1
        · rw [if_pos y] at e
          have e := Option.some.inj e
          exact ⟨a, e.symm, fr3 a ha3, ⟨[], hnew⟩, i, gq.2, by omega, by rw [key_inr.mp y]; exact hgq⟩
        · rw [if_neg y] at e
          obtain ⟨b, g1, g2, ⟨vs, g3⟩, t', c, g4, g5⟩ := f2 nm v e
          exact ⟨b, g1, g2, ⟨vs, old b _ g3⟩, t', c, by omega, g5⟩
      · rw [valV_put] at e e'
        by_cases y : (Sum.inr nm : Key) = Sum.inr gq.1 <;> by_cases y' : (Sum.inr nm' : Key) = Sum.inr gq.1
        · rw [key_inr.mp y, key_inr.mp y']
        · rw [if_pos y] at e
          rw [if_neg y'] at e'
          obtain ⟨b, g1, _, ⟨vs, g3⟩, _⟩ := f2 nm' v e'
          have e := Option.some.inj e
          rw [← e] at g1
          injection g1 with g1
          rw [← g1, ha3] at g3
          cases g3
        · rw [if_pos y'] at e'
          rw [if_neg y] at e
          obtain ⟨b, g1, _, ⟨vs, g3⟩, _⟩ := f2 nm v e
          have e' := Option.some.inj e'
          rw [← e'] at g1
          injection g1 with g1
          rw [← g1, ha3] at g3
          cases g3
        · rw [if_neg y] at e
          rw [if_neg y'] at e'
          exact f3 nm nm' v e e'
    rintro σ' H3 ⟨tk, wk, v3, v4, v5, rfl, k3, hT3, hW3, lt, lw, f1, f2, f3⟩
    have c3 : ∀ u o, H u = some o → H3 u = some o := fun u o e => k3 u o (s12 _ _ e) (by
      have a1 : u ≠ T0 := fun z => by rw [z, hT0] at e; cases e
      have a2 : u ≠ W := fun z => by rw [z, nW] at e; cases e
      simp [a1, a2])
    have c3 : Same H H3 := c3
    have n3 := hN.same c3
    walk_at "go"
    refine ⟨p, dx, _, rfl, c3 _ _ hob, netF_no _ _ (by decide +kernel) (by decide +kernel), p, g, r, N, rfl, n3, fun H4 Lr us4 s4 n4 h4 p4 => ?_⟩
    have rl := paired_len p4
    have hT4 := s4 _ _ hT3
    have hW4 := s4 _ _ hW3
    have hLW4 : Lr ≠ W := (ne_of_none hW3 n4).symm
    walk_at "go"
    refine ⟨Lr, us4, rfl, SqL.of h4, ?_⟩
    rw [gl] at f1 f2
    refine for_it (walk_enum (K := K) (a := Lr) (xs := us4)) (fun i σ' H' => ∃ v3 v4 v5 v6 v7 v8 v9 v10 v11, σ' = [some (.ref p), some (.ref T0), some (.ref W), v3, v4, v5, v6, v7, v8, v9, v10, v11] ∧ (∀ u o, H4 u = some o → (∀ nm, valV wk (Sum.inr nm) ≠ some (.ref u)) → H' u = some o) ∧
        (∀ u, H' u = none → H4 u = none) ∧ ∀ nm v, valV wk (Sum.inr nm) = some v → ∃ a vs, v = .ref a ∧ H' a = some (.lst vs) ∧ Paired (WayV H') vs (waysF N nm i))
      ⟨v3, v4, v5, none, none, none, none, none, none, rfl, fun u o e _ => e, fun u e => e, fun nm v e => ?_⟩ (fun i σ H' _ ⟨_, _, _, _, _, _, _, _, _, _, k, _⟩ => SqL.of (k _ _ h4 fun nm z => ?_)) ?_ ?_
    · obtain ⟨a, g1, g2, _, t, c, g4, g5⟩ := f2 nm v e
      obtain ⟨_, b, h1, h2⟩ := f1 nm t c g4 g5
      rw [e] at h1
      have h1 := Option.some.inj h1
      exact ⟨b, [], h1, s4 _ _ h2, .nil⟩
    · obtain ⟨a, g1, _, ⟨vs, g3⟩, _⟩ := f2 nm _ z
      injection g1 with g1
      rw [← g1, n4] at g3
      cases g3
    · rintro i x σ' H5 H6 hi ⟨v3, v4, v5, v6, v7, v8, v9, v10, v11, rfl, k5, b5, f5⟩ ⟨t, x1, x2, rfl, ht, rfl, e3, e4⟩
      cases e3
      obtain ⟨rd, hrd, rq, rfl, hrq⟩ := paired_getL p4 e4
      have il : i < N.roads.length := (List.getElem?_eq_some_iff.mp hrd).1
      have wkl : ∀ nm v, valV wk (Sum.inr nm) = some v → ∃ a vs, v = .ref a ∧ H4 a = some (.lst vs) := fun nm v e => by
        obtain ⟨a, g1, _, ⟨vs, g3⟩, _⟩ := f2 nm v e
        exact ⟨a, vs, g1, s4 _ _ g3⟩
      have nol : ∀ u o, H4 u = some o → (∀ vs, o ≠ .lst vs) → H5 u = some o := fun u o e ne => k5 u o e fun nm z => by
        obtain ⟨a, vs, g1, g2⟩ := wkl nm _ z
        injection g1 with g1
        rw [← g1, e] at g2
        exact ne vs (Option.some.inj g2)
      have hrq5 := nol _ _ hrq (by intro vs z; cases z)
      have hT5 := nol _ _ hT4 (by intro vs z; cases z)
      have hW5 := nol _ _ hW4 (by intro vs z; cases z)
      have s6 := same_up (o := HO.tup [V.int (i : Int), V.ref rq]) ht
      have b6 : ∀ u, (upd H5 t (HO.tup [V.int (i : Int), V.ref rq])) u = none → H5 u = none := fun u e => s6.free e
      have hti : (upd H5 t (HO.tup [V.int (i : Int), V.ref rq])) t = some (.tup [V.int (i : Int), V.ref rq]) := upd_same
      generalize upd H5 t (HO.tup [V.int (i : Int), V.ref rq]) = H6 at s6 b6 hti
      have hrq6 := s6 _ _ hrq5
      have hT6 := s6 _ _ hT5
      have hW6 := s6 _ _ hW5
      have st : ∀ nm, waysF N nm (i + 1) = _ := fun nm => waysF_step (nm := nm) hrd
      refine ⟨t, _, rfl, SqT.of hti, rfl, ?_⟩
      walk_at "go"
      refine ⟨rq, _, rfl, SqT.of hrq6, rfl, ?_⟩
      refine ⟨_, _, rfl, _, _, rfl, _, _, rfl, _, _, rfl, _, _, rfl, rfl, rfl, ?_⟩
      refine do_if1 rd.op (fun Q' q' => ⟨_, rfl, _, rfl, q'⟩) (fun ho => ?_) (fun ho => ?_)
      · have hrm := List.mem_of_getElem? hrd
        have h1 : ∃ a, valV wk (Sum.inr rd.one) = some (.ref a) := by
          obtain ⟨tt, c, ht1⟩ := turn_of (hOk.o1 rd hrm)
          obtain ⟨_, a, e, _⟩ := f1 rd.one tt c (List.getElem?_eq_some_iff.mp ht1).1 ht1
          exact ⟨a, e⟩
        obtain ⟨a, ha⟩ := h1
        obtain ⟨a', vs, e', ha5, hvs⟩ := f5 rd.one _ ha
        injection e' with e'
        subst e'
        have h2 : valV tk (Sum.inr rd.other) = some (.int (turnI N.gates rd.other : Int)) := by
          obtain ⟨tt, c, ht1⟩ := turn_of (hOk.o2 rd hrm)
          rw [turnI_at hN.nd ht1]
          exact (f1 rd.other tt c (List.getElem?_eq_some_iff.mp ht1).1 ht1).1
        have ha6 := s6 _ _ ha5
        have vl := paired_len hvs
        have vl2 := waysF_len N rd.one i
        walk_at "go"
        refine ⟨W, .ref a, rfl, (by have := DGet.k (k := Sum.inr rd.one) hW6; rw [ha] at this; exact this), ?_⟩
        refine ⟨.inl ⟨rfl, _, SqL.of ha6⟩, ?_⟩
        walk_at "go"
        refine ⟨T0, _, rfl, (by have := DGet.k (k := Sum.inr rd.other) hT6; rw [h2] at this; exact this), ?_⟩
        walk_at "go"
        refine ⟨(by show 4 ≤ sizeLine; decide), fun z hz => ?_⟩
        have hza : a ≠ z := ne_of_none ha6 hz
        have ha7 := upd_at (o := HO.tup (wayVs ⟨(i : Int), (turnI N.gates rd.other : Int), rd.mi, rd.tl⟩)) hza ha6
        refine ⟨a, vs, _, rfl, rfl, ha7, Evl.sz_lt (by omega), ?_⟩
        refine ⟨_, _, _, _, _, _, _, _, _, rfl, fun u o e nz => ?_, fun u e => ?_, fun nm v e => ?_⟩
        · have hu5 := s6 _ _ (k5 u o e nz)
          have nu : u ≠ a := fun y => nz rd.one (by rw [ha, y])
          exact upd_at nu (upd_at (ne_of_none hu5 hz) hu5)
        · refine b5 u (b6 u ?_)
          have nu : u ≠ a := fun y => by rw [y, upd_same] at e; cases e
          rw [upd_ne nu] at e
          exact (same_up hz).free e
        · obtain ⟨b, ws, g1, g2, g3⟩ := f5 nm v e
          subst g1
          rw [st nm]
          by_cases y : rd.one = nm
          · subst y
            rw [ha] at e
            injection e with e
            injection e with e
            subst e
            rw [ha5] at g2
            injection g2 with g2
            injection g2 with g2
            subst g2
            rw [if_pos ⟨ho, rfl⟩]
            refine ⟨a, _, rfl, upd_same, ?_⟩
            exact ways_upd ha7 (Paired.snoc (ways_same (s6.trans (same_up hz)) hvs) ⟨z, rfl, upd_same⟩)
          · rw [if_neg (fun w => y w.2)]
            have nb : b ≠ a := fun w => by
              subst w
              exact y (f3 _ _ _ ha e)
            exact ⟨b, ws, rfl, upd_at nb (upd_at (ne_of_none (s6 _ _ g2) hz) (s6 _ _ g2)), ways_upd ha7 (ways_same (s6.trans (same_up hz)) g3)⟩
      · refine ⟨_, _, _, _, _, _, _, _, _, rfl, fun u o e nz => s6 _ _ (k5 u o e nz), fun u e => b5 u (b6 u e), fun nm v e => ?_⟩
        obtain ⟨b, ws, g1, g2, g3⟩ := f5 nm v e
        rw [st nm, if_neg (fun w => by rw [ho] at w; cases w.1)]
        exact ⟨b, ws, g1, s6 _ _ g2, ways_same s6 g3⟩
    rintro σ' H5 ⟨v3, v4, v5, v6, v7, v8, v9, v10, v11, rfl, k5, b5, f5⟩
    rw [rl] at f5
    walk_at "go"
    refine q H5 W wk (fun u o e => k5 u o (s4 _ _ (c3 _ _ e)) fun nm z => ?_) (k5 _ _ hW4 fun nm z => ?_) fun nm hs => ?_
    · obtain ⟨a, g1, g2, _⟩ := f2 nm _ z
      injection g1 with g1
      rw [← g1, s12 _ _ e] at g2
      cases g2
    · obtain ⟨a, g1, g2, _⟩ := f2 nm _ z
      injection g1 with g1
      rw [← g1, h2W] at g2
      cases g2
    · obtain ⟨tt, c, ht1⟩ := turn_of hs
      obtain ⟨_, a, e, _⟩ := f1 nm tt c (List.getElem?_eq_some_iff.mp ht1).1 ht1
      obtain ⟨b, vs, g1, g2, g3⟩ := f5 nm _ e
      exact ⟨b, vs, by rw [e, g1], g2, g3⟩
end
end Toll

set_option Elab.async false
set_option maxRecDepth 100000
set_option maxHeartbeats 4000000
set_option linter.all false
namespace Toll
open PySem L2 TH
local macro_rules | `(tactic| walk_at "go1") => `(tactic| first
  | refine ⟨_, rfl, ?_⟩
  | refine ⟨rfl, ?_⟩
  | refine ⟨_, _, rfl, rfl, ?_⟩
  | refine ⟨_, _, rfl, ?_⟩
  | (with_reducible refine' ⟨log_small ?k1 ?k2, ?_⟩; (case k1 => omega); (case k2 => omega))
  | (refine' ⟨?k1, ?_⟩; (case k1 => ((with_reducible show (_ : Int) < _); omega)))
  | (refine' ⟨⟨?k1, ?k2⟩, ?_⟩; (case k1 => omega); (case k2 => omega))
  | (refine' ⟨⟨?k1, ?k2, ?k3, ?k4⟩, ?_⟩; (case k1 => omega); (case k2 => omega); (case k3 => omega); (case k4 => omega))
  | (refine' ⟨.inl ⟨?k1, ?k2⟩, ?_⟩; (case k1 => omega); (case k2 => omega))
  | (refine' ⟨.inr ⟨?k1, ?k2⟩, ?_⟩; (case k1 => omega); (case k2 => omega))
  | (refine' ⟨Evl.sz_of ?k1, ?_⟩; (case k1 => omega))
  | (refine' ⟨?k1, ?_⟩; (case k1 => ((with_reducible show (_ : Int) ≤ _); omega)))
  | refine ⟨⟨_, rfl⟩, ?_⟩
  | refine .inl ⟨_, rfl, ?_⟩ | refine .inr ⟨_, rfl, ?_⟩
  | refine iteT ?_ | refine iteF ?_)
local macro_rules | `(tactic| walk_at "go") => `(tactic| repeat (walk_at "go1"))
local macro_rules | `(tactic| walk_at "ans") => `(tactic| (intro Q' q'; walk_at "go"; (try rw [dec_int]); (try rw [dec_str]); exact q'))
local macro_rules | `(tactic| walk_at "hp") => `(tactic| first | assumption | exact upd_same | (refine' up_same ?e ?h; (case e => assumption); (case h => walk_at "hp")) | (refine' upd_at ?n ?h; (case n => walk_at "ne"); (case h => walk_at "hp")))
local macro_rules | `(tactic| walk_at "ne") => `(tactic| first | assumption | (apply Ne.symm; assumption))
local macro_rules | `(tactic| walk_at "at") => `(tactic| first | exact atI_nat (j := 0) rfl | exact atI_nat (j := 1) rfl | exact atI_nat (j := 2) rfl | exact atI_nat (j := 3) rfl | exact atI_nat (j := 4) rfl)
local macro_rules | `(tactic| walk_at "step1") => `(tactic| first
  | walk_at "go1"
  | (apply ixL_step; (case h => walk_at "hp"); (case a => walk_at "at"))
  | (apply ixT_step; (case h => walk_at "hp"); (case a => walk_at "at"))
  | (apply lenL_step; (case h => walk_at "hp")))
local macro_rules | `(tactic| walk_at "step") => `(tactic| repeat (walk_at "step1"))
section
variable {P : Program} {w : World} {K : PySem.W.Frag} {mg : Str → Option Value} {base : Heap} {A : Ads}
theorem big1m {n : Nat} (h : n ≤ 1000000) : n < sizeLine := Nat.lt_of_le_of_lt h (by decide)
def spGoOn : Sp := fun vs H Q _ => ∃ (q Lr wl : Addr) (limit : Int) (zs : List Z) (us ys : List V) (rows : List Row) (row : Row) (ws : List Way), vs = [.ref q, .ref Lr, .ref wl, .int limit] ∧ H q = some (.lst (ZV zs)) ∧ ZK H zs ∧ IsHeap zs ∧
  H Lr = some (.lst us) ∧ Paired (RowV H) us (rows ++ [row]) ∧ H wl = some (.lst ys) ∧ Paired (WayV H) ys ws ∧ q ≠ Lr ∧ q ≠ wl ∧ zs.length + ws.length ≤ 1000000 ∧
  ∀ (H' : Hp) (zs' : List Z), Keep [q] H H' → H' q = some (.lst (ZV zs')) → ZK H' zs' → IsHeap zs' → zs'.length ≤ zs.length + ws.length → (zs'.map (·.2)).Perm (zs.map (·.2) ++ (ws.filter fun x => decide (row.mi + x.mi ≤ limit)).map (wayKey row rows.length)) → Q .non H'
theorem ok_go_on (T : Txt K mg A) : DefOk P w K mg base CX0 1 A.go_on ["queue", "rows", "ways", "limit"] spGoOn := by
  obtain ⟨fd, F⟩ := T.F_go_on
  refine ⟨fd, ?_, F.binds (ps := ["queue", "rows", "ways", "limit"]) fun _ _ _ _ _ _ us hl => match us, hl with | [_, _, _, _], _ => rfl, F.kp⟩
  refine F.ok sc_go_on (fun vs H Q E h => ?_) (fun cdv A' outer s H vs Q E hr h => ?_)
  · obtain ⟨q, Lr, wl, limit, zs, us, ys, rows, row, ws, rfl, _⟩ := h
    rfl
  · obtain ⟨q, Lr, wl, limit, zs, us, ys, rows, row, ws, rfl, hq, hK, hh, hLr, hP, hwl, hW, nq1, nq2, hsz, k⟩ := h
    have ul := paired_len hP
    have yl := paired_len hW
    rw [List.length_append] at ul
    have ul : us.length = rows.length + 1 := ul
    refine ⟨_, (pss_cons (ps_set (i := 4) sc_go_on.nd rfl (by first | exact Or.inl rfl | exact Or.inr rfl) (pe_op op_sub (pe_callB call_len_seq (by rfl) T.b_len PySem.boot_len (pa_cons (pv 1) pa_nil)) pe_int))
      (pss_cons (ps_asg (pe_ix (r := rIxL K) ix_list (pv 1) (pv 4) (fun _ _ => rfl)) (pg_tup (by rfl) (pgs_cons (pg_name (i := 5) sc_go_on.nd rfl (by first | exact Or.inl rfl | exact Or.inr rfl)) (pgs_cons (pg_name (i := 6) sc_go_on.nd rfl (by first | exact Or.inl rfl | exact Or.inr rfl)) (pgs_cons (pg_name (i := 7) sc_go_on.nd rfl (by first | exact Or.inl rfl | exact Or.inr rfl)) (pgs_cons (pg_name (i := 8) sc_go_on.nd rfl (by first | exact Or.inl rfl | exact Or.inr rfl)) (pgs_cons (pg_name (i := 9) sc_go_on.nd rfl (by first | exact Or.inl rfl | exact Or.inr rfl)) pgs_nil)))))))
      (pss_one (ps_for PassesOwn.never rfl (pi_list (pv 2)) (pg_tup (by rfl) (pgs_cons (pg_name (i := 10) sc_go_on.nd rfl (by first | exact Or.inl rfl | exact Or.inr rfl)) (pgs_cons (pg_name (i := 11) sc_go_on.nd rfl (by first | exact Or.inl rfl | exact Or.inr rfl)) (pgs_cons (pg_name (i := 12) sc_go_on.nd rfl (by first | exact Or.inl rfl | exact Or.inr rfl)) (pgs_cons (pg_name (i := 13) sc_go_on.nd rfl (by first | exact Or.inl rfl | exact Or.inr rfl)) pgs_nil))))) (pss_one (ps_if (pt_cmpR op_le (pe_op op_add (pv 6) (pv 12)) (pv 3) (nomark _)) (pss_one (ps_expr (pe_callBfun (TH.call_push hr.units) (by rfl) T.q_heappush (pa_cons (pv 0) (pa_cons (pe_tup (pa_cons (pe_op op_add (pv 7) (pv 13)) (pa_cons (pe_op op_add (pv 6) (pv 12)) (pa_cons (pv 11) (pa_cons (pv 10) (pa_cons (pv 4) pa_nil)))))) pa_nil))))) pss_nil)))))), ?_⟩
    walk_at "go"
    refine ⟨Lr, us, rfl, .inl (SqL.of hLr), ?_⟩
    walk_at "go"
    obtain ⟨_, hv, t, rfl, ht⟩ := paired_get hP (i := rows.length) (y := row) (by rw [List.getElem?_append_right (Nat.le_refl _), Nat.sub_self]; rfl)
    refine ⟨Lr, us, _, _, rfl, rfl, SqL.of hLr, atI_of (j := rows.length) (by omega) hv, ?_⟩
    walk_at "go"
    refine ⟨t, _, rfl, SqT.of ht, rfl, ?_⟩
    walk_at "go"
    have eb : ((us.length : Nat) : Int) - 1 = (rows.length : Int) := by omega
    refine ⟨⟨_, SqL.of hwl⟩, for_list (K := K) (a := wl) (xs := ys) (fun i σ' H' => ∃ zs' v10 v11 v12 v13, σ' = [some (.ref q), some (.ref Lr), some (.ref wl), some (.int limit), some (.int ((us.length : Int) - 1)), some (.str row.nm), some (.int row.mi), some (.int row.tl), some (.int row.rd), some (.int row.bk), v10, v11, v12, v13] ∧
        Keep [q] H H' ∧ H' q = some (.lst (ZV zs')) ∧ ZK H' zs' ∧ IsHeap zs' ∧ zs'.length ≤ zs.length + i ∧ (zs'.map (·.2)).Perm (zs.map (·.2) ++ ((ws.take i).filter fun x => decide (row.mi + x.mi ≤ limit)).map (wayKey row rows.length)))
      ⟨zs, none, none, none, none, rfl, Keep.of_same (Same.refl _), hq, hK, hh, Nat.le_refl _, by simp⟩ (fun i σ' H' _ ⟨_, _, _, _, _, _, kp, _⟩ => SqL.of (kp _ _ hwl (by simpa using nq2.symm))) ?_ ?_⟩
    · rintro i x σ' H' hi ⟨zs', v10, v11, v12, v13, rfl, kp, hq', hK', hh', hl', hm⟩
      obtain ⟨wy, hwy, tw, rfl, htw⟩ := paired_getL hW hi
      have il : i < ws.length := (List.getElem?_eq_some_iff.mp hwy).1
      have htw' := kp _ _ htw (by
        have : tw ≠ q := ne_of htw hq (by intro z; cases z)
        simpa using this)
      walk_at "go"
      refine ⟨tw, _, rfl, SqT.of htw', rfl, ?_⟩
      refine ⟨_, _, rfl, _, _, rfl, _, _, rfl, _, _, rfl, rfl, ?_⟩
      refine do_if1 (decide (row.mi + wy.mi ≤ limit)) (by walk_at "ans") (fun hb => ?_) (fun hb => ?_)
      · have hb := of_decide_eq_true hb
        walk_at "go"
        refine ⟨(by show 5 ≤ sizeLine; decide), fun z hz => ?_⟩
        have hzq : q ≠ z := ne_of_none hq' hz
        have s1 := same_up (o := HO.tup [V.int (row.tl + wy.tl), V.int (row.mi + wy.mi), V.int wy.tn, V.int wy.rd, V.int ((us.length : Int) - 1)]) hz
        have hz1 : (upd H' z (HO.tup [V.int (row.tl + wy.tl), V.int (row.mi + wy.mi), V.int wy.tn, V.int wy.rd, V.int ((us.length : Int) - 1)])) z = some (.tup ((wayKey row rows.length wy).map V.int)) := by
          rw [upd_same, eb]
          rfl
        have hq1 := s1 _ _ hq'
        have hK1 : ZK (upd H' z (HO.tup [V.int (row.tl + wy.tl), V.int (row.mi + wy.mi), V.int wy.tn, V.int wy.rd, V.int ((us.length : Int) - 1)])) zs' := fun y hy => s1 _ _ (hK' y hy)
        have kp1 := kp.trans (Keep.of_same s1)
        generalize upd H' z (HO.tup [V.int (row.tl + wy.tl), V.int (row.mi + wy.mi), V.int wy.tn, V.int wy.rd, V.int ((us.length : Int) - 1)]) = H1 at s1 hz1 hq1 hK1 kp1
        refine ⟨q, z, wayKey row rows.length wy, zs', rfl, hq1, hK1, hz1, hh', by omega, big1m (by omega), fun zs'' pm hh'' => ?_⟩
        have hlen := pm.length_eq
        rw [List.length_cons] at hlen
        refine ⟨zs'', _, _, _, _, rfl, kp1.upd (.inl (by simp)), upd_same, fun y hy => ?_, hh'', by omega, ?_⟩
        · have : H1 y.1 = some (.tup (y.2.map V.int)) := by
            rcases List.mem_cons.mp (pm.mem_iff.mp hy) with e | e
            · rw [e]; exact hz1
            · exact hK1 y e
          rw [upd_ne (ne_of this hq1 (by intro z; cases z))]
          exact this
        · rw [filt_yes hwy (decide_eq_true hb), List.map_append, ← List.append_assoc]
          have pm2 : (zs''.map (·.2)).Perm (wayKey row rows.length wy :: zs'.map (·.2)) := pm.map (·.2)
          exact pm2.trans ((hm.cons _).trans (List.perm_append_singleton _ _).symm)
      · have hb : ¬ row.mi + wy.mi ≤ limit := of_decide_eq_false hb
        refine ⟨zs', _, _, _, _, rfl, kp, hq', hK', hh', by omega, ?_⟩
        rw [filt_no hwy (decide_eq_false hb)]
        exact hm
    · rintro σ' H' ⟨zs', v10, v11, v12, v13, rfl, kp, hq', hK', hh', hl', hm⟩
      refine k H' zs' kp hq' hK' hh' (by omega) ?_
      rw [yl, List.take_length] at hm
      exact hm
end
end Toll

set_option Elab.async false
set_option maxRecDepth 100000
set_option maxHeartbeats 4000000
set_option linter.all false
namespace Toll
open PySem L2 TH
local macro_rules | `(tactic| walk_at "go1") => `(tactic| first
  | refine ⟨_, rfl, ?_⟩
  | refine ⟨rfl, ?_⟩
  | refine ⟨_, _, rfl, rfl, ?_⟩
  | refine ⟨_, _, rfl, ?_⟩
  | (with_reducible refine' ⟨log_small ?k1 ?k2, ?_⟩; (case k1 => omega); (case k2 => omega))
  | (refine' ⟨?k1, ?_⟩; (case k1 => ((with_reducible show (_ : Int) < _); omega)))
  | (refine' ⟨⟨?k1, ?k2⟩, ?_⟩; (case k1 => omega); (case k2 => omega))
  | (refine' ⟨⟨?k1, ?k2, ?k3, ?k4⟩, ?_⟩; (case k1 => omega); (case k2 => omega); (case k3 => omega); (case k4 => omega))
  | (refine' ⟨.inl ⟨?k1, ?k2⟩, ?_⟩; (case k1 => omega); (case k2 => omega))
  | (refine' ⟨.inr ⟨?k1, ?k2⟩, ?_⟩; (case k1 => omega); (case k2 => omega))
  | (refine' ⟨Evl.sz_of ?k1, ?_⟩; (case k1 => omega))
  | (refine' ⟨?k1, ?_⟩; (case k1 => ((with_reducible show (_ : Int) ≤ _); omega)))
  | refine ⟨⟨_, rfl⟩, ?_⟩
  | refine .inl ⟨_, rfl, ?_⟩ | refine .inr ⟨_, rfl, ?_⟩
  | refine iteT ?_ | refine iteF ?_)
local macro_rules | `(tactic| walk_at "go") => `(tactic| repeat (walk_at "go1"))
local macro_rules | `(tactic| walk_at "ans") => `(tactic| (intro Q' q'; walk_at "go"; (try rw [dec_int]); (try rw [dec_str]); exact q'))
local macro_rules | `(tactic| walk_at "hp") => `(tactic| first | assumption | exact upd_same | (refine' up_same ?e ?h; (case e => assumption); (case h => walk_at "hp")) | (refine' upd_at ?n ?h; (case n => walk_at "ne"); (case h => walk_at "hp")))
local macro_rules | `(tactic| walk_at "ne") => `(tactic| first | assumption | (apply Ne.symm; assumption))
local macro_rules | `(tactic| walk_at "at") => `(tactic| first | exact atI_nat (j := 0) rfl | exact atI_nat (j := 1) rfl | exact atI_nat (j := 2) rfl | exact atI_nat (j := 3) rfl | exact atI_nat (j := 4) rfl)
local macro_rules | `(tactic| walk_at "step1") => `(tactic| first
  | walk_at "go1"
  | (apply ixL_step; (case h => walk_at "hp"); (case a => walk_at "at"))
  | (apply ixT_step; (case h => walk_at "hp"); (case a => walk_at "at"))
  | (apply lenL_step; (case h => walk_at "hp")))
local macro_rules | `(tactic| walk_at "step") => `(tactic| repeat (walk_at "step1"))
section
variable {P : Program} {w : World} {K : PySem.W.Frag} {mg : Str → Option Value} {base : Heap} {A : Ads}
def spRows (A : Ads) : Sp := fun vs H Q E => ∃ (p g r : Addr) (N : NetD) (nm : Str) (limit : Int) (goal : Option Str), vs = [.ref p, .str nm, .int limit, goalV goal] ∧ NetAt A.C_Net H p g r N ∧ NetOk N ∧ nm.length ≤ 1000 ∧ PyData.strOk nm = true ∧
  (seesOf N.gates nm = none → E (.ref A.C_NoGate) none H) ∧ (seesOf N.gates nm ≠ none → limit < 0 → E (.ref A.C_NoNumber) none H) ∧
  (seesOf N.gates nm ≠ none → 0 ≤ limit → ∃ u, Few N nm limit u ∧ ∀ (H' : Hp) (L : Addr) (us : List V) (rows : List Row), Same H H' → H L = none → H' L = some (.lst us) → Paired (RowV H') us rows → RowsPost N nm limit goal rows → RunOf N nm limit goal rows → Q (.ref L) H')
theorem ok_rows_until (T : Txt K mg A) : DefOk P w K mg base (L2.CX P w) 3 A.rows_until ["net", "gate", "limit", "goal"] (spRows A) := by
  obtain ⟨_, G_N_need_gate, B_N_need_gate, K_N_need_gate⟩ := ok_N_need_gate (P := P) (w := w) (base := base) T
  obtain ⟨_, G_N_gates, B_N_gates, K_N_gates⟩ := ok_N_gates (P := P) (w := w) (base := base) T
  obtain ⟨_, G_ways_by_gate, B_ways_by_gate, K_ways_by_gate⟩ := ok_ways_by_gate (P := P) (w := w) (base := base) T
  obtain ⟨_, G_go_on, B_go_on, K_go_on⟩ := ok_go_on (P := P) (w := w) (base := base) T
  obtain ⟨fd, F⟩ := T.F_rows_until
  refine ⟨fd, ?_, F.binds (ps := ["net", "gate", "limit", "goal"]) fun _ _ _ _ _ _ us hl => match us, hl with | [_, _, _, _], _ => rfl, F.kp⟩
  refine F.okX sc_rows_until (fun vs H Q E h => ?_) (fun cdv A' outer s H vs Q E hr h => ?_)
  · obtain ⟨p, g, r, N, nm, limit, goal, rfl, _⟩ := h
    rfl
  · obtain ⟨p, g, r, N, nm, limit, goal, rfl, hN, hOk, hl, ho, kE, kL, kQ⟩ := h
    have hu := hu_of hr
    obtain ⟨dx, hob⟩ := hN.ob
    refine ⟨_, (pss_cons (ps_expr (pe_meth (pv 0) T.c_Net T.M_N_need_gate G_N_need_gate (hr.mono (by decide)) B_N_need_gate .nil (passes_call (takes_of rfl rfl rfl rfl) fun _ _ _ _ h => h) (pa_cons (pv 1) pa_nil)))
      (pss_cons (ps_if (pt_cmpR op_lt (pv 2) pe_int (nomark _)) (pss_one (ps_raise rfl (takes_of rfl rfl rfl rfl) (SkE.pmk_own1 PySem.F.excBase_ValueError T.e_NoNumber.x T.e_NoNumber.g T.e_NoNumber.k (raises_own T.e_NoNumber.b T.e_NoNumber.t) rfl pe_str))) pss_nil)
      (pss_cons (ps_set (i := 4) sc_rows_until.nd rfl (by first | exact Or.inl rfl | exact Or.inr rfl) (pe_meth0 (pv 0) T.c_Net T.M_N_gates G_N_gates (hr.mono (by decide)) B_N_gates .nil pass0))
      (pss_cons (ps_set (i := 5) sc_rows_until.nd rfl (by first | exact Or.inl rfl | exact Or.inr rfl) (pe_call G_ways_by_gate (hr.mono (by decide)) rfl T.m_ways_by_gate K_ways_by_gate B_ways_by_gate .nil pass0 (pa_cons (pv 0) pa_nil)))
      (pss_cons (ps_set (i := 6) sc_rows_until.nd rfl (by first | exact Or.inl rfl | exact Or.inr rfl) (pe_lst (pa_cons (pe_tup (pa_cons (pv 1) (pa_cons pe_int (pa_cons pe_int (pa_cons (pe_un un_neg pe_int) (pa_cons (pe_un un_neg pe_int) pa_nil)))))) pa_nil)))
      (pss_cons (ps_set (i := 7) sc_rows_until.nd rfl (by first | exact Or.inl rfl | exact Or.inr rfl) pe_dnewK)
      (pss_cons (ps_set (i := 8) sc_rows_until.nd rfl (by first | exact Or.inl rfl | exact Or.inr rfl) (pe_lst pa_nil))
      (pss_cons (ps_expr (pe_call G_go_on (hr.mono (by decide)) rfl T.m_go_on K_go_on B_go_on .nil pass0 (pa_cons (pv 8) (pa_cons (pv 6) (pa_cons (pe_dget hu (pv 5) (pv 1) (fun _ _ => rfl)) (pa_cons (pv 2) pa_nil))))))
      (pss_cons (ps_while (passes_of rfl) (pt_truth (pv 8) (by intro _; rfl)) (pss_cons (ps_asg (pe_callBfun (TH.call_pop hr.units) (by rfl) T.q_heappop (pa_cons (pv 8) pa_nil)) (pg_tup (by rfl) (pgs_cons (pg_name (i := 9) sc_rows_until.nd rfl (by first | exact Or.inl rfl | exact Or.inr rfl)) (pgs_cons (pg_name (i := 10) sc_rows_until.nd rfl (by first | exact Or.inl rfl | exact Or.inr rfl)) (pgs_cons (pg_name (i := 11) sc_rows_until.nd rfl (by first | exact Or.inl rfl | exact Or.inr rfl)) (pgs_cons (pg_name (i := 12) sc_rows_until.nd rfl (by first | exact Or.inl rfl | exact Or.inr rfl)) (pgs_cons (pg_name (i := 13) sc_rows_until.nd rfl (by first | exact Or.inl rfl | exact Or.inr rfl)) pgs_nil)))))))
      (pss_cons (ps_asg (pe_ix (r := rIxL K) ix_list (pv 4) (pv 11) (fun _ _ => rfl)) (pg_tup (by rfl) (pgs_cons (pg_name (i := 14) sc_rows_until.nd rfl (by first | exact Or.inl rfl | exact Or.inr rfl)) (pgs_cons (pg_name (i := 15) sc_rows_until.nd rfl (by first | exact Or.inl rfl | exact Or.inr rfl)) pgs_nil))))
      (pss_cons (ps_if (PW.pt (pw_and (pt_cmp (pc_din hu (pv 14) (pv 7))) (pw_and1 (pt_cmpR op_le (pe_dget hu (pv 7) (pv 14) (fun _ _ => rfl)) (pv 10) (nomark _))))) (pss_one ps_continue) pss_nil)
      (pss_cons (ps_dput hu (pv 7) (pv 14) (pv 10) rfl)
      (pss_cons (ps_expr (pe_bm PySem.F.plainAttrs_list PySem.F.slot_list_append PySem.F.type_list_append mt_append (pv 6) (pa_cons (pe_tup (pa_cons (pv 14) (pa_cons (pv 10) (pa_cons (pv 9) (pa_cons (pv 12) (pa_cons (pv 13) pa_nil)))))) pa_nil)))
      (pss_cons (ps_if (pt_cmpR op_eq (pv 14) (pv 3) (nomark _)) (pss_one ps_break) pss_nil)
      (pss_one (ps_if (pt_not (pt_val (pv 15))) (pss_one (ps_expr (pe_call G_go_on (hr.mono (by decide)) rfl T.m_go_on K_go_on B_go_on .nil pass0 (pa_cons (pv 8) (pa_cons (pv 6) (pa_cons (pe_dget hu (pv 5) (pv 14) (fun _ _ => rfl)) (pa_cons (pv 2) pa_nil))))))) pss_nil)))))))))
      (pss_one (ps_ret (pv 6)))))))))))), ?_⟩
    walk_at "go"
    refine ⟨p, dx, _, rfl, hob, netF_no _ _ (by decide +kernel) (by decide +kernel), ?_⟩
    walk_at "go"
    refine ⟨p, g, r, N, nm, rfl, hN, hl, ho, kE, fun b1 e1 => ?_⟩
    have e1 : seesOf N.gates nm ≠ none := by rw [e1]; simp
    walk_at "go"
    refine ite2 (fun hlt => ?_) (fun hlt => ?_)
    · walk_at "go"
      exact kL e1 (of_decide_eq_true hlt)
    have h0 : 0 ≤ limit := by
      have : ¬ limit < 0 := fun z => hlt (decide_eq_true z)
      omega
    obtain ⟨u, fw, q⟩ := kQ e1 h0
    walk_at "go"
    refine ⟨p, dx, _, rfl, hob, netF_no _ _ (by decide +kernel) (by decide +kernel), p, g, r, N, rfl, hN, fun H1 Lg gs s1 n1 h1 p1 => ?_⟩
    walk_at "go"
    refine ⟨p, g, r, N, rfl, hN.same s1, hOk, fun H2 W wk s2 h2 hw => ?_⟩
    have s12 := s1.trans s2
    replace h1 := s2 _ _ h1
    replace p1 := gatesV_same s2 p1
    walk_at "go"
    have wk2 := hw nm e1
    obtain ⟨wl0, ys0, hwl0, hwl0l, hwl0p⟩ := wk2
    refine ⟨(by show 5 ≤ sizeLine; decide), fun t nt => ?_⟩
    have s3 := same_up (o := HO.tup [V.str nm, V.int 0, V.int 0, V.int (-1), V.int (-1)]) nt
    have ht3 : (upd H2 t (HO.tup [V.str nm, V.int 0, V.int 0, V.int (-1), V.int (-1)])) t = some (.tup (rowVs ⟨nm, 0, 0, -1, -1⟩)) := upd_same
    walk_at "go"
    refine ⟨(by show 1 ≤ sizeLine; decide), fun Lr nLr => ?_⟩
    have nLr2 := s3.free nLr
    have s4 := s3.trans (same_up (o := HO.lst [V.ref t]) nLr)
    have ht4 := (same_up (o := HO.lst [V.ref t]) nLr) _ _ ht3
    have hLr4 : (upd (upd H2 t (HO.tup [V.str nm, V.int 0, V.int 0, V.int (-1), V.int (-1)])) Lr (HO.lst [V.ref t])) Lr = some (.lst [.ref t]) := upd_same
    walk_at "go"
    intro Fd nFd
    have nFd2 := s4.free nFd
    have s5 := s4.trans (same_up (o := HO.dK []) nFd)
    have ht5 := (same_up (o := HO.dK []) nFd) _ _ ht4
    have hLr5 := (same_up (o := HO.dK []) nFd) _ _ hLr4
    have hFd5 : (upd (upd (upd H2 t (HO.tup [V.str nm, V.int 0, V.int 0, V.int (-1), V.int (-1)])) Lr (HO.lst [V.ref t])) Fd (HO.dK [])) Fd = some (.dK []) := upd_same
    walk_at "go"
    refine ⟨Nat.zero_le _, fun Lq nLq => ?_⟩
    have nLq2 := s5.free nLq
    have s6 := s5.trans (same_up (o := HO.lst []) nLq)
    have ht6 := (same_up (o := HO.lst []) nLq) _ _ ht5
    have hLr6 := (same_up (o := HO.lst []) nLq) _ _ hLr5
    have hFd6 := (same_up (o := HO.lst []) nLq) _ _ hFd5
    have hne : Lq ≠ Lr := (ne_of_none hLr5 nLq).symm
    have hLq6 : (upd (upd (upd (upd H2 t (HO.tup [V.str nm, V.int 0, V.int 0, V.int (-1), V.int (-1)])) Lr (HO.lst [V.ref t])) Fd (HO.dK [])) Lq (HO.lst [])) Lq = some (.lst (ZV [])) := upd_same
    generalize upd (upd (upd (upd H2 t (HO.tup [V.str nm, V.int 0, V.int 0, V.int (-1), V.int (-1)])) Lr (HO.lst [V.ref t])) Fd (HO.dK [])) Lq (HO.lst []) = H6 at s6 ht6 hLr6 hFd6 hLq6
    clear s3 s4 s5 ht3 ht4 ht5 hLr4 hLr5 hFd5 nt nLr nFd nLq
    walk_at "go"
    refine ⟨W, .ref wl0, rfl, (by have := DGet.k (k := Sum.inr nm) (s6 _ _ h2); rw [hwl0] at this; exact this), ?_⟩
    walk_at "go"
    have rl200 := hN.l2
    have gl60 := hN.l1
    have wfl := waysF_len N nm N.roads.length
    have nqw : Lq ≠ wl0 := fun z => by rw [← z, nLq2] at hwl0l; cases hwl0l
    refine ⟨Lq, Lr, wl0, limit, [], [.ref t], ys0, [], ⟨nm, 0, 0, -1, -1⟩, _, rfl, hLq6, (fun z hz => by cases hz), (fun i _ hl => absurd hl (by simp)), hLr6, .cons ⟨t, rfl, ht6⟩ .nil, s6 _ _ hwl0l, ways_same s6 hwl0p, hne, nqw, by simp; omega, fun H7 zs kp7 hLq7 hK7 hh7 hl7 hp7 => ?_⟩
    have hm7 := keys_mem hp7
    have s7 : Same H2 H7 := same_keep s6 kp7 fun x hx => by rw [List.mem_singleton] at hx; rw [hx]; exact nLq2
    have hLr7 := kp7 _ _ hLr6 (by simpa using hne.symm)
    have hFd7 := kp7 _ _ hFd6 (by have : Fd ≠ Lq := ne_of hFd6 hLq6 (by intro z; cases z)
                                  simpa using this)
    have ht7 := kp7 _ _ ht6 (by have : t ≠ Lq := ne_of ht6 hLq6 (by intro z; cases z)
                                simpa using this)
    have L0 : Loop N nm limit u goal [⟨nm, 0, 0, -1, -1⟩] (zs.map (·.2)) [] := by
      have no : ∀ (k : Nat) (row : Row), 0 < k → ([⟨nm, 0, 0, -1, -1⟩] : List Row)[k]? = some row → False := fun k row h e => by
        have := (List.getElem?_eq_some_iff.mp e).1
        simp at this
        omega
      refine ⟨(rinv0 N nm limit).grow fun x hx => ?_, fun b i rb rd hb hg => ?_, fun nm' v e => ?_, fun nm' _ j row h e => (no j row h e).elim, Nat.zero_le _, fun j row h e => (no j row h e).elim, fun w _ j row h e => (no j row h e).elim⟩
      · rcases (hm7 x).mp hx with e | ⟨y, hy, hl', ex⟩
        · simp at e
        · subst ex
          obtain ⟨i, rd, g1, k1⟩ := keys_in hOk (limit := limit) (rows := []) (row := ⟨nm, 0, 0, -1, -1⟩) (.inl rfl) hy hl'
          exact .inr ⟨⟨_, i, _, rd, g1, k1⟩, fun j row h e => (no j row h e).elim⟩
      · have hb0 : b = 0 := by simpa using hb
        subst hb0
        have e0 := hg.hb
        have e0 := (Option.some.inj e0).symm
        subst e0
        obtain ⟨y, hy, hl', hik⟩ := keys_out hOk (rows := []) hg
        exact .inr ⟨_, (hm7 _).mpr (.inr ⟨y, hy, hl', rfl⟩), hik⟩
      · rw [valV_nil] at e
        cases e
    dsimp only
    refine seq_while (fun m σ' H' => ∃ (rows : List Row) (us : List V) (zs : List Z) (fk : List (Key × V)) (v9 v10 v11 v12 v13 v14 v15 : Option V), σ' = [some (.ref p), some (.str nm), some (.int limit), some (goalV goal), some (.ref Lg), some (.ref W), some (.ref Lr), some (.ref Fd), some (.ref Lq), v9, v10, v11, v12, v13, v14, v15] ∧
        Same H2 H' ∧ H' Lr = some (.lst us) ∧ Paired (RowV H') us rows ∧ H' Fd = some (.dK fk) ∧ H' Lq = some (.lst (ZV zs)) ∧ ZK H' zs ∧ IsHeap zs ∧ Loop N nm limit u goal rows (zs.map (·.2)) fk ∧ zs.length ≤ 200 * rows.length ∧ m = (4000 - rows.length) * 201 + zs.length ∧ ∀ fin, Run N limit goal rows (zs.map (·.2)) fin → RunOf N nm limit goal fin)
      _ ⟨[⟨nm, 0, 0, -1, -1⟩], [.ref t], zs, [], none, none, none, none, none, none, none, rfl, s7, hLr7, .cons ⟨t, rfl, ht7⟩ .nil, hFd7, hLq7, hK7, hh7, L0, by simp at hl7 ⊢; omega, rfl, fun fin h => Run.perm h hp7.symm⟩ ?_
    clear L0 hm7 hp7 hl7 hh7 hK7 hLq7 hFd7 hLr7 ht7 s7 kp7 hLq6 hFd6 hLr6 ht6 s6
    rintro m σ' H8 ⟨rows, us, zs, fk, v9, v10, v11, v12, v13, v14, v15, rfl, s8, hLr, hP, hFd, hLq, hK, hh, lp, hzl, rfl, hrun⟩
    have hlen := lp.len hOk gl60 fw
    have hul := paired_len hP
    refine ⟨!zs.isEmpty, fun Q' q' => ⟨_, rfl, _, .inl ⟨_, SqL.of hLq, rfl⟩, by rw [List.isEmpty_map]; exact q'⟩, fun hb => ?_, fun hb => ?_⟩
    rotate_left
    · have hz : zs = [] := by simpa using hb
      subst hz
      walk_at "go"
      exact q H8 Lr us rows (s12.trans s8) (s12.free nLr2) hLr hP (lp.post hOk gl60 fw) (hrun _ .done)
    have hz : zs ≠ [] := by simpa using hb
    walk_at "go"
    refine ⟨Lq, zs, rfl, hLq, hK, hh, hz, fun z zs' pm hh' hmin => ?_⟩
    have hpk := perm_keys pm
    have hpp : (zs.map (·.2)).Perm (z.2 :: zs'.map (·.2)) := (pm.map (·.2)).symm
    have hzm : z.2 ∈ zs.map (·.2) := (hpk _).mpr (.inl rfl)
    obtain ⟨b, i, rb, rd, hg, tn, c, htn, hkey⟩ := lp.inv.q1 _ hzm
    have hz2 : z ∈ zs := pm.mem_iff.mp (List.mem_cons_self ..)
    have hzt := hK z hz2
    rw [hkey] at hzt
    have hnk : N.gates[(z.2.getD 2 0).toNat]? = some (rd.other, c) := by
      rw [hkey]
      show N.gates[((tn : Nat) : Int).toNat]? = _
      rw [Int.toNat_natCast]
      exact htn
    have hmk : z.2.getD 1 0 = rb.mi + rd.mi := by rw [hkey]; rfl
    have hrk : keyRow rd.other z.2 = ⟨rd.other, rb.mi + rd.mi, rb.tl + rd.tl, (i : Int), (b : Int)⟩ := by rw [hkey]; rfl
    have hkmin : ∀ y ∈ zs'.map (·.2), kLe z.2 y := fun y hy => by
      obtain ⟨x, hx, e⟩ := List.mem_map.mp hy
      rw [← e]
      exact hmin x hx
    have hbe := lp.beat hnk
    rw [hmk] at hbe
    have hK9 : ZK (upd H8 Lq (.lst (ZV zs'))) zs' := ZK_tk (TK.up hLq (by intro xs z; cases z)) fun y hy => hK y (pm.mem_iff.mp (List.mem_cons_of_mem _ hy))
    have s9 : Same H2 (upd H8 Lq (.lst (ZV zs'))) := same_new s8 nLq2
    have tk9 : TK H8 (upd H8 Lq (.lst (ZV zs'))) := TK.up hLq (by intro xs z; cases z)
    have hLr9 := upd_at (o := HO.lst (ZV zs')) hne.symm hLr
    have hFd9 := upd_at (o := HO.lst (ZV zs')) (ne_of hFd hLq (by intro z; cases z)) hFd
    have hLq9 : (upd H8 Lq (.lst (ZV zs'))) Lq = some (.lst (ZV zs')) := upd_same
    generalize upd H8 Lq (.lst (ZV zs')) = H9 at hK9 s9 tk9 hLr9 hFd9 hLq9
    have hzt9 := tk9 _ _ hzt
    have hP9 := rows_tk tk9 hP
    clear hzt hLr hFd hLq hP hK
    have hzlen := pm.length_eq
    rw [List.length_cons] at hzlen
    refine ⟨z.1, _, rfl, SqT.of hzt9, rfl, ?_⟩
    walk_at "go"
    have hgl9 := s9 _ _ h1
    obtain ⟨gv, hgv, tg, rfl, htg⟩ := paired_get p1 htn
    refine ⟨Lg, gs, _, _, rfl, rfl, SqL.of hgl9, atI_nat (j := tn) hgv, ?_⟩
    walk_at "go"
    refine ⟨tg, _, rfl, SqT.of (s9 _ _ htg), rfl, ?_⟩
    refine ⟨_, _, rfl, _, _, rfl, rfl, ?_⟩
    dsimp only [List.set]
    refine seq_if1 (match valV fk (Sum.inr rd.other : Key) with | some (.int f) => decide (f ≤ rb.mi + rd.mi) | _ => false) (fun Q' q' => ?_) (fun hbt => ?_) (fun hbf => ?_)
    · walk_at "go"
      refine ⟨Fd, _, rfl, DGet.k (k := Sum.inr rd.other) hFd9, _, rfl, ?_⟩
      cases e : valV fk (Sum.inr rd.other : Key) with
      | none =>
        rw [e] at q'
        refine iteF ?_
        exact q'
      | some v =>
        obtain ⟨j, row, _, _, _, ev, _⟩ := lp.f1 _ _ e
        subst ev
        rw [e] at q'
        refine iteT ?_
        walk_at "go"
        refine ⟨Fd, _, rfl, (by have := DGet.k (k := Sum.inr rd.other) hFd9; rw [e] at this; exact this), ?_⟩
        walk_at "go"
        exact q'
    · cases e : valV fk (Sum.inr rd.other : Key) with
      | none => rw [e] at hbt; cases hbt
      | some v =>
        obtain ⟨j, row, _, _, _, ev, _⟩ := lp.f1 _ _ e
        subst ev
        rw [e] at hbt
        have hle : row.mi ≤ rb.mi + rd.mi := of_decide_eq_true hbt
        walk_at "go"
        exact ⟨_, (by omega), rows, us, zs', fk, _, _, _, _, _, _, _, rfl, s9, hLr9, hP9, hFd9, hLq9, hK9, hh', lp.skip hOk hpk hkey (by rw [Int.toNat_natCast]; exact htn) e hle, (by omega), rfl, fun fin h => hrun fin (.skip hpp hkmin (hbe.mpr ⟨_, e, hle⟩) h)⟩
    have hd : ∀ j row, 0 < j → rows[j]? = some row → row.nm = rd.other → rb.mi + rd.mi < row.mi := fun j row h0 hj hn => by
      cases e : valV fk (Sum.inr rd.other : Key) with
      | none => exact absurd hn (lp.f0 _ e j row h0 hj)
      | some v =>
        obtain ⟨j2, row2, _, _, _, ev, hm2⟩ := lp.f1 _ _ e
        subst ev
        rw [e] at hbf
        have hle : ¬ row2.mi ≤ rb.mi + rd.mi := of_decide_eq_false hbf
        have := hm2 j row h0 hj hn
        omega
    have hnb : ¬ Beat N rows z.2 := fun hb => by
      obtain ⟨f, e, hf⟩ := hbe.mp hb
      rw [e] at hbf
      have hle : ¬ f ≤ rb.mi + rd.mi := of_decide_eq_false hbf
      exact hle hf
    have fkl := lp.fl
    walk_at "go"
    refine ⟨Fd, _, rfl, DPut.k (k := Sum.inr rd.other) hFd9 (Evl.sz_lt (by omega)), ?_⟩
    have s10 : Same H2 (upd H9 Fd (.dK (putK fk (Sum.inr rd.other) (.int (rb.mi + rd.mi))))) := same_new s9 nFd2
    have tk10 : TK H9 (upd H9 Fd (.dK (putK fk (Sum.inr rd.other) (.int (rb.mi + rd.mi))))) := TK.up hFd9 (by intro xs z; cases z)
    have hLr10 := upd_at (o := HO.dK (putK fk (Sum.inr rd.other) (.int (rb.mi + rd.mi)))) (ne_of hLr9 hFd9 (by intro z; cases z)) hLr9
    have hLq10 := upd_at (o := HO.dK (putK fk (Sum.inr rd.other) (.int (rb.mi + rd.mi)))) (ne_of hLq9 hFd9 (by intro z; cases z)) hLq9
    have hFd10 : (upd H9 Fd (.dK (putK fk (Sum.inr rd.other) (.int (rb.mi + rd.mi))))) Fd = some (.dK (putK fk (Sum.inr rd.other) (.int (rb.mi + rd.mi)))) := upd_same
    generalize upd H9 Fd (.dK (putK fk (Sum.inr rd.other) (.int (rb.mi + rd.mi)))) = H10 at s10 tk10 hLr10 hLq10 hFd10
    have hP10 := rows_tk tk10 hP9
    have hK10 := ZK_tk tk10 hK9
    clear hP9 hK9 hLr9 hLq9 hFd9 hzt9 tk9 hgl9
    walk_at "go"
    refine ⟨.inl ⟨rfl, _, SqL.of hLr10⟩, ?_⟩
    walk_at "go"
    refine ⟨(by show 5 ≤ sizeLine; decide), fun tt ntt => ?_⟩
    have s11 := same_up (o := HO.tup [V.str rd.other, V.int (rb.mi + rd.mi), V.int (rb.tl + rd.tl), V.int (i : Int), V.int (b : Int)]) ntt
    have htt : (upd H10 tt (HO.tup [V.str rd.other, V.int (rb.mi + rd.mi), V.int (rb.tl + rd.tl), V.int (i : Int), V.int (b : Int)])) tt = some (.tup (rowVs ⟨rd.other, rb.mi + rd.mi, rb.tl + rd.tl, (i : Int), (b : Int)⟩)) := upd_same
    have hLr11 := s11 _ _ hLr10
    refine ⟨Lr, us, _, rfl, rfl, hLr11, Evl.sz_lt (by omega), ?_⟩
    have hP12 := rows_upd (o := HO.lst (us ++ [V.ref tt])) hLr11 (Paired.snoc (rows_same s11 hP10) ⟨tt, rfl, htt⟩)
    have s12b : Same H2 (upd (upd H10 tt (HO.tup [V.str rd.other, V.int (rb.mi + rd.mi), V.int (rb.tl + rd.tl), V.int (i : Int), V.int (b : Int)])) Lr (HO.lst (us ++ [V.ref tt]))) := same_new (s10.trans s11) nLr2
    have hLr12 : (upd (upd H10 tt (HO.tup [V.str rd.other, V.int (rb.mi + rd.mi), V.int (rb.tl + rd.tl), V.int (i : Int), V.int (b : Int)])) Lr (HO.lst (us ++ [V.ref tt]))) Lr = some (.lst (us ++ [V.ref tt])) := upd_same
    have hLq12 := upd_at (o := HO.lst (us ++ [V.ref tt])) hne (s11 _ _ hLq10)
    have hFd12 := upd_at (o := HO.lst (us ++ [V.ref tt])) (ne_of (s11 _ _ hFd10) hLr11 (by intro z; cases z)) (s11 _ _ hFd10)
    have hK12 := ZK_tk (TK.up (o := HO.lst (us ++ [V.ref tt])) hLr11 (by intro xs z; cases z)) (ZK_tk (TK.same s11) hK10)
    generalize upd (upd H10 tt (HO.tup [V.str rd.other, V.int (rb.mi + rd.mi), V.int (rb.tl + rd.tl), V.int (i : Int), V.int (b : Int)])) Lr (HO.lst (us ++ [V.ref tt])) = H12 at hP12 s12b hLr12 hLq12 hFd12 hK12
    clear hP10 hK10 hLr10 hLq10 hFd10 s10 s11 tk10 htt hLr11 s9 s8
    have hlen12 : (rows ++ [(⟨rd.other, rb.mi + rd.mi, rb.tl + rd.tl, (i : Int), (b : Int)⟩ : Row)]).length = rows.length + 1 := by simp
    dsimp only [List.set]
    refine seq_if1 (decide (goal = some rd.other)) (fun Q' q' => ?_) (fun hgb => ?_) (fun hgb => ?_)
    · have e : decide (V.str rd.other = goalV goal) = decide (goal = some rd.other) := by
        cases goal with
        | none => rw [decide_eq_false (show ¬ V.str rd.other = goalV none by intro z; cases z), decide_eq_false (show ¬ (none : Option Str) = some rd.other by intro z; cases z)]
        | some w => exact decide_eq_decide.mpr ⟨fun h => by injection h with h; rw [h], fun h => by rw [Option.some.inj h]; rfl⟩
      have hs : scal (V.str rd.other) (goalV goal) = true := by cases goal <;> rfl
      walk_at "go"
      first
        | (refine ⟨hs, _, rfl, ?_⟩; rw [e]; exact q')
        | (rw [e]; exact q')
    · have hgo : goal = some rd.other := of_decide_eq_true hgb
      walk_at "go"
      exact q H12 Lr _ _ (s12.trans s12b) (s12.free nLr2) hLr12 hP12 (lp.last hOk gl60 fw hpk hkmin hkey htn hd hgo) (hrun _ (hrk ▸ .last hpp hkmin hnb hnk hgo))
    have hgo : ¬ goal = some rd.other := of_decide_eq_false hgb
    have hgw : ∀ w, goal = some w → rd.other ≠ w := fun w hw e => hgo (by rw [hw, e])
    refine do_if1 (!c) (fun Q' q' => ⟨_, rfl, _, rfl, q'⟩) (fun hc => ?_) (fun hc => ?_)
    · have hc : c = false := by simpa using hc
      subst hc
      obtain ⟨wl, ys, hwl, hwll, hwlp⟩ := hw rd.other (hOk.o2 rd (List.mem_of_getElem? hg.hr))
      have wfl2 := waysF_len N rd.other N.roads.length
      have nqw2 : Lq ≠ wl := fun z => by rw [← z, nLq2] at hwll; cases hwll
      walk_at "go"
      refine ⟨W, .ref wl, rfl, (by have := DGet.k (k := Sum.inr rd.other) (s12b _ _ h2); rw [hwl] at this; exact this), ?_⟩
      walk_at "go"
      refine ⟨Lq, Lr, wl, limit, zs', us ++ [.ref tt], ys, rows, ⟨rd.other, rb.mi + rd.mi, rb.tl + rd.tl, (i : Int), (b : Int)⟩, _, rfl, hLq12, hK12, hh', hLr12, hP12, s12b _ _ hwll, ways_same s12b hwlp, hne, nqw2, by omega, fun H13 zs2 kp hLq13 hK13 hh13 hl13 hp13 => ?_⟩
      have hm13 := keys_mem hp13
      have s13 : Same H2 H13 := same_keep s12b kp fun x hx => by rw [List.mem_singleton] at hx; rw [hx]; exact nLq2
      have hLr13 := kp _ _ hLr12 (by simpa using hne.symm)
      have hFd13 := kp _ _ hFd12 (by have : Fd ≠ Lq := ne_of hFd12 hLq12 (by intro z; cases z)
                                     simpa using this)
      have tk13 : TK H12 H13 := TK.keep kp fun a ha xs e => by
        rw [List.mem_singleton] at ha
        rw [ha, hLq12] at e
        cases e
      exact ⟨_, (by rw [hlen12]; omega), _, _, zs2, _, _, _, _, _, _, _, _, rfl, s13, hLr13, rows_tk tk13 hP12, hFd13, hLq13, hK13, hh13,
        lp.next hOk fw hpk hkmin hkey htn hd hgw (fun x => by
          rw [hm13 x]
          constructor
          · rintro (e | e)
            · exact .inl e
            · exact .inr ⟨rfl, e⟩
          · rintro (e | ⟨_, e⟩)
            · exact .inl e
            · exact .inr e), (by rw [hlen12]; omega), rfl, fun fin h => hrun fin (.next hpp hkmin hnb hnk hgo (hrk.symm ▸ h.perm hp13.symm))⟩
    · have hc : c = true := by simpa using hc
      subst hc
      exact ⟨_, (by rw [hlen12]; omega), _, _, zs', _, _, _, _, _, _, _, _, rfl, s12b, hLr12, hP12, hFd12, hLq12, hK12, hh',
        lp.next hOk fw hpk hkmin hkey htn hd hgw (fun x => ⟨fun e => .inl e, fun e => by rcases e with e | ⟨e, _⟩; exact e; cases e⟩), (by rw [hlen12]; omega), rfl, fun fin h => hrun fin (.next hpp hkmin hnb hnk hgo (hrk.symm ▸ h.perm (by rw [if_pos rfl, List.append_nil])))⟩
end
end Toll

set_option Elab.async false
set_option maxRecDepth 100000
set_option maxHeartbeats 4000000
set_option linter.all false
namespace Toll
open PySem L2
local macro_rules | `(tactic| walk_at "go1") => `(tactic| first
  | refine ⟨_, rfl, ?_⟩
  | refine ⟨rfl, ?_⟩
  | refine ⟨_, _, rfl, rfl, ?_⟩
  | refine ⟨_, _, rfl, ?_⟩
  | (with_reducible refine' ⟨log_small ?k1 ?k2, ?_⟩; (case k1 => omega); (case k2 => omega))
  | (refine' ⟨?k1, ?_⟩; (case k1 => ((with_reducible show (_ : Int) < _); omega)))
  | (refine' ⟨⟨?k1, ?k2⟩, ?_⟩; (case k1 => omega); (case k2 => omega))
  | (refine' ⟨⟨?k1, ?k2, ?k3, ?k4⟩, ?_⟩; (case k1 => omega); (case k2 => omega); (case k3 => omega); (case k4 => omega))
  | (refine' ⟨.inl ⟨?k1, ?k2⟩, ?_⟩; (case k1 => omega); (case k2 => omega))
  | (refine' ⟨.inr ⟨?k1, ?k2⟩, ?_⟩; (case k1 => omega); (case k2 => omega))
  | (refine' ⟨Evl.sz_of ?k1, ?_⟩; (case k1 => omega))
  | (refine' ⟨?k1, ?_⟩; (case k1 => ((with_reducible show (_ : Int) ≤ _); omega)))
  | refine ⟨⟨_, rfl⟩, ?_⟩
  | refine .inl ⟨_, rfl, ?_⟩ | refine .inr ⟨_, rfl, ?_⟩
  | refine iteT ?_ | refine iteF ?_)
local macro_rules | `(tactic| walk_at "go") => `(tactic| repeat (walk_at "go1"))
local macro_rules | `(tactic| walk_at "ans") => `(tactic| (intro Q' q'; walk_at "go"; (try rw [dec_int]); (try rw [dec_str]); exact q'))
local macro_rules | `(tactic| walk_at "hp") => `(tactic| first | assumption | exact upd_same | (refine' up_same ?e ?h; (case e => assumption); (case h => walk_at "hp")) | (refine' upd_at ?n ?h; (case n => walk_at "ne"); (case h => walk_at "hp")))
local macro_rules | `(tactic| walk_at "ne") => `(tactic| first | assumption | (apply Ne.symm; assumption))
local macro_rules | `(tactic| walk_at "at") => `(tactic| first | exact atI_nat (j := 0) rfl | exact atI_nat (j := 1) rfl | exact atI_nat (j := 2) rfl | exact atI_nat (j := 3) rfl | exact atI_nat (j := 4) rfl)
local macro_rules | `(tactic| walk_at "step1") => `(tactic| first
  | walk_at "go1"
  | (apply ixL_step; (case h => walk_at "hp"); (case a => walk_at "at"))
  | (apply ixT_step; (case h => walk_at "hp"); (case a => walk_at "at"))
  | (apply lenL_step; (case h => walk_at "hp")))
local macro_rules | `(tactic| walk_at "step") => `(tactic| repeat (walk_at "step1"))
section
variable {P : Program} {w : World} {K : PySem.W.Frag} {mg : Str → Option Value} {base : Heap} {A : Ads}
def spLine : Sp := fun vs H Q _ => ∃ (n : Int) (Lg : Addr) (gts : List Addr) (gs : List (Str × Bool)) (u : Int), vs = [.int n, .ref Lg, .int u] ∧ H Lg = some (.lst (gts.map V.ref)) ∧ GL H gts gs ∧ GsOk gs ∧ 0 ≤ n ∧ 1 ≤ u ∧ u ≤ 100000 ∧
  ∀ (H' : Hp) (L : Addr) (r : RoadD), Same H H' → H L = none → H' L = some (.lst (roadVs r)) → LineOk gs u r → Q (.ref L) H'
theorem ok_l_line (T : Txt K mg A) : DefOk P w K mg base CX0 1 A.l_line ["_law_number", "_law_gates_here", "_law_unit_here"] spLine := by
  obtain ⟨fd, F⟩ := T.F_l_line
  refine ⟨fd, ?_, F.binds (ps := ["_law_number", "_law_gates_here", "_law_unit_here"]) fun _ _ _ _ _ _ us hl => match us, hl with | [_, _, _], _ => rfl, F.kp⟩
  refine F.ok sc_l_line (fun vs H Q E h => ?_) (fun cdv A' outer s H vs Q E hr h => ?_)
  · obtain ⟨n, Lg, gts, gs, u, rfl, _⟩ := h
    rfl
  · obtain ⟨n, Lg, gts, gs, u, rfl, hLg, hG, ok, hn, hu1, hu2, q⟩ := h
    have gl := paired_len hG
    have l2 := ok.l2
    have l60 := ok.l60
    have ml : (gts.map V.ref).length = gs.length := by rw [List.length_map, gl]
    refine ⟨_, (pss_cons (ps_set (i := 3) sc_l_line.nd rfl (by first | exact Or.inl rfl | exact Or.inr rfl) (pe_op op_mod (pv 0) (pe_callB call_len_seq (by rfl) T.b_len PySem.boot_len (pa_cons (pv 1) pa_nil))))
      (pss_cons (ps_set (i := 4) sc_l_line.nd rfl (by first | exact Or.inl rfl | exact Or.inr rfl) (pe_op op_mod (pe_op op_add (pe_op op_add (pv 3) pe_int) (pe_op op_mod (pe_op op_fdiv (pv 0) pe_int) (pe_op op_sub (pe_callB call_len_seq (by rfl) T.b_len PySem.boot_len (pa_cons (pv 1) pa_nil)) pe_int))) (pe_callB call_len_seq (by rfl) T.b_len PySem.boot_len (pa_cons (pv 1) pa_nil))))
      (pss_cons (ps_set (i := 5) sc_l_line.nd rfl (by first | exact Or.inl rfl | exact Or.inr rfl) (pe_op op_mod (pe_op op_fdiv (pv 0) pe_int) pe_int))
      (pss_cons (ps_set (i := 6) sc_l_line.nd rfl (by first | exact Or.inl rfl | exact Or.inr rfl) (pe_op op_mod (pe_op op_fdiv (pv 0) pe_int) pe_int))
      (C8.pss_cut (ps_if (pt_cmpR op_gt (pv 5) pe_int (nomark _)) (pss_one (ps_set (i := 6) sc_l_line.nd rfl (by first | exact Or.inl rfl | exact Or.inr rfl) (pe_op op_mod (pe_op op_fdiv (pv 0) pe_int) pe_int))) pss_nil)
      (C8.pss_cut (ps_if (pt_cmpR op_eq (pv 5) pe_int (nomark _)) (pss_one (ps_set (i := 6) sc_l_line.nd rfl (by first | exact Or.inl rfl | exact Or.inr rfl) (pe_op op_mod (pe_op op_fdiv (pv 0) pe_int) pe_int))) pss_nil)
      (pss_cons (ps_set (i := 7) sc_l_line.nd rfl (by first | exact Or.inl rfl | exact Or.inr rfl) (pe_op op_add pe_int (pe_op op_mod (pe_op op_fdiv (pv 0) pe_int) pe_int)))
      (pss_one (ps_ret (pe_lst (pa_cons (pe_ix (r := rIxL K) ix_list (pe_ix (r := rIxL K) ix_list (pv 1) (pv 3) (fun _ _ => rfl)) pe_int (fun _ _ => rfl)) (pa_cons (pe_ix (r := rIxL K) ix_list (pe_ix (r := rIxL K) ix_list (pv 1) (pv 4) (fun _ _ => rfl)) pe_int (fun _ _ => rfl)) (pa_cons (pe_op op_mul (pv 2) (pv 7)) (pa_cons (pv 6) (pa_cons (pe_cmpR op_gt (pe_op op_mod (pe_op op_fdiv (pv 0) pe_int) pe_int) pe_int (nomark _)) pa_nil))))))))))))))), ?_⟩
    walk_at "go"
    refine ⟨Lg, _, rfl, .inl (SqL.of hLg), ?_⟩
    rw [ml]
    walk_at "go"
    refine ⟨Lg, _, rfl, .inl (SqL.of hLg), ?_⟩
    rw [ml]
    walk_at "go"
    refine ⟨Lg, _, rfl, .inl (SqL.of hLg), ?_⟩
    rw [ml]
    walk_at "go"
    have a0 := Int.emod_nonneg n (b := (gs.length : Int)) (by omega)
    have a1 := Int.emod_lt_of_pos n (b := (gs.length : Int)) (by omega)
    have b0 := Int.emod_nonneg (n / 13) (b := (gs.length : Int) - 1) (by omega)
    have b1 := Int.emod_lt_of_pos (n / 13) (b := (gs.length : Int) - 1) (by omega)
    have em := emod_two (y := n % (gs.length : Int) + 1 + n / 13 % ((gs.length : Int) - 1)) (L := (gs.length : Int)) (by omega) (by omega)
    dsimp only [gName, List.set]
    refine ⟨fun σ' H' => ∃ tl : Int, σ' = [some (.int n), some (.ref Lg), some (.int u), some (.int (n % (gs.length : Int))), some (.int ((n % (gs.length : Int) + 1 + n / 13 % ((gs.length : Int) - 1)) % (gs.length : Int))), some (.int (n / 169 % 9)), some (.int tl), none] ∧ H = H' ∧ 0 ≤ tl ∧ tl ≤ 1000000, ?_, ?_⟩
    · walk_at "go"
      refine ite2 (fun _ => ?_) (fun _ => ?_)
      · walk_at "go"
        omega
      · exact ⟨n / 1009 % 5, rfl, rfl, by omega, by omega⟩
    rintro σ' H' ⟨tl, rfl, rfl, t0, t1⟩
    refine ⟨fun σ' H' => ∃ tl : Int, σ' = [some (.int n), some (.ref Lg), some (.int u), some (.int (n % (gs.length : Int))), some (.int ((n % (gs.length : Int) + 1 + n / 13 % ((gs.length : Int) - 1)) % (gs.length : Int))), some (.int (n / 169 % 9)), some (.int tl), none] ∧ H = H' ∧ 0 ≤ tl ∧ tl ≤ 1000000, ?_, ?_⟩
    · walk_at "go"
      refine ite2 (fun _ => ?_) (fun _ => ?_)
      · walk_at "go"
        omega
      · exact ⟨tl, rfl, rfl, t0, t1⟩
    clear t0 t1 tl
    rintro σ' H' ⟨tl, rfl, rfl, t0, t1⟩
    generalize hm : (n % (gs.length : Int) + 1 + n / 13 % ((gs.length : Int) - 1)) % (gs.length : Int) = y at em
    generalize n % (gs.length : Int) = x at a0 a1 em
    generalize n / 13 % ((gs.length : Int) - 1) = z at b0 b1 em
    have hy0 : 0 ≤ y := by split at em <;> omega
    have hy1 : y < gs.length := by split at em <;> omega
    have hxy : x ≠ y := by split at em <;> omega
    obtain ⟨tx, qx, ix, hx, gx⟩ := gl_get hG a0 a1
    obtain ⟨ty, qy, iy, hy, gy⟩ := gl_get hG hy0 hy1
    walk_at "go"
    refine ⟨Lg, _, _, _, rfl, rfl, SqL.of hLg, ix, ?_⟩
    walk_at "step"
    refine ⟨Lg, _, _, _, rfl, rfl, SqL.of hLg, iy, ?_⟩
    walk_at "step"
    refine ⟨(by show 5 ≤ sizeLine; decide), fun L nL => ?_⟩
    refine q _ L ⟨qx.1, qy.1, u * (1 + n / 10007 % 6), tl, decide (0 < n / 70001 % 8)⟩ (same_up nL) nL upd_same ⟨⟨qx.2, List.mem_of_getElem? gx⟩, ⟨qy.2, List.mem_of_getElem? gy⟩, fun e => ?_, ⟨_, by omega, by omega, rfl⟩, t0, t1⟩
    have e : qx.1 = qy.1 := e
    have := nodup_at ok.nd (s := x.toNat) (t := y.toNat) (nm := qx.1) (c := qx.2) (d := qy.2) gx (by rw [gy, e])
    omega
/-- the net of gates and lines, new -/
def spLawNet (A : Ads) : Sp := fun vs H Q _ => ∃ (Lg Ll : Addr) (gts rts : List Addr) (gs : List (Str × Bool)) (rs : List RoadD) (u : Int), vs = [.ref Lg, .ref Ll] ∧ H Lg = some (.lst (gts.map V.ref)) ∧ GL H gts gs ∧ GsOk gs ∧ H Ll = some (.lst (rts.map V.ref)) ∧ RL H rts rs ∧ rs.length ≤ 190 ∧ 1 ≤ u ∧ u ≤ 100000 ∧ (∀ r ∈ rs, LineOk gs u r) ∧
  ∀ (H' : Hp) (p g r : Addr), Same H H' → H p = none → H g = none → H r = none → NetAt A.C_Net H' p g r ⟨gs, rs⟩ → Q (.ref p) H'
theorem ok_l_net (T : Txt K mg A) : DefOk P w K mg base CX0 3 A.l_net ["_law_gates_here", "_law_lines_here"] (spLawNet A) := by
  obtain ⟨_, G_N_init, B_N_init, K_N_init⟩ := ok_N_init (P := P) (w := w) (base := base) T
  obtain ⟨_, G_N_gate, B_N_gate, K_N_gate⟩ := ok_N_gate (P := P) (w := w) (base := base) T
  obtain ⟨_, G_N_road, B_N_road, K_N_road⟩ := ok_N_road (P := P) (w := w) (base := base) T
  obtain ⟨_, G_N_close, B_N_close, K_N_close⟩ := ok_N_close (P := P) (w := w) (base := base) T
  obtain ⟨fd, F⟩ := T.F_l_net
  refine ⟨fd, ?_, F.binds (ps := ["_law_gates_here", "_law_lines_here"]) fun _ _ _ _ _ _ us hl => match us, hl with | [_, _], _ => rfl, F.kp⟩
  refine F.ok sc_l_net (fun vs H Q E h => ?_) (fun cdv A' outer s H vs Q E hr h => ?_)
  · obtain ⟨Lg, Ll, gts, rts, gs, rs, u, rfl, _⟩ := h
    rfl
  · obtain ⟨Lg, Ll, gts, rts, gs, rs, u, rfl, hLg, hG, ok, hLl, hR, hr190, hu1, hu2, hok, q⟩ := h
    have gl := paired_len hG
    have rl := paired_len hR
    have gl60 := ok.l60
    refine ⟨_, (pss_cons (ps_set (i := 2) sc_l_net.nd rfl (by first | exact Or.inl rfl | exact Or.inr rfl) (pe_make0 T.M_Net G_N_init (hr.mono (by decide)) rfl T.g_Net B_N_init .nil pass0))
      (pss_cons (ps_for PassesOwn.never rfl (pi_list (pv 0)) (pg_name (i := 3) sc_l_net.nd rfl (by first | exact Or.inl rfl | exact Or.inr rfl)) (pss_one (ps_expr (pe_meth (pv 2) T.c_Net T.M_N_gate G_N_gate (hr.mono (by decide)) B_N_gate .nil passF (pa_cons (pe_ix (r := rIxL K) ix_list (pv 3) pe_int (fun _ _ => rfl)) (pa_cons (pe_ix (r := rIxL K) ix_list (pv 3) pe_int (fun _ _ => rfl)) pa_nil))))))
      (pss_cons (ps_for PassesOwn.never rfl (pi_list (pv 1)) (pg_name (i := 4) sc_l_net.nd rfl (by first | exact Or.inl rfl | exact Or.inr rfl)) (pss_cons (ps_set (i := 5) sc_l_net.nd rfl (by first | exact Or.inl rfl | exact Or.inr rfl) (pe_meth (pv 2) T.c_Net T.M_N_road G_N_road (hr.mono (by decide)) B_N_road .nil passF (pa_cons (pe_ix (r := rIxL K) ix_list (pv 4) pe_int (fun _ _ => rfl)) (pa_cons (pe_ix (r := rIxL K) ix_list (pv 4) pe_int (fun _ _ => rfl)) (pa_cons (pe_ix (r := rIxL K) ix_list (pv 4) pe_int (fun _ _ => rfl)) (pa_cons (pe_ix (r := rIxL K) ix_list (pv 4) pe_int (fun _ _ => rfl)) pa_nil))))))
      (pss_one (ps_if (pt_not (pt_val (pe_ix (r := rIxL K) ix_list (pv 4) pe_int (fun _ _ => rfl)))) (pss_one (ps_expr (pe_meth (pv 2) T.c_Net T.M_N_close G_N_close (hr.mono (by decide)) B_N_close .nil passF (pa_cons (pv 5) pa_nil)))) pss_nil))))
      (pss_one (ps_ret (pv 2)))))), ?_⟩
    walk_at "go"
    intro p dx np nd ne
    refine ⟨p, dx, rfl, upd_same, fun g r H1 ng nr hN0 k0 => ⟨rfl, ?_⟩⟩
    have sa : Same H (upd (upd H dx (.own p)) p (.ins A.C_Net dx [])) := same_new (same_up nd) np
    have s1 : Same H H1 := same_keep sa k0 fun x hx => by rw [List.mem_singleton] at hx; rw [hx]; exact np
    replace ng := sa.free ng
    replace nr := sa.free nr
    clear k0 sa
    walk_at "go"
    refine ⟨⟨_, SqL.of (s1 _ _ hLg)⟩, for_list (K := K) (a := Lg) (xs := gts.map V.ref) (fun i σ' H' => Same H H' ∧ ∃ v3, σ' = [some (.ref Lg), some (.ref Ll), some (.ref p), v3, none, none] ∧ NetAt A.C_Net H' p g r ⟨gs.take i, []⟩) ⟨s1, none, rfl, hN0⟩ (fun i σ' H' _ ⟨s, _⟩ => SqL.of (s _ _ hLg)) ?_ ?_⟩
    · rintro i x σ' H2 hi ⟨s2, v3, rfl, hN⟩
      obtain ⟨tg, htg, rfl⟩ := map_ref_get hi
      obtain ⟨gq, hgq, hgl⟩ := paired_getL hG htg
      have il : i < gs.length := (List.getElem?_eq_some_iff.mp hgq).1
      have hnm := ok.nm gq (List.mem_of_getElem? hgq)
      have hgl2 := s2 _ _ hgl
      have hno : seesOf (gs.take i) gq.1 = none := by
        rw [seesOf_none]
        intro m
        obtain ⟨q', hq', e⟩ := List.mem_map.mp m
        obtain ⟨j, hj⟩ := List.getElem?_of_mem hq'
        have jl := (List.getElem?_eq_some_iff.mp hj).1
        rw [List.length_take] at jl
        rw [List.getElem?_take_of_lt (by omega)] at hj
        have := nodup_at ok.nd (s := j) (t := i) (nm := gq.1) (c := q'.2) (d := gq.2) (by rw [hj, ← e]) hgq
        omega
      obtain ⟨dx2, hob⟩ := hN.ob
      walk_at "go"
      refine ⟨p, dx2, _, rfl, hob, netF_no _ _ (by decide +kernel) (by decide +kernel), ?_⟩
      walk_at "step"
      refine ⟨p, g, r, _, gq.1, gq.2, rfl, hN, by have := hnm.1; omega, hnm.2.1, fun z => (by rw [hnm.2.2] at z; cases z), fun _ z => absurd hno z, fun _ _ z => ?_, fun _ _ _ H3 hN3 k3 => ?_⟩
      · have z : 60 ≤ (gs.take i).length := z
        rw [List.length_take] at z
        omega
      · refine ⟨same_keep s2 k3 fun x hx => by rw [List.mem_singleton] at hx; rw [hx]; exact ng, _, rfl, ?_⟩
        rw [List.take_add_one, hgq]
        exact hN3
    rintro σ' H2 ⟨s2, v3, rfl, hN⟩
    rw [List.length_map, gl, List.take_length] at hN
    walk_at "go"
    refine ⟨⟨_, SqL.of (s2 _ _ hLl)⟩, for_list (K := K) (a := Ll) (xs := rts.map V.ref) (fun i σ' H' => Same H H' ∧ ∃ v4 v5, σ' = [some (.ref Lg), some (.ref Ll), some (.ref p), v3, v4, v5] ∧ NetAt A.C_Net H' p g r ⟨gs, rs.take i⟩) ⟨s2, none, none, rfl, hN⟩ (fun i σ' H' _ ⟨s, _⟩ => SqL.of (s _ _ hLl)) ?_ ?_⟩
    · rintro i x σ' H3 hi ⟨s3, v4, v5, rfl, hN3⟩
      obtain ⟨tr, htr, rfl⟩ := map_ref_get hi
      obtain ⟨rd, hrd, hrl⟩ := paired_getL hR htr
      have il : i < rs.length := (List.getElem?_eq_some_iff.mp hrd).1
      have hrl3 := s3 _ _ hrl
      have hrl3 : H3 tr = some (.lst [.str rd.one, .str rd.other, .int rd.mi, .int rd.tl, .bl rd.op]) := hrl3
      have lo := hok rd (List.mem_of_getElem? hrd)
      obtain ⟨c1, m1⟩ := lo.o1
      obtain ⟨c2, m2⟩ := lo.o2
      have n1 := ok.nm _ m1
      have n2 := ok.nm _ m2
      obtain ⟨j, j1, j2, ej⟩ := lo.mi
      have hmi : 1 ≤ rd.mi ∧ rd.mi ≤ 1000000 := by
        rw [ej]
        have a1 : u * 1 ≤ u * j := Int.mul_le_mul_of_nonneg_left j1 (by omega)
        have a2 : u * j ≤ u * 6 := Int.mul_le_mul_of_nonneg_left j2 (by omega)
        omega
      obtain ⟨dx2, hob⟩ := hN3.ob
      walk_at "go"
      refine ⟨p, dx2, _, rfl, hob, netF_no _ _ (by decide +kernel) (by decide +kernel), ?_⟩
      walk_at "step"
      have il200 : i < 200 := by omega
      have tk : (rs.take i).length = i := by rw [List.length_take]; omega
      refine ⟨p, g, r, _, rd.one, rd.other, rd.mi, rd.tl, rfl, hN3, Nat.le_trans n1.1 (by omega), n1.2.1, Nat.le_trans n2.1 (by omega), n2.2.1, fun z => (by rcases z with z | z; exact absurd z (sees_mem m1); exact absurd z (sees_mem m2)), fun _ _ z => absurd z lo.ne, fun _ _ _ z => absurd ⟨hmi, lo.tl⟩ z, fun _ _ _ _ z => (by have z : 200 ≤ (rs.take i).length := z; rw [tk] at z; omega), fun _ _ _ _ _ H4 hN4 k4 => ?_⟩
      have s4 : Same H H4 := same_keep s3 k4 fun x hx => by rw [List.mem_singleton] at hx; rw [hx]; exact nr
      have hrl4 : H4 tr = some (.lst [.str rd.one, .str rd.other, .int rd.mi, .int rd.tl, .bl rd.op]) := s4 _ _ hrl
      clear hrl3
      have hN4 : NetAt A.C_Net H4 p g r ⟨gs, rs.take i ++ [⟨rd.one, rd.other, rd.mi, rd.tl, true⟩]⟩ := hN4
      rw [tk]
      have done_ : ∀ H5, Keep [r] H3 H5 → NetAt A.C_Net H5 p g r ⟨gs, rs.take i ++ [rd]⟩ → Same H H5 ∧ NetAt A.C_Net H5 p g r ⟨gs, rs.take (i + 1)⟩ := fun H5 k5 h5 => by
        refine ⟨same_keep s3 k5 fun x hx => by rw [List.mem_singleton] at hx; rw [hx]; exact nr, ?_⟩
        rw [List.take_add_one, hrd]
        exact h5
      cases hop : rd.op with
      | true =>
        rw [hop] at hrl4
        walk_at "step"
        refine ⟨(done_ H4 k4 ?_).1, _, _, rfl, (done_ H4 k4 ?_).2⟩ <;> exact (show (⟨rd.one, rd.other, rd.mi, rd.tl, true⟩ : RoadD) = rd from by rw [← hop]) ▸ hN4
      | false =>
        rw [hop] at hrl4
        walk_at "step"
        obtain ⟨dx3, hob3⟩ := hN4.ob
        refine ⟨p, dx3, _, rfl, hob3, netF_no _ _ (by decide +kernel) (by decide +kernel), ?_⟩
        walk_at "step"
        have eg : (rs.take i ++ [(⟨rd.one, rd.other, rd.mi, rd.tl, true⟩ : RoadD)])[((i : Int)).toNat]? = some ⟨rd.one, rd.other, rd.mi, rd.tl, true⟩ := by
          rw [show ((i : Int)).toNat = i from by omega, List.getElem?_append_right (by omega), tk, Nat.sub_self]
          rfl
        refine ⟨p, g, r, _, _, rfl, hN4, fun z => absurd (show 0 ≤ (i : Int) ∧ (i : Int) < ((rs.take i ++ [(⟨rd.one, rd.other, rd.mi, rd.tl, true⟩ : RoadD)]).length : Int) from by rw [List.length_append, tk]; exact ⟨by omega, by simp only [List.length_cons, List.length_nil]; omega⟩) z, fun rd' _ e1 e2 => ?_, fun rd' _ e1 _ H5 hN5 k5 => ?_⟩
        · have e1 := Option.some.inj (eg.symm.trans e1)
          rw [← e1] at e2
          cases e2
        · have e1 := Option.some.inj (eg.symm.trans e1)
          subst e1
          have k5 : Keep [r] H3 H5 := k4.trans k5
          have hN5 : NetAt A.C_Net H5 p g r ⟨gs, rs.take i ++ [rd]⟩ := by
            have e : (rs.take i ++ [(⟨rd.one, rd.other, rd.mi, rd.tl, true⟩ : RoadD)]).set ((i : Int)).toNat ⟨rd.one, rd.other, rd.mi, rd.tl, false⟩ = rs.take i ++ [rd] := by
              rw [show ((i : Int)).toNat = i from by omega, List.set_append_right _ _ (by omega), tk, Nat.sub_self]
              show rs.take i ++ [(⟨rd.one, rd.other, rd.mi, rd.tl, false⟩ : RoadD)] = _
              rw [← hop]
            have z := hN5
            dsimp only at z
            rw [e] at z
            exact z
          exact ⟨(done_ H5 k5 hN5).1, _, _, rfl, (done_ H5 k5 hN5).2⟩
    rintro σ' H3 ⟨s3, v4, v5, rfl, hN3⟩
    rw [List.length_map, rl, List.take_length] at hN3
    walk_at "go"
    exact q H3 p g r s3 np ng nr hN3
end
end Toll

set_option Elab.async false
set_option linter.all false
set_option maxRecDepth 100000
set_option maxHeartbeats 4000000
namespace Toll
open PySem L2
local macro_rules | `(tactic| walk_at "go1") => `(tactic| first
  | refine ⟨_, rfl, ?_⟩
  | refine ⟨rfl, ?_⟩
  | refine ⟨_, _, rfl, rfl, ?_⟩
  | refine ⟨_, _, rfl, ?_⟩
  | (with_reducible refine' ⟨log_small ?k1 ?k2, ?_⟩; (case k1 => omega); (case k2 => omega))
  | (refine' ⟨?k1, ?_⟩; (case k1 => ((with_reducible show (_ : Int) < _); omega)))
  | (refine' ⟨⟨?k1, ?k2⟩, ?_⟩; (case k1 => omega); (case k2 => omega))
  | (refine' ⟨⟨?k1, ?k2, ?k3, ?k4⟩, ?_⟩; (case k1 => omega); (case k2 => omega); (case k3 => omega); (case k4 => omega))
  | (refine' ⟨.inl ⟨?k1, ?k2⟩, ?_⟩; (case k1 => omega); (case k2 => omega))
  | (refine' ⟨.inr ⟨?k1, ?k2⟩, ?_⟩; (case k1 => omega); (case k2 => omega))
  | (refine' ⟨Evl.sz_of ?k1, ?_⟩; (case k1 => omega))
  | (refine' ⟨?k1, ?_⟩; (case k1 => ((with_reducible show (_ : Int) ≤ _); omega)))
  | refine ⟨⟨_, rfl⟩, ?_⟩
  | refine .inl ⟨_, rfl, ?_⟩ | refine .inr ⟨_, rfl, ?_⟩
  | refine iteT ?_ | refine iteF ?_)
local macro_rules | `(tactic| walk_at "go") => `(tactic| repeat (walk_at "go1"))
local macro_rules | `(tactic| walk_at "ans") => `(tactic| (intro Q' q'; walk_at "go"; (try rw [dec_int]); (try rw [dec_str]); exact q'))
local macro_rules | `(tactic| walk_at "hp") => `(tactic| first | assumption | exact upd_same | (refine' up_same ?e ?h; (case e => assumption); (case h => walk_at "hp")) | (refine' upd_at ?n ?h; (case n => walk_at "ne"); (case h => walk_at "hp")))
local macro_rules | `(tactic| walk_at "ne") => `(tactic| first | assumption | (apply Ne.symm; assumption))
local macro_rules | `(tactic| walk_at "at") => `(tactic| first | exact atI_nat (j := 0) rfl | exact atI_nat (j := 1) rfl | exact atI_nat (j := 2) rfl | exact atI_nat (j := 3) rfl | exact atI_nat (j := 4) rfl)
local macro_rules | `(tactic| walk_at "step1") => `(tactic| first
  | walk_at "go1"
  | (apply ixL_step; (case h => walk_at "hp"); (case a => walk_at "at"))
  | (apply ixT_step; (case h => walk_at "hp"); (case a => walk_at "at"))
  | (apply lenL_step; (case h => walk_at "hp")))
local macro_rules | `(tactic| walk_at "step") => `(tactic| repeat (walk_at "step1"))
section
variable {P : Program} {w : World} {K : PySem.W.Frag} {mg : Str → Option Value} {base : Heap} {A : Ads}
def spLeast (K : PySem.W.Frag) : Sp := fun vs H Q _ => ∃ (a : Addr) (us : List V) (rows : List Row) (nm : Str), vs = [.ref a, .str nm] ∧ SqL K H a us ∧ Paired (RowV H) us rows ∧ 0 < rows.length ∧ rows.length ≤ 100000 ∧ Q (oV (leastF rows nm rows.length)) H
theorem ok_least (T : Txt K mg A) : DefOk P w K mg base CX0 1 A.least ["rows", "name"] (spLeast K) := by
  obtain ⟨fd, F⟩ := T.F_least
  refine ⟨fd, ?_, F.binds (ps := ["rows", "name"]) fun _ _ _ _ _ _ us hl => match us, hl with | [_, _], _ => rfl, F.kp⟩
  refine F.ok sc_least (fun vs H Q E h => ?_) (fun cdv A outer s H vs Q E hr h => ?_)
  · obtain ⟨a, us, rows, nm, rfl, _⟩ := h
    rfl
  · obtain ⟨a, us, rows, nm, rfl, hS, hP, h0, h1, q⟩ := h
    have hus := paired_len hP
    refine ⟨_, (pss_cons (ps_set (i := 2) sc_least.nd rfl (by first | exact Or.inl rfl | exact Or.inr rfl) pe_non)
      (pss_cons (ps_for PassesOwn.never rfl (pi_range2 (by rfl) T.b_range (pa_cons pe_int (pa_cons (pe_callB call_len_seq (by rfl) T.b_len PySem.boot_len (pa_cons (pv 0) pa_nil)) pa_nil))) (pg_name (i := 3) sc_least.nd rfl (by first | exact Or.inl rfl | exact Or.inr rfl)) (pss_cons (ps_if (pt_cmpR op_ne (pe_ix (r := rIxT K) ix_tup (pe_ix (r := rIxL K) ix_list (pv 0) (pv 3) (fun _ _ => rfl)) pe_int (fun _ _ => rfl)) (pv 1) (nomark _)) (pss_one ps_continue) pss_nil)
      (pss_one (ps_if (PW.pt (pw_or (pt_cmpR op_isN (pv 2) pe_non (nomark _)) (pw_or1 (pt_cmpR op_lt (pe_ix (r := rIxT K) ix_tup (pe_ix (r := rIxL K) ix_list (pv 0) (pv 3) (fun _ _ => rfl)) pe_int (fun _ _ => rfl)) (pe_ix (r := rIxT K) ix_tup (pe_ix (r := rIxL K) ix_list (pv 0) (pv 2) (fun _ _ => rfl)) pe_int (fun _ _ => rfl)) (nomark _))))) (pss_one (ps_set (i := 2) sc_least.nd rfl (by first | exact Or.inl rfl | exact Or.inr rfl) (pv 3))) pss_nil))))
      (pss_one (ps_ret (pv 2))))), ?_⟩
    walk_at "go"
    refine ⟨a, us, rfl, .inl hS, ?_⟩
    walk_at "go"
    refine for_range (lo := 1) (n := _) (fun i σ' H' => H = H' ∧ ∃ v, σ' = [some (.ref a), some (.str nm), some (oV (leastF rows nm (1 + i))), v])
      ⟨rfl, none, rfl⟩ ?_ ?_
    · rintro i σ' H' hi ⟨rfl, v, rfl⟩
      obtain ⟨r, hr⟩ : ∃ r, rows[1 + i]? = some r := ⟨_, List.getElem?_eq_getElem (by omega)⟩
      obtain ⟨_, hv, t, rfl, ht⟩ := paired_get hP hr
      have st := leastF_step (nm := nm) (by omega) hr
      have i1 : atI us (1 + (i : Int)) = some (V.ref t) := atI_of (j := 1 + i) (by omega) hv
      dsimp only [gName, List.set]
      refine seq_if1 (!decide (r.nm = nm)) (by
        intro Q' q'
        walk_at "go"
        refine ⟨a, us, _, _, rfl, rfl, hS, i1, ?_⟩
        walk_at "go"
        refine ⟨t, _, _, _, rfl, rfl, SqT.of ht, atI_nat (j := 0) rfl, ?_⟩
        walk_at "go"
        rw [dec_str]
        exact q') (fun hb => ?_) (fun hb => ?_)
      · have hb : ¬ r.nm = nm := by simpa using hb
        rw [if_neg hb] at st
        exact ⟨rfl, _, by rw [show 1 + (i + 1) = 1 + i + 1 by omega, st]⟩
      · have hb : r.nm = nm := by simpa using hb
        rw [if_pos hb] at st
        cases hl : leastF rows nm (1 + i) with
        | none =>
          rw [hl] at st
          refine do_if1 (true || false) (an_or (fun Q' q' => ⟨_, rfl, rfl, _, rfl, q'⟩) (fun z => by cases z)) (fun _ => ?_) (fun z => by cases z)
          refine ⟨_, rfl, rfl, some (.int (1 + (i : Int))), ?_⟩
          rw [show 1 + (i + 1) = 1 + i + 1 by omega, st]
          rfl
        | some b =>
          rw [hl] at st
          have hb2 := leastF_lt hl
          obtain ⟨r2, hr2⟩ : ∃ r, rows[b]? = some r := ⟨_, List.getElem?_eq_getElem (by omega)⟩
          obtain ⟨_, hv2, t2, rfl, ht2⟩ := paired_get hP hr2
          have st : leastF rows nm (1 + i + 1) = if r.tl < r2.tl then some (1 + i) else some b := by
            rw [st]
            show (if r.tl < ((rows[b]?).map (·.tl)).getD 0 then _ else _) = _
            rw [hr2]
            rfl
          refine do_if1 (false || decide (r.tl < r2.tl)) (an_or (fun Q' q' => ⟨_, rfl, rfl, _, rfl, q'⟩) (fun _ => by
            intro Q' q'
            walk_at "go"
            refine ⟨a, us, _, _, rfl, rfl, hS, i1, ?_⟩
            walk_at "go"
            refine ⟨t, _, _, _, rfl, rfl, SqT.of ht, atI_nat (j := 2) rfl, ?_⟩
            walk_at "go"
            refine ⟨a, us, _, _, rfl, rfl, hS, atI_nat hv2, ?_⟩
            walk_at "go"
            refine ⟨t2, _, _, _, rfl, rfl, SqT.of ht2, atI_nat (j := 2) rfl, ?_⟩
            walk_at "go"
            exact q')) (fun hb => ?_) (fun hb => ?_)
          · have hb : r.tl < r2.tl := by simpa using hb
            rw [if_pos hb] at st
            refine ⟨_, rfl, rfl, some (.int (1 + (i : Int))), ?_⟩
            rw [show 1 + (i + 1) = 1 + i + 1 by omega, st]
            rfl
          · have hb : ¬ r.tl < r2.tl := by simpa using hb
            rw [if_neg hb] at st
            refine ⟨rfl, some (.int (1 + (i : Int))), ?_⟩
            rw [show 1 + (i + 1) = 1 + i + 1 by omega, st]
    · rintro σ' H' ⟨rfl, v, rfl⟩
      walk_at "go"
      rw [show 1 + ((us.length : Int) - 1).toNat = rows.length by omega]
      exact q
def spRoads (K : PySem.W.Frag) : Sp := fun vs H Q _ => ∃ (a : Addr) (us : List V) (rows : List Row) (p : Int), vs = [.ref a, .int p] ∧ SqL K H a us ∧ Paired (RowV H) us rows ∧ Backs rows ∧ 0 ≤ p ∧ p < (rows.length : Int) ∧ rows.length ≤ 50000 ∧
  ∀ (H' : Hp) (R : Addr), Same H H' → H R = none → H' R = some (.lst ((roadsOf rows p).map V.int)) → Q (.ref R) H'
theorem ok_roads_to (T : Txt K mg A) : DefOk P w K mg base CX0 1 A.roads_to ["rows", "place"] (spRoads K) := by
  obtain ⟨fd, F⟩ := T.F_roads_to
  refine ⟨fd, ?_, F.binds (ps := ["rows", "place"]) fun _ _ _ _ _ _ us hl => match us, hl with | [_, _], _ => rfl, F.kp⟩
  refine F.ok sc_roads_to (fun vs H Q E h => ?_) (fun cdv A outer s H vs Q E hr h => ?_)
  · obtain ⟨a, us, rows, p, rfl, _⟩ := h
    rfl
  · obtain ⟨a, us, rows, p0, rfl, hS, hP, hB, p0p, p0l, h1, q⟩ := h
    have hus := paired_len hP
    refine ⟨_, (pss_cons (ps_set (i := 2) sc_roads_to.nd rfl (by first | exact Or.inl rfl | exact Or.inr rfl) (pe_lst pa_nil))
      (pss_cons (ps_while PassesOwn.never (pt_cmpR op_gt (pv 1) pe_int (nomark _)) (pss_cons (ps_asg (pe_ix (r := rIxL K) ix_list (pv 0) (pv 1) (fun _ _ => rfl)) (pg_tup (by rfl) (pgs_cons (pg_name (i := 3) sc_roads_to.nd rfl (by first | exact Or.inl rfl | exact Or.inr rfl)) (pgs_cons (pg_name (i := 4) sc_roads_to.nd rfl (by first | exact Or.inl rfl | exact Or.inr rfl)) (pgs_cons (pg_name (i := 5) sc_roads_to.nd rfl (by first | exact Or.inl rfl | exact Or.inr rfl)) (pgs_cons (pg_name (i := 6) sc_roads_to.nd rfl (by first | exact Or.inl rfl | exact Or.inr rfl)) (pgs_cons (pg_name (i := 7) sc_roads_to.nd rfl (by first | exact Or.inl rfl | exact Or.inr rfl)) pgs_nil)))))))
      (pss_cons (ps_expr (pe_bm PySem.F.plainAttrs_list PySem.F.slot_list_append PySem.F.type_list_append mt_append (pv 2) (pa_cons (pv 6) pa_nil)))
      (pss_one (ps_set (i := 1) sc_roads_to.nd rfl (by first | exact Or.inl rfl | exact Or.inr rfl) (pv 7))))))
      (pss_cons (ps_expr (pe_bm0 PySem.F.plainAttrs_list PySem.F.slot_list_reverse PySem.F.type_list_reverse mt_reverse (pv 2)))
      (pss_one (ps_ret (pv 2)))))), ?_⟩
    walk_at "go"
    refine ⟨Nat.zero_le _, fun R hR => ?_⟩
    walk_at "go"
    refine seq_while (fun m σ' H' => Same H H' ∧ ∃ (p : Int) (rs : List Int) (v3 v4 v5 v6 v7 : Option V), σ' = [some (.ref a), some (.int p), some (.ref R), v3, v4, v5, v6, v7] ∧ H' R = some (.lst (rs.map V.int)) ∧ 0 ≤ p ∧ p < (rows.length : Int) ∧ p.toNat ≤ m ∧ (rs.length : Int) + p ≤ p0 ∧ roadsOf rows p ++ rs.reverse = roadsOf rows p0)
      p0.toNat ⟨same_up hR, p0, [], none, none, none, none, none, rfl, upd_same, p0p, p0l, Nat.le_refl _, by simp, by simp⟩ ?_
    rintro m σ' H1 ⟨s1, p, rs, v3, v4, v5, v6, v7, rfl, hL, pp, pl, pm, pr, pe⟩
    refine ⟨decide (0 < p), by walk_at "ans", fun hb => ?_, fun hb => ?_⟩
    · have hb : 0 < p := of_decide_eq_true hb
      obtain ⟨r, hr⟩ : ∃ r, rows[p.toNat]? = some r := ⟨_, List.getElem?_eq_getElem (by omega)⟩
      obtain ⟨_, hv, t, rfl, ht⟩ := paired_get hP hr
      have hbk := hB _ _ hr
      rw [roadsOf_step hB hb hr] at pe
      walk_at "go"
      refine ⟨a, us, _, _, rfl, rfl, s1.seq hS, atI_of (j := p.toNat) (by omega) hv, ?_⟩
      walk_at "go"
      refine ⟨t, _, rfl, SqT.of (s1 _ _ ht), rfl, ?_⟩
      walk_at "go"
      refine ⟨.inl ⟨rfl, _, SqL.of hL⟩, ?_⟩
      walk_at "go"
      refine ⟨R, _, _, rfl, rfl, hL, Evl.sz_lt (by rw [List.length_map]; omega), ?_⟩
      walk_at "go"
      refine ⟨r.bk.toNat, by omega, same_new s1 hR, r.bk, rs ++ [r.rd], _, _, _, _, _, rfl, ?_, by omega, by omega, Nat.le_refl _, ?_, ?_⟩
      · rw [upd_same, List.map_append]
        rfl
      · rw [List.length_append, List.length_singleton]
        omega
      · rw [List.reverse_append, ← pe, List.append_assoc]
        rfl
    · have hb : ¬ 0 < p := of_decide_eq_false hb
      rw [roadsOf_end rows (by omega), List.nil_append] at pe
      walk_at "go"
      refine ⟨.inl ⟨rfl, _, SqL.of hL⟩, ?_⟩
      refine ⟨R, _, rfl, rfl, hL, ?_⟩
      walk_at "go"
      refine q _ R (same_new s1 hR) hR ?_
      rw [upd_same, ← List.map_reverse, pe]
def spLeg (A : Ads) : Sp := fun vs H Q E => ∃ (p g r : Addr) (N : NetD) (one other : Str) (limit : Int), vs = [.ref p, .str one, .str other, .int limit] ∧ NetAt A.C_Net H p g r N ∧ NetOk N ∧ one.length ≤ 1000 ∧ PyData.strOk one = true ∧ other.length ≤ 1000 ∧ PyData.strOk other = true ∧
  (seesOf N.gates one = none → E (.ref A.C_NoGate) none H) ∧ (seesOf N.gates one ≠ none → seesOf N.gates other = none → E (.ref A.C_NoGate) none H) ∧ (seesOf N.gates one ≠ none → seesOf N.gates other ≠ none → limit < 0 → E (.ref A.C_NoNumber) none H) ∧
  (seesOf N.gates one ≠ none → seesOf N.gates other ≠ none → 0 ≤ limit → ∃ u, Few N one limit u ∧
    (∀ H', Same H H' → (∀ m t rs, Drv N one other m t rs → ¬ m ≤ limit) → LegIs N one other limit none → Q .non H') ∧
    (∀ (H' : Hp) (T R : Addr) (t m : Int) (rs : List Int), Same H H' → H T = none → H R = none → T ≠ R → H' T = some (.tup [.int t, .int m, .ref R]) → H' R = some (.lst (rs.map V.int)) → rs.length ≤ 4000 → BestD N one other limit t m rs → LegIs N one other limit (some (t, m, rs)) → Q (.ref T) H'))
theorem ok_leg (T : Txt K mg A) : DefOk P w K mg base (L2.CX P w) 4 A.leg ["net", "one", "other", "limit"] (spLeg A) := by
  obtain ⟨_, G_N_need_gate, B_N_need_gate, K_N_need_gate⟩ := ok_N_need_gate (P := P) (w := w) (base := base) T
  obtain ⟨_, G_rows_until, B_rows_until, K_rows_until⟩ := ok_rows_until (P := P) (w := w) (base := base) T
  obtain ⟨_, G_least, B_least, K_least⟩ := ok_least (P := P) (w := w) (base := base) T
  obtain ⟨_, G_roads_to, B_roads_to, K_roads_to⟩ := ok_roads_to (P := P) (w := w) (base := base) T
  obtain ⟨fd, F⟩ := T.F_leg
  refine ⟨fd, ?_, F.binds (ps := ["net", "one", "other", "limit"]) fun _ _ _ _ _ _ us hl => match us, hl with | [_, _, _, _], _ => rfl, F.kp⟩
  refine F.okX sc_leg (fun vs H Q E h => ?_) (fun cdv A' outer s H vs Q E hr h => ?_)
  · obtain ⟨p, g, r, N, one, other, limit, rfl, _⟩ := h
    rfl
  · obtain ⟨p, g, r, N, one, other, limit, rfl, hN, hOk, l1, o1, l2, o2, k1, k2, k3, kQ⟩ := h
    obtain ⟨dx, hob⟩ := hN.ob
    refine ⟨_, (pss_cons (ps_expr (pe_meth (pv 0) T.c_Net T.M_N_need_gate G_N_need_gate (hr.mono (by decide)) B_N_need_gate .nil (passes_call (takes_of rfl rfl rfl rfl) fun _ _ _ _ h => h) (pa_cons (pv 1) pa_nil)))
      (pss_cons (ps_expr (pe_meth (pv 0) T.c_Net T.M_N_need_gate G_N_need_gate (hr.mono (by decide)) B_N_need_gate .nil (passes_call (takes_of rfl rfl rfl rfl) fun _ _ _ _ h => h) (pa_cons (pv 2) pa_nil)))
      (pss_cons (ps_set (i := 4) sc_leg.nd rfl (by first | exact Or.inl rfl | exact Or.inr rfl) (pe_call G_rows_until (hr.mono (by decide)) rfl T.m_rows_until K_rows_until B_rows_until .nil (passes_call (takes_of rfl rfl rfl rfl) fun _ _ _ _ h => h) (pa_cons (pv 0) (pa_cons (pv 1) (pa_cons (pv 3) (pa_cons (pv 2) pa_nil))))))
      (pss_cons (ps_set (i := 5) sc_leg.nd rfl (by first | exact Or.inl rfl | exact Or.inr rfl) (pe_call G_least (hr.mono (by decide)) rfl T.m_least K_least B_least .nil pass0 (pa_cons (pv 4) (pa_cons (pv 2) pa_nil))))
      (pss_cons (ps_if (pt_cmpR op_isN (pv 5) pe_non (nomark _)) (pss_one (ps_ret pe_non)) pss_nil)
      (pss_cons (ps_asg (pe_ix (r := rIxL K) ix_list (pv 4) (pv 5) (fun _ _ => rfl)) (pg_tup (by rfl) (pgs_cons (pg_name (i := 6) sc_leg.nd rfl (by first | exact Or.inl rfl | exact Or.inr rfl)) (pgs_cons (pg_name (i := 7) sc_leg.nd rfl (by first | exact Or.inl rfl | exact Or.inr rfl)) (pgs_cons (pg_name (i := 8) sc_leg.nd rfl (by first | exact Or.inl rfl | exact Or.inr rfl)) (pgs_cons (pg_name (i := 9) sc_leg.nd rfl (by first | exact Or.inl rfl | exact Or.inr rfl)) (pgs_cons (pg_name (i := 10) sc_leg.nd rfl (by first | exact Or.inl rfl | exact Or.inr rfl)) pgs_nil)))))))
      (pss_one (ps_ret (pe_tup (pa_cons (pv 8) (pa_cons (pv 7) (pa_cons (pe_call G_roads_to (hr.mono (by decide)) rfl T.m_roads_to K_roads_to B_roads_to .nil pass0 (pa_cons (pv 4) (pa_cons (pv 5) pa_nil))) pa_nil)))))))))))), ?_⟩
    walk_at "go"
    refine ⟨p, dx, _, rfl, hob, netF_no _ _ (by decide +kernel) (by decide +kernel), ?_⟩
    walk_at "go"
    refine ⟨p, g, r, N, one, rfl, hN, l1, o1, k1, fun b1 e1 => ?_⟩
    have e1 : seesOf N.gates one ≠ none := by rw [e1]; simp
    walk_at "go"
    refine ⟨p, dx, _, rfl, hob, netF_no _ _ (by decide +kernel) (by decide +kernel), ?_⟩
    walk_at "go"
    refine ⟨p, g, r, N, other, rfl, hN, l2, o2, k2 e1, fun b2 e2 => ?_⟩
    have e2 : seesOf N.gates other ≠ none := by rw [e2]; simp
    walk_at "go"
    refine ⟨p, g, r, N, one, limit, some other, rfl, hN, hOk, l1, o1, fun z => absurd z e1, fun _ h => k3 e1 e2 h, fun _ h => ?_⟩
    obtain ⟨u, fw, qN, qS⟩ := kQ e1 e2 h
    refine ⟨u, fw, fun H1 L us rows s1 nL hL hP post hrun => ?_⟩
    have hul := paired_len hP
    have h1 := post.2.1
    have h0 := post.1.lenPos
    walk_at "go"
    refine ⟨L, us, rows, other, rfl, SqL.of hL, hP, h0, by omega, ?_⟩
    walk_at "go"
    cases hl : leastF rows other rows.length with
    | none =>
      refine ite2 (fun _ => ?_) (fun z => absurd (decide_eq_true rfl) z)
      walk_at "go"
      exact qN H1 s1 (fun m t rs d hm => leg_none hOk post hl d hm) ⟨rows, hrun, by unfold legOf; rw [hl]; rfl⟩
    | some b =>
      refine ite2 (fun z => (by have z := of_decide_eq_true z; cases z)) (fun _ => ?_)
      obtain ⟨rb, hb, bd⟩ := leg_some hOk post hl
      obtain ⟨_, hv, tr, rfl, htr⟩ := paired_get hP hb
      have hbl := (List.getElem?_eq_some_iff.mp hb).1
      walk_at "go"
      refine ⟨L, us, _, _, rfl, rfl, SqL.of hL, atI_nat (j := b) hv, ?_⟩
      walk_at "go"
      refine ⟨tr, _, rfl, SqT.of htr, rfl, ?_⟩
      walk_at "go"
      refine ⟨L, us, rows, (b : Int), rfl, SqL.of hL, hP, post.1.backs, by omega, by omega, by omega, fun H2 R s2 nR hR => ?_⟩
      walk_at "go"
      refine ⟨(by show 3 ≤ sizeLine; decide), fun t nt => ?_⟩
      walk_at "go"
      have hne : t ≠ R := (ne_of_none hR nt).symm
      refine qS _ t R rb.tl rb.mi _ ((s1.trans s2).trans (same_up nt)) ((s1.trans s2).free nt) (s1.free nR) hne upd_same (by rw [upd_ne hne.symm]; exact hR) ?_ bd ⟨rows, hrun, by unfold legOf; rw [hl]; show (rows[b]?).map _ = _; rw [hb]; rfl⟩
      have := roadsF_len rows (b : Int).toNat (b : Int)
      unfold roadsOf
      omega
end
end Toll

set_option Elab.async false
set_option linter.all false
set_option maxRecDepth 100000
set_option maxHeartbeats 4000000
namespace Toll
open PySem L2
local macro_rules | `(tactic| walk_at "go1") => `(tactic| first
  | refine ⟨_, rfl, ?_⟩
  | refine ⟨rfl, ?_⟩
  | refine ⟨_, _, rfl, rfl, ?_⟩
  | refine ⟨_, _, rfl, ?_⟩
  | (with_reducible refine' ⟨log_small ?k1 ?k2, ?_⟩; (case k1 => omega); (case k2 => omega))
  | (refine' ⟨?k1, ?_⟩; (case k1 => ((with_reducible show (_ : Int) < _); omega)))
  | (refine' ⟨⟨?k1, ?k2⟩, ?_⟩; (case k1 => omega); (case k2 => omega))
  | (refine' ⟨⟨?k1, ?k2, ?k3, ?k4⟩, ?_⟩; (case k1 => omega); (case k2 => omega); (case k3 => omega); (case k4 => omega))
  | (refine' ⟨.inl ⟨?k1, ?k2⟩, ?_⟩; (case k1 => omega); (case k2 => omega))
  | (refine' ⟨.inr ⟨?k1, ?k2⟩, ?_⟩; (case k1 => omega); (case k2 => omega))
  | (refine' ⟨Evl.sz_of ?k1, ?_⟩; (case k1 => omega))
  | (refine' ⟨?k1, ?_⟩; (case k1 => ((with_reducible show (_ : Int) ≤ _); omega)))
  | refine ⟨⟨_, rfl⟩, ?_⟩
  | refine .inl ⟨_, rfl, ?_⟩ | refine .inr ⟨_, rfl, ?_⟩
  | refine iteT ?_ | refine iteF ?_)
local macro_rules | `(tactic| walk_at "go") => `(tactic| repeat (walk_at "go1"))
local macro_rules | `(tactic| walk_at "ans") => `(tactic| (intro Q' q'; walk_at "go"; (try rw [dec_int]); (try rw [dec_str]); exact q'))
local macro_rules | `(tactic| walk_at "hp") => `(tactic| first | assumption | exact upd_same | (refine' up_same ?e ?h; (case e => assumption); (case h => walk_at "hp")) | (refine' upd_at ?n ?h; (case n => walk_at "ne"); (case h => walk_at "hp")))
local macro_rules | `(tactic| walk_at "ne") => `(tactic| first | assumption | (apply Ne.symm; assumption))
local macro_rules | `(tactic| walk_at "at") => `(tactic| first | exact atI_nat (j := 0) rfl | exact atI_nat (j := 1) rfl | exact atI_nat (j := 2) rfl | exact atI_nat (j := 3) rfl | exact atI_nat (j := 4) rfl)
local macro_rules | `(tactic| walk_at "step1") => `(tactic| first
  | walk_at "go1"
  | (apply ixL_step; (case h => walk_at "hp"); (case a => walk_at "at"))
  | (apply ixT_step; (case h => walk_at "hp"); (case a => walk_at "at"))
  | (apply lenL_step; (case h => walk_at "hp")))
local macro_rules | `(tactic| walk_at "step") => `(tactic| repeat (walk_at "step1"))
section
variable {P : Program} {w : World} {K : PySem.W.Frag} {mg : Str → Option Value} {base : Heap} {A : Ads}
def spNeedS (A : Ads) : Sp := fun vs H Q E => ∃ (p g r S : Addr) (N : NetD) (us : List V) (ss : List (Int × Str)), vs = [.ref p, .ref S] ∧ NetAt A.C_Net H p g r N ∧ H S = some (.lst us) ∧ Paired (SeenV H) us ss ∧ (∀ q ∈ ss, q.2.length ≤ 1000 ∧ PyData.strOk q.2 = true) ∧
  (ss = [] → E (.ref A.C_NoSight) none H) ∧ (ss ≠ [] → seenRef N 0 ss = some true → E (.ref A.C_NoGate) none H) ∧ (ss ≠ [] → seenRef N 0 ss = some false → E (.ref A.C_NoTime) none H) ∧ (ss ≠ [] → seenRef N 0 ss = none → Q .non H)
theorem ok_need_sightings (T : Txt K mg A) : DefOk P w K mg base (L2.CX P w) 2 A.need_sightings ["net", "seen"] (spNeedS A) := by
  obtain ⟨_, G_N_need_gate, B_N_need_gate, K_N_need_gate⟩ := ok_N_need_gate (P := P) (w := w) (base := base) T
  obtain ⟨fd, F⟩ := T.F_need_sightings
  refine ⟨fd, ?_, F.binds (ps := ["net", "seen"]) fun _ _ _ _ _ _ us hl => match us, hl with | [_, _], _ => rfl, F.kp⟩
  refine F.okX sc_need_sightings (fun vs H Q E h => ?_) (fun cdv A' outer s H vs Q E hr h => ?_)
  · obtain ⟨p, g, r, S, N, us, ss, rfl, _⟩ := h
    rfl
  · obtain ⟨p, g, r, S, N, us, ss, rfl, hN, hS, hP, hn, kS, kG, kT, q⟩ := h
    obtain ⟨dx, hob⟩ := hN.ob
    have ul := paired_len hP
    refine ⟨_, (pss_cons (ps_if (pt_cmpR op_eq (pe_callB call_len_seq (by rfl) T.b_len PySem.boot_len (pa_cons (pv 1) pa_nil)) pe_int (nomark _)) (pss_one (ps_raise rfl (takes_of rfl rfl rfl rfl) (SkE.pmk_own1 PySem.F.excBase_ValueError T.e_NoSight.x T.e_NoSight.g T.e_NoSight.k (raises_own T.e_NoSight.b T.e_NoSight.t) rfl pe_str))) pss_nil)
      (pss_cons (ps_set (i := 2) sc_need_sightings.nd rfl (by first | exact Or.inl rfl | exact Or.inr rfl) pe_int)
      (pss_one (ps_for (passes_of rfl) rfl (pi_list (pv 1)) (pg_tup (by rfl) (pgs_cons (pg_name (i := 3) sc_need_sightings.nd rfl (by first | exact Or.inl rfl | exact Or.inr rfl)) (pgs_cons (pg_name (i := 4) sc_need_sightings.nd rfl (by first | exact Or.inl rfl | exact Or.inr rfl)) pgs_nil))) (pss_cons (ps_expr (pe_meth (pv 0) T.c_Net T.M_N_need_gate G_N_need_gate (hr.mono (by decide)) B_N_need_gate .nil (passes_call (takes_of rfl rfl rfl rfl) fun _ _ _ _ h => h) (pa_cons (pv 4) pa_nil)))
      (pss_cons (ps_if (pt_cmpR op_lt (pv 3) (pv 2) (nomark _)) (pss_one (ps_raise rfl (takes_of rfl rfl rfl rfl) (SkE.pmk_own1 PySem.F.excBase_ValueError T.e_NoTime.x T.e_NoTime.g T.e_NoTime.k (raises_own T.e_NoTime.b T.e_NoTime.t) rfl pe_str))) pss_nil)
      (pss_one (ps_set (i := 2) sc_need_sightings.nd rfl (by first | exact Or.inl rfl | exact Or.inr rfl) (pv 3))))))))), ?_⟩
    walk_at "go"
    refine ⟨S, us, rfl, .inl (SqL.of hS), ?_⟩
    walk_at "go"
    by_cases he : ss = []
    · refine ite2 (fun _ => ?_) (fun z => absurd (by rw [ul, he]; exact decide_eq_true rfl) z)
      walk_at "go"
      exact kS he
    refine ite2 (fun z => absurd (of_decide_eq_true z) (by
      intro z
      injection z with z
      have := List.length_pos_iff.mpr he
      omega)) (fun _ => ?_)
    walk_at "go"
    refine ⟨⟨_, SqL.of hS⟩, for_list (K := K) (a := S) (xs := us) (fun i σ' H' => H = H' ∧ ∃ ah v3 v4, σ' = [some (.ref p), some (.ref S), some (.int ah), v3, v4] ∧ seenRef N ah (ss.drop i) = seenRef N 0 ss)
      ⟨rfl, 0, _, _, rfl, rfl⟩ (fun i σ' H' _ ⟨e, _⟩ => SqL.of (e ▸ hS)) ?_ ?_⟩
    · rintro i x σ' H' hi ⟨rfl, ah, v3, v4, rfl, hsr⟩
      obtain ⟨sq, hsq, t, rfl, ht⟩ := paired_getL hP hi
      obtain ⟨n1, n2⟩ := hn sq (List.mem_of_getElem? hsq)
      have il := (List.getElem?_eq_some_iff.mp hsq).1
      have ed : ss.drop i = sq :: ss.drop (i + 1) := by
        obtain ⟨l, ex⟩ := List.getElem?_eq_some_iff.mp hsq
        rw [← ex]
        exact List.drop_eq_getElem_cons l
      rw [ed] at hsr
      have hsr : (if seesOf N.gates sq.2 = none then some true else if sq.1 < ah then some false else seenRef N sq.1 (ss.drop (i + 1))) = seenRef N 0 ss := hsr
      walk_at "go"
      refine ⟨t, _, rfl, SqT.of ht, rfl, ?_⟩
      refine ⟨_, _, rfl, _, _, rfl, rfl, ?_⟩
      walk_at "go"
      refine ⟨p, dx, _, rfl, hob, netF_no _ _ (by decide +kernel) (by decide +kernel), ?_⟩
      walk_at "go"
      refine ⟨p, g, r, N, sq.2, rfl, hN, n1, n2, fun z => ?_, fun b eb => ?_⟩
      · rw [if_pos z] at hsr
        exact kG he hsr.symm
      rw [if_neg (by rw [eb]; simp)] at hsr
      walk_at "go"
      refine ite2 (fun z => ?_) (fun z => ?_)
      · rw [if_pos (of_decide_eq_true z)] at hsr
        walk_at "go"
        exact kT he hsr.symm
      · rw [if_neg (fun y => z (decide_eq_true y))] at hsr
        walk_at "go"
        exact ⟨_, _, _, rfl, hsr⟩
    · rintro σ' H' ⟨rfl, ah, v3, v4, rfl, hsr⟩
      rw [ul, List.drop_length] at hsr
      exact q he hsr.symm
def spPassed (A : Ads) : Sp := fun vs H Q _ => ∃ (p g r R : Addr) (N : NetD) (rs : List Int) (time : Int), vs = [.ref p, .ref R, .int time] ∧ NetAt A.C_Net H p g r N ∧ H R = some (.lst (rs.map V.int)) ∧ rs.length ≤ 5000 ∧ (∀ x ∈ rs, 0 ≤ x ∧ x < (N.roads.length : Int)) ∧
  ∀ (H' : Hp) (L : Addr) (ws : List V), Same H H' → H L = none → H' L = some (.lst ws) → Paired (PassV H') ws (walkT N time rs.dropLast) → Q (.ref L) H'
theorem ok_passed_between (T : Txt K mg A) : DefOk P w K mg base CX0 2 A.passed_between ["net", "numbers", "time"] (spPassed A) := by
  obtain ⟨_, G_N_roads, B_N_roads, K_N_roads⟩ := ok_N_roads (P := P) (w := w) (base := base) T
  obtain ⟨fd, F⟩ := T.F_passed_between
  refine ⟨fd, ?_, F.binds (ps := ["net", "numbers", "time"]) fun _ _ _ _ _ _ us hl => match us, hl with | [_, _, _], _ => rfl, F.kp⟩
  refine F.ok sc_passed_between (fun vs H Q E h => ?_) (fun cdv A' outer s H vs Q E hr h => ?_)
  · obtain ⟨p, g, r, R, N, rs, time, rfl, _⟩ := h
    rfl
  · obtain ⟨p, g, r, R, N, rs, time, rfl, hN, hR, hl, hv, q⟩ := h
    obtain ⟨dx, hob⟩ := hN.ob
    refine ⟨_, (pss_cons (ps_set (i := 3) sc_passed_between.nd rfl (by first | exact Or.inl rfl | exact Or.inr rfl) (pe_meth0 (pv 0) T.c_Net T.M_N_roads G_N_roads (hr.mono (by decide)) B_N_roads .nil pass0))
      (pss_cons (ps_set (i := 4) sc_passed_between.nd rfl (by first | exact Or.inl rfl | exact Or.inr rfl) (pe_lst pa_nil))
      (pss_cons (ps_for PassesOwn.never rfl (pi_list (pe_slice sl_list (pv 1) po_none (po_some (pe_un un_neg pe_int)))) (pg_name (i := 5) sc_passed_between.nd rfl (by first | exact Or.inl rfl | exact Or.inr rfl)) (pss_cons (ps_asg (pe_ix (r := rIxL K) ix_list (pv 3) (pv 5) (fun _ _ => rfl)) (pg_tup (by rfl) (pgs_cons (pg_name (i := 6) sc_passed_between.nd rfl (by first | exact Or.inl rfl | exact Or.inr rfl)) (pgs_cons (pg_name (i := 7) sc_passed_between.nd rfl (by first | exact Or.inl rfl | exact Or.inr rfl)) (pgs_cons (pg_name (i := 8) sc_passed_between.nd rfl (by first | exact Or.inl rfl | exact Or.inr rfl)) (pgs_cons (pg_name (i := 9) sc_passed_between.nd rfl (by first | exact Or.inl rfl | exact Or.inr rfl)) (pgs_cons (pg_name (i := 10) sc_passed_between.nd rfl (by first | exact Or.inl rfl | exact Or.inr rfl)) pgs_nil)))))))
      (pss_cons (ps_aug (i := 2) sc_passed_between.nd rfl (by first | exact Or.inl rfl | exact Or.inr rfl) (pv 8) ip_add)
      (pss_one (ps_expr (pe_bm PySem.F.plainAttrs_list PySem.F.slot_list_append PySem.F.type_list_append mt_append (pv 4) (pa_cons (pe_tup (pa_cons (pv 7) (pa_cons (pv 2) pa_nil))) pa_nil)))))))
      (pss_one (ps_ret (pv 4)))))), ?_⟩
    walk_at "go"
    refine ⟨p, dx, _, rfl, hob, netF_no _ _ (by decide +kernel) (by decide +kernel), ?_⟩
    walk_at "go"
    refine ⟨p, g, r, N, rfl, hN, fun H1 Lr us s1 nLr hLr hP => ?_⟩
    have hR1 := s1 _ _ hR
    walk_at "go"
    refine ⟨Nat.zero_le _, fun L nL => ?_⟩
    have nL0 := s1.free nL
    have s2 := s1.trans (same_up (o := HO.lst []) nL)
    have hL : (upd H1 L (.lst [])) L = some (.lst []) := upd_same
    have hLr2 := (same_up (o := HO.lst []) nL) _ _ hLr
    have hR2 := (same_up (o := HO.lst []) nL) _ _ hR1
    have hP2 := roads_same (same_up (o := HO.lst []) nL) hP
    generalize upd H1 L (.lst []) = H2 at s2 hL hLr2 hR2 hP2
    walk_at "go"
    refine ⟨R, _, rfl, SqL.of hR2, fun X nX => ?_⟩
    have sX := same_up (o := HO.lst (cutV (rs.map V.int) none (some (-1)))) nX
    have hX : (upd H2 X (.lst (cutV (rs.map V.int) none (some (-1))))) X = some (.lst (rs.dropLast.map V.int)) := by
      rw [upd_same, cut_dropLast, List.map_dropLast]
    have hL3 := sX _ _ hL
    have hLr3 := sX _ _ hLr2
    have hP3 := roads_same sX hP2
    have hXL : X ≠ L := (ne_of_none hL nX).symm
    have nX0 := s2.free nX
    replace s2 := s2.trans sX
    generalize upd H2 X (.lst (cutV (rs.map V.int) none (some (-1)))) = H3 at s2 hX hL3 hLr3 hP3
    have ldr : rs.dropLast.length ≤ 5000 := by rw [List.length_dropLast]; omega
    have hv2 : ∀ x ∈ rs.dropLast, 0 ≤ x ∧ x < (N.roads.length : Int) := fun x hx => hv x ((List.dropLast_sublist rs).mem hx)
    generalize hds : rs.dropLast = ds at hX ldr hv2
    walk_at "go"
    refine ⟨⟨_, SqL.of hX⟩, for_list (K := K) (a := X) (xs := ds.map V.int) (fun i σ' H' => Keep [L] H3 H' ∧ (∃ ws, H' L = some (.lst ws) ∧ Paired (PassV H') ws (walkT N time (ds.take i))) ∧ ∃ v5 v6 v7 v8 v9 v10, σ' = [some (.ref p), some (.ref R), some (.int (time + ((ds.take i).map (miOf N)).sum)), some (.ref Lr), some (.ref L), v5, v6, v7, v8, v9, v10])
      ⟨Keep.of_same (Same.refl _), ⟨[], hL3, .nil⟩, _, _, _, _, _, _, by simp; rfl⟩ (fun i σ' H' _ ⟨k, _⟩ => SqL.of (k _ _ hX (by simpa using hXL))) ?_ ?_⟩
    · rintro i x σ' H' hi ⟨k4, ⟨ws, hws, hWP⟩, v5, v6, v7, v8, v9, v10, rfl⟩
      obtain ⟨z, hz, rfl⟩ := map_int_at hi
      obtain ⟨z0, z1⟩ := hv2 z (List.mem_of_getElem? hz)
      have il := (List.getElem?_eq_some_iff.mp hz).1
      obtain ⟨j, rfl⟩ : ∃ j : Nat, z = (j : Int) := ⟨z.toNat, by omega⟩
      obtain ⟨rd, hrd⟩ : ∃ r, N.roads[j]? = some r := ⟨_, List.getElem?_eq_getElem (by omega)⟩
      obtain ⟨_, hv, tr, rfl, htr⟩ := paired_get hP3 hrd
      have htr4 := k4 _ _ htr (by have := ne_of htr hL3 (by intro z; cases z); simpa using this)
      have hLrL : Lr ≠ L := fun z => by
        rw [z] at hLr
        rw [hLr] at nL
        cases nL
      have hLr4 := k4 _ _ hLr3 (by simpa using hLrL)
      have wl := paired_len hWP
      rw [walkT_len, List.length_take] at wl
      have hm := (tlOf_at (N := N) hrd).2
      have ho : otherOf N (j : Int) = rd.other := by
        unfold otherOf
        rw [Int.toNat_natCast, hrd]
        rfl
      walk_at "go"
      refine ⟨Lr, us, _, _, rfl, rfl, SqL.of hLr4, atI_nat (j := j) hv, ?_⟩
      walk_at "go"
      refine ⟨tr, _, rfl, SqT.of htr4, rfl, ?_⟩
      refine ⟨_, _, rfl, _, _, rfl, _, _, rfl, _, _, rfl, _, _, rfl, rfl, ?_⟩
      walk_at "go"
      refine ⟨.inl ⟨rfl, _, SqL.of hws⟩, ?_⟩
      walk_at "go"
      refine ⟨(by show 2 ≤ sizeLine; decide), fun t nt => ?_⟩
      have st := same_up (o := HO.tup [V.str rd.other, V.int (time + ((ds.take i).map (miOf N)).sum + rd.mi)]) nt
      have ht : (upd H' t (.tup [V.str rd.other, V.int (time + ((ds.take i).map (miOf N)).sum + rd.mi)])) t = some (.tup [.str rd.other, .int (time + ((ds.take i).map (miOf N)).sum + rd.mi)]) := upd_same
      have hws2 := st _ _ hws
      have hWP2 := pass_same st hWP
      refine ⟨L, _, _, rfl, rfl, hws2, Evl.sz_lt (by omega), ?_⟩
      have tk := TK.up (o := HO.lst (ws ++ [V.ref t])) hws2 (by intro xs z; cases z)
      have et : time + ((ds.take (i + 1)).map (miOf N)).sum = time + ((ds.take i).map (miOf N)).sum + rd.mi := by
        rw [List.take_add_one, hz]
        show time + ((ds.take i ++ [(j : Int)]).map (miOf N)).sum = _
        rw [List.map_append, List.sum_append]
        show time + (((ds.take i).map (miOf N)).sum + (miOf N (j : Int) + 0)) = _
        rw [hm]
        omega
      dsimp only
      rw [et]
      refine ⟨(k4.trans (Keep.of_same st)).upd (.inl (by simp)), ⟨_, upd_same, ?_⟩, _, _, _, _, _, _, rfl⟩
      · rw [List.take_add_one, hz]
        show Paired _ _ (walkT N time (ds.take i ++ [(j : Int)]))
        rw [walkT_snoc, ho, hm]
        exact Paired.snoc (pass_tk tk hWP2) ⟨t, rfl, tk _ _ ht⟩
    · rintro σ' H' ⟨k4, ⟨ws, hws, hWP⟩, v5, v6, v7, v8, v9, v10, rfl⟩
      rw [List.length_map, List.take_length] at hWP
      walk_at "go"
      exact q H' L ws (same_keep s2 k4 fun x hx => by rw [List.mem_singleton] at hx; rw [hx]; exact nL0) nL0 hws (by rw [hds]; exact hWP)
end
end Toll

set_option Elab.async false
set_option linter.all false
set_option maxRecDepth 100000
set_option maxHeartbeats 4000000
namespace Toll
open PySem L2
local macro_rules | `(tactic| walk_at "go1") => `(tactic| first
  | refine ⟨_, rfl, ?_⟩
  | refine ⟨rfl, ?_⟩
  | refine ⟨_, _, rfl, rfl, ?_⟩
  | refine ⟨_, _, rfl, ?_⟩
  | (with_reducible refine' ⟨log_small ?k1 ?k2, ?_⟩; (case k1 => omega); (case k2 => omega))
  | (refine' ⟨?k1, ?_⟩; (case k1 => ((with_reducible show (_ : Int) < _); omega)))
  | (refine' ⟨⟨?k1, ?k2⟩, ?_⟩; (case k1 => omega); (case k2 => omega))
  | (refine' ⟨⟨?k1, ?k2, ?k3, ?k4⟩, ?_⟩; (case k1 => omega); (case k2 => omega); (case k3 => omega); (case k4 => omega))
  | (refine' ⟨.inl ⟨?k1, ?k2⟩, ?_⟩; (case k1 => omega); (case k2 => omega))
  | (refine' ⟨.inr ⟨?k1, ?k2⟩, ?_⟩; (case k1 => omega); (case k2 => omega))
  | (refine' ⟨Evl.sz_of ?k1, ?_⟩; (case k1 => omega))
  | (refine' ⟨?k1, ?_⟩; (case k1 => ((with_reducible show (_ : Int) ≤ _); omega)))
  | refine ⟨⟨_, rfl⟩, ?_⟩
  | refine .inl ⟨_, rfl, ?_⟩ | refine .inr ⟨_, rfl, ?_⟩
  | refine iteT ?_ | refine iteF ?_)
local macro_rules | `(tactic| walk_at "go") => `(tactic| repeat (walk_at "go1"))
local macro_rules | `(tactic| walk_at "ans") => `(tactic| (intro Q' q'; walk_at "go"; (try rw [dec_int]); (try rw [dec_str]); exact q'))
local macro_rules | `(tactic| walk_at "hp") => `(tactic| first | assumption | exact upd_same | (refine' up_same ?e ?h; (case e => assumption); (case h => walk_at "hp")) | (refine' upd_at ?n ?h; (case n => walk_at "ne"); (case h => walk_at "hp")))
local macro_rules | `(tactic| walk_at "ne") => `(tactic| first | assumption | (apply Ne.symm; assumption))
local macro_rules | `(tactic| walk_at "at") => `(tactic| first | exact atI_nat (j := 0) rfl | exact atI_nat (j := 1) rfl | exact atI_nat (j := 2) rfl | exact atI_nat (j := 3) rfl | exact atI_nat (j := 4) rfl)
local macro_rules | `(tactic| walk_at "step1") => `(tactic| first
  | walk_at "go1"
  | (apply ixL_step; (case h => walk_at "hp"); (case a => walk_at "at"))
  | (apply ixT_step; (case h => walk_at "hp"); (case a => walk_at "at"))
  | (apply lenL_step; (case h => walk_at "hp")))
local macro_rules | `(tactic| walk_at "step") => `(tactic| repeat (walk_at "step1"))
section
variable {P : Program} {w : World} {K : PySem.W.Frag} {mg : Str → Option Value} {base : Heap} {A : Ads}
def spGuess (A : Ads) : Sp := fun vs H Q E => ∃ (p g r S : Addr) (N : NetD) (us : List V) (ss : List (Int × Str)), vs = [.ref p, .ref S] ∧ NetAt A.C_Net H p g r N ∧ NetOk N ∧ H S = some (.lst us) ∧ Paired (SeenV H) us ss ∧ ss.length ≤ 20 ∧ (∀ q ∈ ss, q.2.length ≤ 1000 ∧ PyData.strOk q.2 = true) ∧
  (ss = [] → E (.ref A.C_NoSight) none H) ∧ (ss ≠ [] → seenRef N 0 ss = some true → E (.ref A.C_NoGate) none H) ∧ (ss ≠ [] → seenRef N 0 ss = some false → E (.ref A.C_NoTime) none H) ∧
  (ss ≠ [] → seenRef N 0 ss = none → (∀ i a b, ss[i]? = some a → ss[i + 1]? = some b → seesOf N.gates a.2 ≠ none ∧ seesOf N.gates b.2 ≠ none ∧ a.1 ≤ b.1 ∧ ∃ u, Few N a.2 (b.1 - a.1) u) ∧
    (∀ (H' : Hp) (T : Addr) (k : Nat), Same H H' → H T = none → H' T = some (.tup [.str "none", .int (k : Int)]) → GuessP N ss (.no k) → Q (.ref T) H') ∧
    (∀ (H' : Hp) (T R L : Addr) (ws : List V) (legs : List LegD) (q0 : Int × Str), Same H H' → H T = none → H R = none → H L = none → R ≠ L → H' T = some (.tup [.str "way", .int (tollsOf legs), .ref R, .ref L]) → H' R = some (.lst ((roadsAll legs).map V.int)) → H' L = some (.lst ws) → ss[0]? = some q0 → Paired (PassV H') ws ((q0.2, q0.1) :: passU N ss legs legs.length) → GuessP N ss (.way legs) → Q (.ref T) H'))
theorem ok_guess (T : Txt K mg A) : DefOk P w K mg base (L2.CX P w) 5 A.guess ["net", "seen"] (spGuess A) := by
  obtain ⟨_, G_need_sightings, B_need_sightings, K_need_sightings⟩ := ok_need_sightings (P := P) (w := w) (base := base) T
  obtain ⟨_, G_passed_between, B_passed_between, K_passed_between⟩ := ok_passed_between (P := P) (w := w) (base := base) T
  obtain ⟨_, G_leg, B_leg, K_leg⟩ := ok_leg (P := P) (w := w) (base := base) T
  obtain ⟨fd, F⟩ := T.F_guess
  refine ⟨fd, ?_, F.binds (ps := ["net", "seen"]) fun _ _ _ _ _ _ us hl => match us, hl with | [_, _], _ => rfl, F.kp⟩
  refine F.okX sc_guess (fun vs H Q E h => ?_) (fun cdv A' outer s H vs Q E hr h => ?_)
  · obtain ⟨p, g, r, S, N, us, ss, rfl, _⟩ := h
    rfl
  · obtain ⟨p, g, r, S, N, us, ss, rfl, hN, hOk, hS, hP, h20, hn, kS, kG, kT, kQ⟩ := h
    have ul := paired_len hP
    refine ⟨_, (pss_cons (ps_expr (pe_call G_need_sightings (hr.mono (by decide)) rfl T.m_need_sightings K_need_sightings B_need_sightings .nil (passes_call (takes_of rfl rfl rfl rfl) fun _ _ _ _ h => h) (pa_cons (pv 0) (pa_cons (pv 1) pa_nil))))
      (pss_cons (ps_asg (pe_ix (r := rIxL K) ix_list (pv 1) pe_int (fun _ _ => rfl)) (pg_tup (by rfl) (pgs_cons (pg_name (i := 2) sc_guess.nd rfl (by first | exact Or.inl rfl | exact Or.inr rfl)) (pgs_cons (pg_name (i := 3) sc_guess.nd rfl (by first | exact Or.inl rfl | exact Or.inr rfl)) pgs_nil))))
      (pss_cons (ps_set (i := 4) sc_guess.nd rfl (by first | exact Or.inl rfl | exact Or.inr rfl) pe_int)
      (pss_cons (ps_set (i := 5) sc_guess.nd rfl (by first | exact Or.inl rfl | exact Or.inr rfl) (pe_lst pa_nil))
      (pss_cons (ps_set (i := 6) sc_guess.nd rfl (by first | exact Or.inl rfl | exact Or.inr rfl) (pe_lst (pa_cons (pe_tup (pa_cons (pv 3) (pa_cons (pv 2) pa_nil))) pa_nil)))
      (pss_cons (ps_for (passes_of rfl) rfl (pi_range2 (by rfl) T.b_range (pa_cons pe_int (pa_cons (pe_callB call_len_seq (by rfl) T.b_len PySem.boot_len (pa_cons (pv 1) pa_nil)) pa_nil))) (pg_name (i := 7) sc_guess.nd rfl (by first | exact Or.inl rfl | exact Or.inr rfl)) (pss_cons (ps_asg (pe_ix (r := rIxL K) ix_list (pv 1) (pv 7) (fun _ _ => rfl)) (pg_tup (by rfl) (pgs_cons (pg_name (i := 8) sc_guess.nd rfl (by first | exact Or.inl rfl | exact Or.inr rfl)) (pgs_cons (pg_name (i := 9) sc_guess.nd rfl (by first | exact Or.inl rfl | exact Or.inr rfl)) pgs_nil))))
      (pss_cons (ps_set (i := 10) sc_guess.nd rfl (by first | exact Or.inl rfl | exact Or.inr rfl) (pe_call G_leg (hr.mono (by decide)) rfl T.m_leg K_leg B_leg .nil (passes_call (takes_of rfl rfl rfl rfl) fun _ _ _ _ h => h) (pa_cons (pv 0) (pa_cons (pv 3) (pa_cons (pv 9) (pa_cons (pe_op op_sub (pv 8) (pv 2)) pa_nil))))))
      (pss_cons (ps_if (pt_cmpR op_isN (pv 10) pe_non (nomark _)) (pss_one (ps_ret (pe_tup (pa_cons pe_str (pa_cons (pe_op op_sub (pv 7) pe_int) pa_nil))))) pss_nil)
      (pss_cons (ps_asg (pv 10) (pg_tup (by rfl) (pgs_cons (pg_name (i := 11) sc_guess.nd rfl (by first | exact Or.inl rfl | exact Or.inr rfl)) (pgs_cons (pg_name (i := 12) sc_guess.nd rfl (by first | exact Or.inl rfl | exact Or.inr rfl)) (pgs_cons (pg_name (i := 13) sc_guess.nd rfl (by first | exact Or.inl rfl | exact Or.inr rfl)) pgs_nil)))))
      (pss_cons (ps_aug (i := 4) sc_guess.nd rfl (by first | exact Or.inl rfl | exact Or.inr rfl) (pv 11) ip_add)
      (pss_cons (ps_expr (pe_bm PySem.F.plainAttrs_list PySem.F.slot_list_extend PySem.F.type_list_extend mt_extend (pv 5) (pa_cons (pv 13) pa_nil)))
      (pss_cons (ps_expr (pe_bm PySem.F.plainAttrs_list PySem.F.slot_list_extend PySem.F.type_list_extend mt_extend (pv 6) (pa_cons (pe_call G_passed_between (hr.mono (by decide)) rfl T.m_passed_between K_passed_between B_passed_between .nil pass0 (pa_cons (pv 0) (pa_cons (pv 13) (pa_cons (pv 2) pa_nil)))) pa_nil)))
      (pss_cons (ps_expr (pe_bm PySem.F.plainAttrs_list PySem.F.slot_list_append PySem.F.type_list_append mt_append (pv 6) (pa_cons (pe_tup (pa_cons (pv 9) (pa_cons (pv 8) pa_nil))) pa_nil)))
      (pss_cons (ps_set (i := 2) sc_guess.nd rfl (by first | exact Or.inl rfl | exact Or.inr rfl) (pv 8))
      (pss_one (ps_set (i := 3) sc_guess.nd rfl (by first | exact Or.inl rfl | exact Or.inr rfl) (pv 9)))))))))))))
      (pss_one (ps_ret (pe_tup (pa_cons pe_str (pa_cons (pv 4) (pa_cons (pv 5) (pa_cons (pv 6) pa_nil))))))))))))), ?_⟩
    walk_at "go"
    refine ⟨p, g, r, S, N, us, ss, rfl, hN, hS, hP, hn, kS, kG, kT, fun he hsr => ?_⟩
    obtain ⟨hst, qN, qW⟩ := kQ he hsr
    have sl0 : 0 < ss.length := List.length_pos_iff.mpr he
    obtain ⟨q0, hq0⟩ : ∃ q, ss[0]? = some q := ⟨_, List.getElem?_eq_getElem sl0⟩
    obtain ⟨_, hv0, t0, rfl, ht0⟩ := paired_get hP hq0
    walk_at "go"
    refine ⟨S, us, _, _, rfl, rfl, SqL.of hS, atI_nat (j := 0) hv0, ?_⟩
    walk_at "go"
    refine ⟨t0, _, rfl, SqT.of ht0, rfl, ?_⟩
    refine ⟨_, _, rfl, _, _, rfl, rfl, ?_⟩
    walk_at "go"
    refine ⟨Nat.zero_le _, fun R nR => ?_⟩
    have s1 := same_up (o := HO.lst []) nR
    have hR : (upd H R (.lst [])) R = some (.lst (([] : List Int).map V.int)) := upd_same
    generalize upd H R (.lst []) = H1 at s1 hR
    walk_at "go"
    refine ⟨(by show 2 ≤ sizeLine; decide), fun tp ntp => ?_⟩
    have s2 := s1.trans (same_up (o := HO.tup [V.str q0.2, V.int q0.1]) ntp)
    have hR2 := (same_up (o := HO.tup [V.str q0.2, V.int q0.1]) ntp) _ _ hR
    have htp : (upd H1 tp (.tup [V.str q0.2, V.int q0.1])) tp = some (.tup [V.str q0.2, V.int q0.1]) := upd_same
    generalize upd H1 tp (.tup [V.str q0.2, V.int q0.1]) = H2 at s2 hR2 htp
    walk_at "go"
    refine ⟨(by show 1 ≤ sizeLine; decide), fun L nL => ?_⟩
    have nL0 := s2.free nL
    have s3 := s2.trans (same_up (o := HO.lst [V.ref tp]) nL)
    have hR3 := (same_up (o := HO.lst [V.ref tp]) nL) _ _ hR2
    have htp3 := (same_up (o := HO.lst [V.ref tp]) nL) _ _ htp
    have hL : (upd H2 L (.lst [V.ref tp])) L = some (.lst [V.ref tp]) := upd_same
    have hRL : R ≠ L := ne_of_none hR2 nL
    generalize upd H2 L (.lst [V.ref tp]) = H3 at s3 hR3 htp3 hL
    walk_at "go"
    refine ⟨S, us, rfl, .inl (SqL.of (s3 _ _ hS)), ?_⟩
    walk_at "go"
    refine for_range (lo := 1) (n := _) (fun i σ' H' => Same H H' ∧ ∃ (legs : List LegD) (ws : List V) (qi : Int × Str) (v7 v8 v9 v10 v11 v12 v13 : Option V), σ' = [some (.ref p), some (.ref S), some (.int qi.1), some (.str qi.2), some (.int (tollsOf legs)), some (.ref R), some (.ref L), v7, v8, v9, v10, v11, v12, v13] ∧ legs.length = i ∧ ss[i]? = some qi ∧ LegsAt N ss legs ∧
        H' R = some (.lst ((roadsAll legs).map V.int)) ∧ (roadsAll legs).length ≤ 4000 * i ∧ H' L = some (.lst ws) ∧ Paired (PassV H') ws ((q0.2, q0.1) :: passU N ss legs legs.length))
      ⟨s3, [], [V.ref tp], q0, _, _, _, _, _, _, _, rfl, rfl, hq0, fun i a b l _ _ h => (by simp at h), hR3, Nat.le_refl _, hL, .cons ⟨tp, rfl, htp3⟩ .nil⟩ ?_ ?_
    · rintro i σ' H' hi ⟨s4, legs, ws, qi, v7, v8, v9, v10, v11, v12, v13, rfl, hll, hqi, hla, hR4, hrl, hL4, hW4⟩
      rw [show (1 : Int) + (i : Int) = ((i + 1 : Nat) : Int) by omega]
      obtain ⟨qj, hqj⟩ : ∃ q, ss[i + 1]? = some q := ⟨_, List.getElem?_eq_getElem (by omega)⟩
      obtain ⟨_, hvj, tj, rfl, htj⟩ := paired_get hP hqj
      obtain ⟨hs1, hs2, hle, u, hfew⟩ := hst i qi qj hqi hqj
      obtain ⟨n1, n2⟩ := hn qi (List.mem_of_getElem? hqi)
      obtain ⟨n3, n4⟩ := hn qj (List.mem_of_getElem? hqj)
      walk_at "go"
      refine ⟨S, us, _, _, rfl, rfl, SqL.of (s4 _ _ hS), atI_nat (j := i + 1) hvj, ?_⟩
      walk_at "go"
      refine ⟨tj, _, rfl, SqT.of (s4 _ _ htj), rfl, ?_⟩
      refine ⟨_, _, rfl, _, _, rfl, rfl, ?_⟩
      walk_at "go"
      refine ⟨p, g, r, N, qi.2, qj.2, qj.1 - qi.1, rfl, hN.same s4, hOk, n1, n2, n3, n4, fun z => absurd z hs1, fun _ z => absurd z hs2, fun _ _ z => by omega, fun _ _ _ => ⟨u, hfew, fun H5 s5 hno hlg => ?_, fun H5 T5 R5 t m rr s5 nT5 nR5 nTR hT5 hR5 hrl5 hbd hlg => ?_⟩⟩
      · walk_at "go"
        refine ⟨(by show 2 ≤ sizeLine; decide), fun T6 nT6 => ?_⟩
        have s6 := (s4.trans s5).trans (same_up (o := HO.tup [V.str "none", V.int (((i + 1 : Nat) : Int) - 1)]) nT6)
        refine qN _ T6 i s6 ((s4.trans s5).free nT6) ?_ ⟨legs, hll, hla, qi, qj, hqi, hqj, hno, hlg⟩
        rw [upd_same]
        show some (HO.tup [V.str (Str.ofString "none"), V.int (((i + 1 : Nat) : Int) - 1)]) = _
        rw [show (((i + 1 : Nat) : Int) - 1) = (i : Int) by omega]
      walk_at "go"
      refine ⟨T5, _, rfl, SqT.of hT5, rfl, ?_⟩
      refine ⟨_, _, rfl, _, _, rfl, _, _, rfl, rfl, ?_⟩
      have s45 := s4.trans s5
      have hR45 := s5 _ _ hR4
      have hL45 := s5 _ _ hL4
      have hW45 := pass_same s5 hW4
      have wl := paired_len hW45
      rw [List.length_cons] at wl
      have pl : (passU N ss legs legs.length).length ≤ 4000 * legs.length := passU_len hla legs.length
      have hRne : R ≠ R5 := ne_of_none hR4 nR5
      walk_at "go"
      refine ⟨.inl ⟨rfl, _, SqL.of hR45⟩, ?_⟩
      walk_at "go"
      refine ⟨R, R5, _, _, rfl, rfl, hR45, hR5, Evl.sz_of (by rw [List.length_map, List.length_map]; omega), ?_⟩
      rw [← List.map_append]
      have s6 := same_new (o := HO.lst ((roadsAll legs ++ rr).map V.int)) s45 nR
      have hR6 : (upd H5 R (.lst ((roadsAll legs ++ rr).map V.int))) R = some (.lst ((roadsAll legs ++ rr).map V.int)) := upd_same
      have hR56 := upd_at (o := HO.lst ((roadsAll legs ++ rr).map V.int)) hRne.symm hR5
      have hL6 := upd_at (o := HO.lst ((roadsAll legs ++ rr).map V.int)) hRL.symm hL45
      have hW6 := pass_tk (TK.up (o := HO.lst ((roadsAll legs ++ rr).map V.int)) hR45 (by intro xs z; cases z)) hW45
      generalize upd H5 R (.lst ((roadsAll legs ++ rr).map V.int)) = H6 at s6 hR6 hR56 hL6 hW6
      walk_at "go"
      refine ⟨.inl ⟨rfl, _, SqL.of hL6⟩, ?_⟩
      walk_at "go"
      refine ⟨p, g, r, R5, N, rr, qi.1, rfl, hN.same s6, hR56, by omega, hbd.1.roads, fun H7 Wp ws7 s7 nW hWp hW7 => ?_⟩
      have s67 := s6.trans s7
      have hR7 := s7 _ _ hR6
      have hL7 := s7 _ _ hL6
      have hW67 := pass_same s7 hW6
      have wl7 := paired_len hW7
      rw [walkT_len, List.length_dropLast] at wl7
      walk_at "go"
      refine ⟨L, Wp, _, _, rfl, rfl, hL7, hWp, Evl.sz_of (by omega), ?_⟩
      have s8 := same_new (o := HO.lst (ws ++ ws7)) s67 nL0
      have tk8 := TK.up (o := HO.lst (ws ++ ws7)) hL7 (by intro xs z; cases z)
      have hL8 : (upd H7 L (.lst (ws ++ ws7))) L = some (.lst (ws ++ ws7)) := upd_same
      have hR8 := upd_at (o := HO.lst (ws ++ ws7)) hRL hR7
      have hW8 := pass_tk tk8 hW67
      have hW78 := pass_tk tk8 hW7
      generalize upd H7 L (.lst (ws ++ ws7)) = H8 at s8 tk8 hL8 hR8 hW8 hW78
      walk_at "go"
      refine ⟨.inl ⟨rfl, _, SqL.of hL8⟩, ?_⟩
      walk_at "go"
      refine ⟨(by show 2 ≤ sizeLine; decide), fun t8 nt8 => ?_⟩
      have s9 := same_up (o := HO.tup [V.str qj.2, V.int qj.1]) nt8
      have ht8 : (upd H8 t8 (.tup [V.str qj.2, V.int qj.1])) t8 = some (.tup [V.str qj.2, V.int qj.1]) := upd_same
      have hL9 := s9 _ _ hL8
      have hR9 := s9 _ _ hR8
      have hW9 := pass_same s9 hW8
      have hW79 := pass_same s9 hW78
      refine ⟨L, _, _, rfl, rfl, hL9, Evl.sz_lt (by rw [List.length_append]; omega), ?_⟩
      have s10 := same_new (o := HO.lst (ws ++ ws7 ++ [V.ref t8])) (s8.trans s9) nL0
      have tk10 := TK.up (o := HO.lst (ws ++ ws7 ++ [V.ref t8])) hL9 (by intro xs z; cases z)
      have hL10 : (upd (upd H8 t8 (.tup [V.str qj.2, V.int qj.1])) L (.lst (ws ++ ws7 ++ [V.ref t8]))) L = some (.lst (ws ++ ws7 ++ [V.ref t8])) := upd_same
      have hR10 := upd_at (o := HO.lst (ws ++ ws7 ++ [V.ref t8])) hRL hR9
      have hW10 := pass_tk tk10 hW9
      have hW710 := pass_tk tk10 hW79
      have ht10 := tk10 _ _ ht8
      generalize upd (upd H8 t8 (.tup [V.str qj.2, V.int qj.1])) L (.lst (ws ++ ws7 ++ [V.ref t8])) = H10 at s10 tk10 hL10 hR10 hW10 hW710 ht10
      have hla2 := hla.snoc (l := (t, m, rr)) (by rw [hll]; exact hqi) (by rw [hll]; exact hqj) hbd hlg hrl5
      walk_at "go"
      dsimp only [List.set]
      rw [show tollsOf legs + t = tollsOf (legs ++ [(t, m, rr)]) from (tollsOf_snoc legs (t, m, rr)).symm]
      refine ⟨s10, legs ++ [(t, m, rr)], ws ++ ws7 ++ [V.ref t8], qj, _, _, _, _, _, _, _, rfl, by rw [List.length_append, hll]; rfl, hqj, hla2, by rw [roadsAll_snoc]; exact hR10, by rw [roadsAll_snoc, List.length_append]; show _ + rr.length ≤ _; omega, hL10, ?_⟩
      rw [List.length_append, List.length_singleton, passU_step (by rw [hll]; exact hqi) (by rw [hll]; exact hqj) (by simp; rfl), passU_grow _ _ (Nat.le_refl _), ← List.cons_append, ← List.append_assoc]
      exact Paired.snoc (paired_app hW10 hW710) ⟨t8, rfl, ht10⟩
    · rintro σ' H' ⟨s4, legs, ws, qi, v7, v8, v9, v10, v11, v12, v13, rfl, hll, hqi, hla, hR4, hrl, hL4, hW4⟩
      walk_at "go"
      refine ⟨(by show 4 ≤ sizeLine; decide), fun T6 nT6 => ?_⟩
      have s6 := same_up (o := HO.tup [V.str "way", V.int (tollsOf legs), V.ref R, V.ref L]) nT6
      exact qW _ T6 R L ws legs q0 (s4.trans s6) (s4.free nT6) nR nL0 hRL upd_same (s6 _ _ hR4) (s6 _ _ hL4) hq0 (pass_same s6 hW4) ⟨by omega, hla⟩
end
end Toll

set_option Elab.async false
set_option linter.all false
set_option maxRecDepth 100000
set_option maxHeartbeats 4000000
namespace Toll
open PySem L2
local macro_rules | `(tactic| walk_at "go1") => `(tactic| first
  | refine ⟨_, rfl, ?_⟩
  | refine ⟨rfl, ?_⟩
  | refine ⟨_, _, rfl, rfl, ?_⟩
  | refine ⟨_, _, rfl, ?_⟩
  | (with_reducible refine' ⟨log_small ?k1 ?k2, ?_⟩; (case k1 => omega); (case k2 => omega))
  | (refine' ⟨?k1, ?_⟩; (case k1 => ((with_reducible show (_ : Int) < _); omega)))
  | (refine' ⟨⟨?k1, ?k2⟩, ?_⟩; (case k1 => omega); (case k2 => omega))
  | (refine' ⟨⟨?k1, ?k2, ?k3, ?k4⟩, ?_⟩; (case k1 => omega); (case k2 => omega); (case k3 => omega); (case k4 => omega))
  | (refine' ⟨.inl ⟨?k1, ?k2⟩, ?_⟩; (case k1 => omega); (case k2 => omega))
  | (refine' ⟨.inr ⟨?k1, ?k2⟩, ?_⟩; (case k1 => omega); (case k2 => omega))
  | (refine' ⟨Evl.sz_of ?k1, ?_⟩; (case k1 => omega))
  | (refine' ⟨?k1, ?_⟩; (case k1 => ((with_reducible show (_ : Int) ≤ _); omega)))
  | refine ⟨⟨_, rfl⟩, ?_⟩
  | refine .inl ⟨_, rfl, ?_⟩ | refine .inr ⟨_, rfl, ?_⟩
  | refine iteT ?_ | refine iteF ?_)
local macro_rules | `(tactic| walk_at "go") => `(tactic| repeat (walk_at "go1"))
local macro_rules | `(tactic| walk_at "ans") => `(tactic| (intro Q' q'; walk_at "go"; (try rw [dec_int]); (try rw [dec_str]); exact q'))
local macro_rules | `(tactic| walk_at "hp") => `(tactic| first | assumption | exact upd_same | (refine' up_same ?e ?h; (case e => assumption); (case h => walk_at "hp")) | (refine' upd_at ?n ?h; (case n => walk_at "ne"); (case h => walk_at "hp")))
local macro_rules | `(tactic| walk_at "ne") => `(tactic| first | assumption | (apply Ne.symm; assumption))
local macro_rules | `(tactic| walk_at "at") => `(tactic| first | exact atI_nat (j := 0) rfl | exact atI_nat (j := 1) rfl | exact atI_nat (j := 2) rfl | exact atI_nat (j := 3) rfl | exact atI_nat (j := 4) rfl)
local macro_rules | `(tactic| walk_at "step1") => `(tactic| first
  | walk_at "go1"
  | (apply ixL_step; (case h => walk_at "hp"); (case a => walk_at "at"))
  | (apply ixT_step; (case h => walk_at "hp"); (case a => walk_at "at"))
  | (apply lenL_step; (case h => walk_at "hp")))
local macro_rules | `(tactic| walk_at "step") => `(tactic| repeat (walk_at "step1"))
section
variable {P : Program} {w : World} {K : PySem.W.Frag} {mg : Str → Option Value} {base : Heap} {A : Ads}
def spWInit (A : Ads) : Sp := fun vs H Q _ => ∃ (p dx n : Addr), vs = [.ref p, .ref n] ∧ H p = some (.ins A.C_Watch dx []) ∧ ∀ (sd : Addr) (H' : Hp), H sd = none → WatchAt A.C_Watch H' p n sd [] → Keep [p] H H' → Q .non H'
theorem ok_W_init (T : Txt K mg A) : DefOk P w K mg base CX0 1 A.W_init ["self", "net"] (spWInit A) := by
  obtain ⟨fd, F⟩ := T.F_W_init
  refine ⟨fd, ?_, F.binds (ps := ["self", "net"]) fun _ _ _ _ _ _ us hl => match us, hl with | [_, _], _ => rfl, F.kp⟩
  refine F.ok sc_W_init (fun vs H Q E h => ?_) (fun cdv A' outer s H vs Q E hr h => ?_)
  · obtain ⟨p, dx, n, rfl, _⟩ := h
    rfl
  · obtain ⟨p, dx, n, rfl, hp, q⟩ := h
    refine ⟨_, (pss_cons (ps_fld (pv 0) (pv 1) rfl)
      (pss_one (ps_fld (pv 0) pe_dnewK rfl))), ?_⟩
    walk_at "go"
    refine ⟨p, _, dx, [], rfl, hp, T.c_Watch, T.na_Watch_net, (by show 0 < 1000; decide), ?_⟩
    have hp1 : (upd H p (.ins A.C_Watch dx (putF "net" (.ref n) []))) p = some (.ins A.C_Watch dx (putF "net" (.ref n) [])) := upd_same
    have k1 := (Keep.of_same (S := [p]) (Same.refl H)).upd (p := p) (o := HO.ins A.C_Watch dx (putF "net" (.ref n) [])) (.inl (by simp))
    walk_at "go"
    intro sd nsd
    have nsd0 : H sd = none := by
      cases e : H sd with
      | none => rfl
      | some o =>
        have hne : sd ≠ p := fun z => by
          rw [z, upd_same] at nsd
          cases nsd
        rw [upd_ne hne, e] at nsd
        cases nsd
    have hps : p ≠ sd := fun z => by
      rw [← z, upd_same] at nsd
      cases nsd
    walk_at "go"
    refine ⟨p, _, dx, _, rfl, (by rw [upd_ne hps]; exact upd_same), T.c_Watch, T.na_Watch__sightings, (by show 1 < 1000; decide), ?_⟩
    refine q sd _ nsd0 ⟨⟨dx, upd_same⟩, ?_, fun e he => (by cases he), List.nodup_nil, List.nodup_nil, fun e he => (by cases he), fun e he => (by cases he), by simp, fun e he => (by cases he)⟩ ?_
    · rw [upd_ne hps.symm, upd_same]
      rfl
    · exact (k1.upd (.inr nsd0)).upd (.inl (by simp))
def spNeedCar (A : Ads) : Sp := fun vs H Q E => ∃ (p n sd : Addr) (W : List CarE) (c : Str), vs = [.ref p, .str c] ∧ WatchAt A.C_Watch H p n sd W ∧ c.length ≤ 1000 ∧ PyData.strOk c = true ∧ (carOf W c = none → E (.ref A.C_NoCar) none H) ∧ (∀ e, carOf W c = some e → Q .non H)
theorem ok_W__need_car (T : Txt K mg A) : DefOk P w K mg base (L2.CX P w) 1 A.W__need_car ["self", "car"] (spNeedCar A) := by
  obtain ⟨fd, F⟩ := T.F_W__need_car
  refine ⟨fd, ?_, F.binds (ps := ["self", "car"]) fun _ _ _ _ _ _ us hl => match us, hl with | [_, _], _ => rfl, F.kp⟩
  refine F.okX sc_W__need_car (fun vs H Q E h => ?_) (fun cdv A' outer s H vs Q E hr h => ?_)
  · obtain ⟨p, n, sd, W, c, rfl, _⟩ := h
    rfl
  · obtain ⟨p, n, sd, W, c, rfl, hW, hl, ho, kE, kQ⟩ := h
    have hu := hu_of hr
    obtain ⟨dx, hob⟩ := hW.ob
    refine ⟨_, (pss_one (ps_if (pt_cmp (pc_dnotin hu (pv 1) (pe_fld (pv 0) rfl))) (pss_one (ps_raise rfl (takes_of rfl rfl rfl rfl) (SkE.pmk_own1 PySem.F.excBase_ValueError T.e_NoCar.x T.e_NoCar.g T.e_NoCar.k (raises_own T.e_NoCar.b T.e_NoCar.t) rfl (pe_joined (.cons pe_str (.cons (pe_fmtR (pv 1)) (.cons pe_str .nil))))))) pss_nil)), ?_⟩
    walk_at "go"
    refine ⟨p, _, dx, _, _, rfl, hob, T.c_Watch, T.na_Watch__sightings, watchF_sd _ _, sd, _, rfl, DGet.k (k := Sum.inr c) hW.sd, _, rfl, ?_⟩
    rw [valV_cars]
    cases e : carOf W c with
    | some x =>
      refine iteF ?_
      exact kQ x e
    | none =>
      refine iteT ?_
      walk_at "go"
      refine ⟨by decide +kernel, ?_⟩
      walk_at "go"
      refine ⟨repr_ok hl ho, ?_⟩
      walk_at "go"
      refine ⟨cat_sz2 (n := 1000) (m := 20000) (by decide +kernel) (repr_sz hl ho) (by decide), ?_⟩
      walk_at "go"
      refine ⟨sz3 (by decide +kernel) (by have := repr_sz hl ho; omega) (by decide +kernel), ?_⟩
      exact kE e
def spSeen (A : Ads) : Sp := fun vs H Q E => ∃ (p n sd : Addr) (W : List CarE) (c : Str), vs = [.ref p, .str c] ∧ WatchAt A.C_Watch H p n sd W ∧ c.length ≤ 1000 ∧ PyData.strOk c = true ∧ (carOf W c = none → E (.ref A.C_NoCar) none H) ∧ (∀ e, carOf W c = some e → ∀ (H' : Hp) (L : Addr) (us : List V), Same H H' → H L = none → H' L = some (.lst us) → Paired (SeenV H') us (e.ss.mergeSort seenLe) → Q (.ref L) H')
theorem ok_W_seen (T : Txt K mg A) : DefOk P w K mg base (L2.CX P w) 2 A.W_seen ["self", "car"] (spSeen A) := by
  obtain ⟨_, G_W__need_car, B_W__need_car, K_W__need_car⟩ := ok_W__need_car (P := P) (w := w) (base := base) T
  obtain ⟨fd, F⟩ := T.F_W_seen
  refine ⟨fd, ?_, F.binds (ps := ["self", "car"]) fun _ _ _ _ _ _ us hl => match us, hl with | [_, _], _ => rfl, F.kp⟩
  refine F.okX sc_W_seen (fun vs H Q E h => ?_) (fun cdv A' outer s H vs Q E hr h => ?_)
  · obtain ⟨p, n, sd, W, c, rfl, _⟩ := h
    rfl
  · obtain ⟨p, n, sd, W, c, rfl, hW, hl, ho, kE, kQ⟩ := h
    have hu := hu_of hr
    obtain ⟨dx, hob⟩ := hW.ob
    refine ⟨_, (pss_cons (ps_expr (pe_meth (pv 0) T.c_Watch T.M_W__need_car G_W__need_car (hr.mono (by decide)) B_W__need_car .nil (passes_call (takes_of rfl rfl rfl rfl) fun _ _ _ _ h => h) (pa_cons (pv 1) pa_nil)))
      (pss_one (ps_ret (pe_callB (call_sortSeenT rfl hr.units) (by rfl) T.b_sorted (by decide +kernel) (pa_cons (pe_dget hu (pe_fld (pv 0) rfl) (pv 1) (fun _ _ => rfl)) pa_nil))))), ?_⟩
    walk_at "go"
    refine ⟨p, dx, _, rfl, hob, watchF_no _ _ (by decide +kernel) (by decide +kernel), ?_⟩
    walk_at "go"
    refine ⟨p, n, sd, W, c, rfl, hW, hl, ho, kE, fun e he => ?_⟩
    obtain ⟨hm, hc⟩ := carOf_some he
    obtain ⟨kvs, hd, hk⟩ := hW.ds e hm
    walk_at "go"
    refine ⟨p, _, dx, _, _, rfl, hob, T.c_Watch, T.na_Watch__sightings, watchF_sd _ _, ?_⟩
    walk_at "go"
    refine ⟨sd, _, rfl, (by have := DGet.k (k := Sum.inr c) hW.sd; rw [valV_cars, he] at this; exact this), ?_⟩
    walk_at "go"
    refine ⟨e.d, kvs, e.ss, rfl, hd, hk, (by have := hW.l2 e hm; omega), fun L us nL hP => ?_⟩
    exact kQ e he _ L us (same_up nL) nL upd_same (seen_same (same_up nL) hP)
def spCars (A : Ads) : Sp := fun vs H Q _ => ∃ (p n sd : Addr) (W : List CarE), vs = [.ref p] ∧ WatchAt A.C_Watch H p n sd W ∧ ∀ (H' : Hp) (L : Addr) (ys : List Str), Same H H' → H L = none → ys.Perm (W.map (·.car)) → PyProof.Rows.sortedS ys = true → H' L = some (.lst (ys.map V.str)) → Q (.ref L) H'
theorem ok_W_cars (T : Txt K mg A) : DefOk P w K mg base CX0 1 A.W_cars ["self"] (spCars A) := by
  obtain ⟨fd, F⟩ := T.F_W_cars
  refine ⟨fd, ?_, F.binds (ps := ["self"]) fun _ _ _ _ _ _ us hl => match us, hl with | [_], _ => rfl, F.kp⟩
  refine F.ok sc_W_cars (fun vs H Q E h => ?_) (fun cdv A' outer s H vs Q E hr h => ?_)
  · obtain ⟨p, n, sd, W, rfl, _⟩ := h
    rfl
  · obtain ⟨p, n, sd, W, rfl, hW, q⟩ := h
    obtain ⟨dx, hob⟩ := hW.ob
    refine ⟨_, (pss_one (ps_ret (pe_callB (call_sortedD rfl) (by rfl) T.b_sorted (by decide +kernel) (pa_cons (pe_fld (pv 0) rfl) pa_nil)))), ?_⟩
    walk_at "go"
    refine ⟨p, _, dx, _, _, rfl, hob, T.c_Watch, T.na_Watch__sightings, watchF_sd _ _, ?_⟩
    walk_at "go"
    refine ⟨sd, carsK W, W.map (·.car), rfl, .inl hW.sd, (by unfold carsK; rw [List.map_map, List.map_map]; rfl), (by have := hW.l1; rw [List.length_map]; omega), fun ys L hp hs nL => ?_⟩
    exact q _ L ys (same_up nL) nL hp hs upd_same
theorem mergeK_gates : ∀ {more gs : List (Str × Bool)}, ((gs ++ more).map (·.1)).Nodup → mergeK (gatesK gs) (gatesK more) = gatesK (gs ++ more)
  | [], gs, _ => by
    rw [List.append_nil]
    rfl
  | (nm, b) :: r, gs, nd => by
    have e : seesOf gs nm = none := by
      rw [seesOf_none]
      intro m
      rw [List.map_append, List.nodup_append] at nd
      exact nd.2.2 nm m nm (by simp) rfl
    show mergeK (putK (gatesK gs) (Sum.inr nm : Key) (V.bl b)) (gatesK r) = _
    rw [putK_new_gates e, mergeK_gates (gs := gs ++ [(nm, b)]) (by rw [List.append_assoc]; exact nd), List.append_assoc]
    rfl
theorem gates_refs {H : Hp} {us : List V} {gs : List (Str × Bool)} (h : Paired (GateV H) us gs) : ∃ ps : List Addr, us = ps.map V.ref ∧ Paired (fun p (kv : Key × V) => H p = some (.tup [kV kv.1, kv.2])) ps (gatesK gs) := by
  induction h with
  | nil => exact ⟨[], rfl, .nil⟩
  | cons a _ ih =>
    obtain ⟨t, rfl, ht⟩ := a
    obtain ⟨ps, rfl, r⟩ := ih
    exact ⟨t :: ps, rfl, .cons ht r⟩
theorem isName_le {c : Str} (h : isName c.cps.toList = true) : c.length ≤ 8 := by
  unfold isName at h
  simp only [Bool.and_eq_true, decide_eq_true_eq] at h
  have := h.1.1.2
  rw [Array.length_toList] at this
  exact this
def spSaw (A : Ads) : Sp := fun vs H Q E => ∃ (p n sd g r : Addr) (N : NetD) (W : List CarE) (c gt : Str) (t : Int), vs = [.ref p, .str c, .str gt, .int t] ∧ WatchAt A.C_Watch H p n sd W ∧ NetAt A.C_Net H n g r N ∧
  c.length ≤ 1000 ∧ PyData.strOk c = true ∧ gt.length ≤ 1000 ∧ PyData.strOk gt = true ∧ (t.natAbs < 2 ^ 1900) ∧
  (isName c.cps.toList = false → ∀ H', Same H H' → E (.ref A.C_NoName) none H') ∧
  (isName c.cps.toList = true → seesOf N.gates gt = none → ∀ H', Same H H' → E (.ref A.C_NoGate) none H') ∧
  (isName c.cps.toList = true → seesOf N.gates gt = some false → ∀ H', Same H H' → E (.ref A.C_Blind) none H') ∧
  (isName c.cps.toList = true → seesOf N.gates gt = some true → ¬ (0 ≤ t ∧ t ≤ 1000000000) → ∀ H', Same H H' → E (.ref A.C_NoTime) none H') ∧
  (isName c.cps.toList = true → seesOf N.gates gt = some true → 0 ≤ t → t ≤ 1000000000 → (∀ e, carOf W c = some e → (t, gt) ∉ e.ss → e.ss.length < 900) ∧ (carOf W c = none → W.length < 60) ∧
    (carOf W c = none → ∀ (H' : Hp) (d : Addr), H d = none → WatchAt A.C_Watch H' p n sd (W ++ [⟨c, d, [(t, gt)]⟩]) → Keep [sd] H H' → Q (.bl true) H') ∧
    (∀ e, carOf W c = some e → (t, gt) ∈ e.ss → ∀ H', Same H H' → Q (.bl false) H') ∧
    (∀ e, carOf W c = some e → (t, gt) ∉ e.ss → ∀ H', WatchAt A.C_Watch H' p n sd (setSs W c (e.ss ++ [(t, gt)])) → Keep [e.d] H H' → Q (.bl true) H'))
theorem ok_W_saw (T : Txt K mg A) : DefOk P w K mg base (L2.CX P w) 2 A.W_saw ["self", "car", "gate", "time"] (spSaw A) := by
  obtain ⟨_, G_is_name, B_is_name, K_is_name⟩ := ok_is_name (P := P) (w := w) (base := base) T
  obtain ⟨_, G_N_need_gate, B_N_need_gate, K_N_need_gate⟩ := ok_N_need_gate (P := P) (w := w) (base := base) T
  obtain ⟨_, G_N_gates, B_N_gates, K_N_gates⟩ := ok_N_gates (P := P) (w := w) (base := base) T
  obtain ⟨fd, F⟩ := T.F_W_saw
  refine ⟨fd, ?_, F.binds (ps := ["self", "car", "gate", "time"]) fun _ _ _ _ _ _ us hl => match us, hl with | [_, _, _, _], _ => rfl, F.kp⟩
  refine F.okX sc_W_saw (fun vs H Q E h => ?_) (fun cdv A' outer s H vs Q E hr h => ?_)
  · obtain ⟨p, n, sd, g, r, N, W, c, gt, t, rfl, _⟩ := h
    rfl
  · obtain ⟨p, n, sd, g, r, N, W, c, gt, t, rfl, hW, hN, hl, ho, gl, go, ht, eN, eG, eB, eT, kQ⟩ := h
    have hu := hu_of hr
    refine ⟨_, (pss_cons (ps_if (pt_not (pt_val (pe_call G_is_name (hr.mono (by decide)) rfl T.m_is_name K_is_name B_is_name .nil pass0 (pa_cons (pv 1) pa_nil)))) (pss_one (ps_raise rfl (takes_of rfl rfl rfl rfl) (SkE.pmk_own1 PySem.F.excBase_ValueError T.e_NoName.x T.e_NoName.g T.e_NoName.k (raises_own T.e_NoName.b T.e_NoName.t) rfl (pe_joined (.cons (pe_fmtR (pv 1)) (.cons pe_str .nil)))))) pss_nil)
      (pss_cons (ps_expr (pe_meth (pe_fld (pv 0) rfl) T.c_Net T.M_N_need_gate G_N_need_gate (hr.mono (by decide)) B_N_need_gate .nil (passes_call (takes_of rfl rfl rfl rfl) fun _ _ _ _ h => h) (pa_cons (pv 2) pa_nil)))
      (pss_cons (ps_set (i := 4) sc_W_saw.nd rfl (by first | exact Or.inl rfl | exact Or.inr rfl) (pe_callTy (call_dictP rfl) (by rfl) T.b_dict (by decide +kernel) (pa_cons (pe_meth0 (pe_fld (pv 0) rfl) T.c_Net T.M_N_gates G_N_gates (hr.mono (by decide)) B_N_gates .nil pass0) pa_nil)))
      (pss_cons (ps_if (pt_not (pt_val (pe_dget hu (pv 4) (pv 2) (fun _ _ => rfl)))) (pss_one (ps_raise rfl (takes_of rfl rfl rfl rfl) (SkE.pmk_own1 PySem.F.excBase_ValueError T.e_Blind.x T.e_Blind.g T.e_Blind.k (raises_own T.e_Blind.b T.e_Blind.t) rfl (pe_joined (.cons pe_str (.cons (pe_fmt (pv 2)) (.cons pe_str .nil))))))) pss_nil)
      (pss_cons (ps_if (pt_not (pt_chain op_le op_le pe_int (pv 3) (pe_glob (v := .int 1000000000) rfl T.m_LAST_TIME ⟨_, rfl⟩))) (pss_one (ps_raise rfl (takes_of rfl rfl rfl rfl) (SkE.pmk_own1 PySem.F.excBase_ValueError T.e_NoTime.x T.e_NoTime.g T.e_NoTime.k (raises_own T.e_NoTime.b T.e_NoTime.t) rfl (pe_joined (.cons pe_str (.cons (pe_fmt (pe_glob (v := .int 1000000000) rfl T.m_LAST_TIME ⟨_, rfl⟩)) .nil)))))) pss_nil)
      (pss_cons (ps_set (i := 5) sc_W_saw.nd rfl (by first | exact Or.inl rfl | exact Or.inr rfl) (pe_dsetd (pe_fld (pv 0) rfl) (pv 1) pe_dnewT ⟨rfl, by rfl, by rfl, rfl⟩))
      (pss_cons (ps_if (pt_cmp (pc_din hu (pe_tup (pa_cons (pv 3) (pa_cons (pv 2) pa_nil))) (pv 5))) (pss_one (ps_ret pe_bl)) pss_nil)
      (pss_cons (ps_dput hu (pv 5) (pe_tup (pa_cons (pv 3) (pa_cons (pv 2) pa_nil))) pe_bl rfl)
      (pss_one (ps_ret pe_bl)))))))))), ?_⟩
    walk_at "go"
    refine ⟨hl, fun H1 s1 => ?_⟩
    have hW1 := hW.same s1
    have hN1 := hN.same s1
    obtain ⟨dx, hob⟩ := hW1.ob
    obtain ⟨dn, hnb⟩ := hN1.ob
    cases e : isName c.cps.toList with
    | false =>
      walk_at "go"
      refine ⟨repr_ok hl ho, ?_⟩
      walk_at "go"
      refine ⟨cat_sz2 (n := 0) (m := 20000) (by decide +kernel) (repr_sz hl ho) (by decide), ?_⟩
      walk_at "go"
      refine ⟨sz3 (by decide +kernel) (by have := repr_sz hl ho; omega) (by decide +kernel), ?_⟩
      exact eN e H1 s1
    | true =>
      walk_at "go"
      refine ⟨p, _, dx, _, _, rfl, hob, T.c_Watch, T.na_Watch_net, watchF_net _ _, n, dn, _, rfl, hnb, netF_no _ _ (by decide +kernel) (by decide +kernel), ?_⟩
      walk_at "go"
      refine ⟨n, g, r, N, gt, rfl, hN1, gl, go, fun z => eG e z H1 s1, fun b hb => ?_⟩
      walk_at "go"
      refine ⟨p, _, dx, _, _, rfl, hob, T.c_Watch, T.na_Watch_net, watchF_net _ _, n, dn, _, rfl, hnb, netF_no _ _ (by decide +kernel) (by decide +kernel), n, g, r, N, rfl, hN1, fun H2 L us s2 nL hL hP => ?_⟩
      obtain ⟨ps, rfl, hps⟩ := gates_refs hP
      walk_at "go"
      refine ⟨L, ps, gatesK N.gates, rfl, SqL.of hL, L2.Paired.mapP hps fun _ _ z => SqT.of z, fun D nD => ?_⟩
      have em : mergeK [] (gatesK N.gates) = gatesK N.gates := mergeK_gates (gs := []) hN.nd
      rw [em]
      have s3 : Same H2 (upd H2 D (.dK (gatesK N.gates))) := same_up nD
      have hD3 : (upd H2 D (.dK (gatesK N.gates))) D = some (.dK (gatesK N.gates)) := upd_same
      have s13 := (s1.trans s2).trans s3
      generalize upd H2 D (.dK (gatesK N.gates)) = H3 at s3 hD3 s13
      have hW3 := hW.same s13
      obtain ⟨dy, hoc⟩ := hW3.ob
      walk_at "go"
      refine ⟨D, V.bl b, rfl, (by have := DGet.k (k := Sum.inr gt) hD3; rw [valV_gates, hb] at this; exact this), ?_⟩
      walk_at "go"
      cases b with
      | false =>
        walk_at "go"
        refine ⟨by decide +kernel, ?_⟩
        walk_at "go"
        refine ⟨cat_sz2 (n := 1000) (m := 1000) (by decide +kernel) gl (by decide), ?_⟩
        walk_at "go"
        refine ⟨sz3 (by decide +kernel) (by omega) (by decide +kernel), ?_⟩
        exact eB e hb H3 s13
      | true =>
        walk_at "go"
        refine ite2 (fun h0 => ?_) (fun h0 => ?_)
        rotate_left
        · have h0 : ¬ 0 ≤ t := fun z => h0 (decide_eq_true z)
          refine ⟨_, rfl, ?_⟩
          walk_at "go"
          refine ⟨by decide +kernel, ?_⟩
          walk_at "go"
          refine ⟨by decide +kernel, ?_⟩
          walk_at "go"
          exact eT e hb (fun z => h0 z.1) H3 s13
        have h0 : 0 ≤ t := of_decide_eq_true h0
        walk_at "go"
        refine ite2 (fun h1 => ?_) (fun h1 => ?_)
        · have h1 : ¬ t ≤ 1000000000 := by simpa using h1
          walk_at "go"
          refine ⟨by decide +kernel, ?_⟩
          walk_at "go"
          refine ⟨by decide +kernel, ?_⟩
          walk_at "go"
          exact eT e hb (fun z => h1 z.2) H3 s13
        have h1 : t ≤ 1000000000 := by simpa using h1
        obtain ⟨l9, l6, kA, kF, kM⟩ := kQ e hb h0 h1
        walk_at "go"
        refine ⟨p, _, dy, _, _, rfl, hoc, T.c_Watch, T.na_Watch__sightings, watchF_sd _ _, ?_⟩
        walk_at "go"
        refine ⟨.inl ⟨_, .inl hW3.sd⟩, ?_⟩
        walk_at "go"
        intro d0 nd0
        have hds : sd ≠ d0 := ne_of_none hW3.sd nd0
        have s4 : Same H3 (upd H3 d0 (.dT [])) := same_up nd0
        have hd4 : (upd H3 d0 (.dT [])) d0 = some (.dT []) := upd_same
        have s14 := s13.trans s4
        have nd : H d0 = none := by
          cases z : H d0 with
          | none => rfl
          | some o => rw [s13 _ _ z] at nd0; cases nd0
        generalize upd H3 d0 (.dT []) = H4 at s4 hd4 s14
        have hW4 := hW.same s14
        refine ⟨carsK W, Sum.inr c, hW4.sd, rfl, small1000 (by have := hW.l1; unfold carsK; rw [List.length_map]; omega), fun v hv => ?_, fun hn => ?_⟩
        · rw [valV_cars] at hv
          cases ec : carOf W c with
          | none => rw [ec] at hv; cases hv
          | some x =>
            rw [ec] at hv
            obtain rfl : V.ref x.d = v := Option.some.inj hv
            obtain ⟨hm, hc⟩ := carOf_some ec
            obtain ⟨kvs, hd, hk⟩ := hW4.ds x hm
            walk_at "go"
            refine ⟨(by show 2 ≤ sizeLine; decide), fun q nq => ?_⟩
            have s5 := s14.trans (same_up (o := .tup [.int t, .str gt]) nq)
            have hq5 : (upd H4 q (.tup [.int t, .str gt])) q = some (.tup ((keyT (t, gt)).map kV)) := upd_same
            have hd5 : (upd H4 q (.tup [.int t, .str gt])) x.d = some (.dT kvs) := upd_at (ne_of_none hd nq) hd
            have hW5 := hW.same s5
            walk_at "go"
            refine ⟨x.d, _, rfl, DGet.t hd5 hq5, ?_⟩
            rw [seenK_has hk]
            walk_at "go"
            by_cases hs : (t, gt) ∈ x.ss
            · rw [decide_eq_true hs]
              refine iteT ?_
              walk_at "go"
              exact kF x ec hs _ s5
            · rw [decide_eq_false hs]
              refine iteF ?_
              walk_at "go"
              refine ⟨(by show 2 ≤ sizeLine; decide), fun q2 nq2 => ?_⟩
              have s6 := s5.trans (same_up (o := .tup [.int t, .str gt]) nq2)
              have hq6 : (upd (upd H4 q (.tup [.int t, .str gt])) q2 (.tup [.int t, .str gt])) q2 = some (.tup ((keyT (t, gt)).map kV)) := upd_same
              have hd6 : (upd (upd H4 q (.tup [.int t, .str gt])) q2 (.tup [.int t, .str gt])) x.d = some (.dT kvs) := upd_at (ne_of_none hd5 nq2) hd5
              generalize upd (upd H4 q (.tup [.int t, .str gt])) q2 (.tup [.int t, .str gt]) = H6 at s6 hq6 hd6
              walk_at "go"
              have lx := l9 x ec hs
              refine ⟨x.d, _, rfl, DPut.t hd6 hq6 (small1000 (by rw [seenK_len hk]; omega)), ?_⟩
              walk_at "go"
              have k6 : Keep [x.d] H (upd H6 x.d (.dT (putK kvs (keyT (t, gt)) (.bl true)))) := (Keep.of_same s6).upd (.inl (by simp))
              exact kM x ec hs _ (hW.more ec hs lx k6 ⟨_, upd_same, seenK_put hk hs _⟩) k6
        · rw [valV_cars] at hn
          have ec : carOf W c = none := by
            cases z : carOf W c with
            | none => rfl
            | some x => rw [z] at hn; cases hn
          rw [carsK_snoc (d := d0) (ss := [(t, gt)]) ec]
          have k5 : Keep [sd] H (upd H4 sd (.dK (carsK (W ++ [⟨c, d0, [(t, gt)]⟩])))) := (Keep.of_same s14).upd (.inl (by simp))
          have hd5 : (upd H4 sd (.dK (carsK (W ++ [⟨c, d0, [(t, gt)]⟩])))) d0 = some (.dT []) := by rw [upd_ne hds.symm]; exact hd4
          have hs5 : (upd H4 sd (.dK (carsK (W ++ [⟨c, d0, [(t, gt)]⟩])))) sd = some (.dK (carsK (W ++ [⟨c, d0, [(t, gt)]⟩]))) := upd_same
          generalize upd H4 sd (.dK (carsK (W ++ [⟨c, d0, [(t, gt)]⟩]))) = H5 at k5 hd5 hs5
          walk_at "go"
          refine ⟨(by show 2 ≤ sizeLine; decide), fun q nq => ?_⟩
          have k6 : Keep [sd] H (upd H5 q (.tup [.int t, .str gt])) := k5.trans (Keep.of_same (same_up nq))
          have hq6 : (upd H5 q (.tup [.int t, .str gt])) q = some (.tup ((keyT (t, gt)).map kV)) := upd_same
          have hd6 : (upd H5 q (.tup [.int t, .str gt])) d0 = some (.dT []) := upd_at (ne_of_none hd5 nq) hd5
          have hs6 : (upd H5 q (.tup [.int t, .str gt])) sd = _ := upd_at (ne_of_none hs5 nq) hs5
          generalize upd H5 q (.tup [.int t, .str gt]) = H6 at k6 hq6 hd6 hs6
          walk_at "go"
          refine ⟨d0, _, rfl, DGet.t hd6 hq6, ?_⟩
          walk_at "go"
          refine ⟨(by show 2 ≤ sizeLine; decide), fun q2 nq2 => ?_⟩
          have k7 : Keep [sd] H (upd H6 q2 (.tup [.int t, .str gt])) := k6.trans (Keep.of_same (same_up nq2))
          have hq7 : (upd H6 q2 (.tup [.int t, .str gt])) q2 = some (.tup ((keyT (t, gt)).map kV)) := upd_same
          have hd7 : (upd H6 q2 (.tup [.int t, .str gt])) d0 = some (.dT []) := upd_at (ne_of_none hd6 nq2) hd6
          have hs7 : (upd H6 q2 (.tup [.int t, .str gt])) sd = _ := upd_at (ne_of_none hs6 nq2) hs6
          generalize upd H6 q2 (.tup [.int t, .str gt]) = H7 at k7 hq7 hd7 hs7
          walk_at "go"
          refine ⟨d0, _, rfl, DPut.t hd7 hq7 (by decide), ?_⟩
          walk_at "go"
          have k8 : Keep [sd] H (upd H7 d0 (.dT (putK [] (keyT (t, gt)) (.bl true)))) := k7.upd (.inr nd)
          exact kA ec _ d0 nd (hW.add ec ⟨isName_le e, ho⟩ (l6 ec) k8 (by rw [upd_ne hds]; exact hs7) ⟨_, upd_same, seenK_put (kvs := []) (ss := []) rfl (by simp) _⟩ nd) k8
def spForget (A : Ads) : Sp := fun vs H Q E => ∃ (p n sd : Addr) (W : List CarE) (c : Str), vs = [.ref p, .str c] ∧ WatchAt A.C_Watch H p n sd W ∧ c.length ≤ 1000 ∧ PyData.strOk c = true ∧ (carOf W c = none → E (.ref A.C_NoCar) none H) ∧ (∀ e, carOf W c = some e → ∀ H', WatchAt A.C_Watch H' p n sd (W.filter fun e => decide (e.car ≠ c)) → Keep [sd] H H' → Q .non H')
theorem ok_W_forget (T : Txt K mg A) : DefOk P w K mg base (L2.CX P w) 2 A.W_forget ["self", "car"] (spForget A) := by
  obtain ⟨_, G_W__need_car, B_W__need_car, K_W__need_car⟩ := ok_W__need_car (P := P) (w := w) (base := base) T
  obtain ⟨fd, F⟩ := T.F_W_forget
  refine ⟨fd, ?_, F.binds (ps := ["self", "car"]) fun _ _ _ _ _ _ us hl => match us, hl with | [_, _], _ => rfl, F.kp⟩
  refine F.okX sc_W_forget (fun vs H Q E h => ?_) (fun cdv A' outer s H vs Q E hr h => ?_)
  · obtain ⟨p, n, sd, W, c, rfl, _⟩ := h
    rfl
  · obtain ⟨p, n, sd, W, c, rfl, hW, hl, ho, kE, kQ⟩ := h
    obtain ⟨dx, hob⟩ := hW.ob
    refine ⟨_, (pss_cons (ps_expr (pe_meth (pv 0) T.c_Watch T.M_W__need_car G_W__need_car (hr.mono (by decide)) B_W__need_car .nil (passes_call (takes_of rfl rfl rfl rfl) fun _ _ _ _ h => h) (pa_cons (pv 1) pa_nil)))
      (pss_one (ps_ddel (pe_fld (pv 0) rfl) (pv 1)))), ?_⟩
    walk_at "go"
    refine ⟨p, dx, _, rfl, hob, watchF_no _ _ (by decide +kernel) (by decide +kernel), ?_⟩
    walk_at "go"
    refine ⟨p, n, sd, W, c, rfl, hW, hl, ho, kE, fun e he => ?_⟩
    walk_at "go"
    refine ⟨p, _, dx, _, _, rfl, hob, T.c_Watch, T.na_Watch__sightings, watchF_sd _ _, ?_⟩
    walk_at "go"
    refine ⟨sd, carsK W, Sum.inr c, rfl, hW.sd, rfl, (by rw [valV_cars, he]; rfl), ?_⟩
    exact kQ e he _ (hW.drop c) keep1
end
end Toll

set_option Elab.async false
set_option linter.all false
set_option maxRecDepth 100000
set_option maxHeartbeats 4000000
namespace Toll
open PySem L2
local macro_rules | `(tactic| walk_at "go1") => `(tactic| first
  | refine ⟨_, rfl, ?_⟩
  | refine ⟨rfl, ?_⟩
  | refine ⟨_, _, rfl, rfl, ?_⟩
  | refine ⟨_, _, rfl, ?_⟩
  | (with_reducible refine' ⟨log_small ?k1 ?k2, ?_⟩; (case k1 => omega); (case k2 => omega))
  | (refine' ⟨?k1, ?_⟩; (case k1 => ((with_reducible show (_ : Int) < _); omega)))
  | (refine' ⟨⟨?k1, ?k2⟩, ?_⟩; (case k1 => omega); (case k2 => omega))
  | (refine' ⟨⟨?k1, ?k2, ?k3, ?k4⟩, ?_⟩; (case k1 => omega); (case k2 => omega); (case k3 => omega); (case k4 => omega))
  | (refine' ⟨.inl ⟨?k1, ?k2⟩, ?_⟩; (case k1 => omega); (case k2 => omega))
  | (refine' ⟨.inr ⟨?k1, ?k2⟩, ?_⟩; (case k1 => omega); (case k2 => omega))
  | (refine' ⟨Evl.sz_of ?k1, ?_⟩; (case k1 => omega))
  | (refine' ⟨?k1, ?_⟩; (case k1 => ((with_reducible show (_ : Int) ≤ _); omega)))
  | refine ⟨⟨_, rfl⟩, ?_⟩
  | refine .inl ⟨_, rfl, ?_⟩ | refine .inr ⟨_, rfl, ?_⟩
  | refine iteT ?_ | refine iteF ?_)
local macro_rules | `(tactic| walk_at "go") => `(tactic| repeat (walk_at "go1"))
local macro_rules | `(tactic| walk_at "ans") => `(tactic| (intro Q' q'; walk_at "go"; (try rw [dec_int]); (try rw [dec_str]); exact q'))
local macro_rules | `(tactic| walk_at "hp") => `(tactic| first | assumption | exact upd_same | (refine' up_same ?e ?h; (case e => assumption); (case h => walk_at "hp")) | (refine' upd_at ?n ?h; (case n => walk_at "ne"); (case h => walk_at "hp")))
local macro_rules | `(tactic| walk_at "ne") => `(tactic| first | assumption | (apply Ne.symm; assumption))
local macro_rules | `(tactic| walk_at "at") => `(tactic| first | exact atI_nat (j := 0) rfl | exact atI_nat (j := 1) rfl | exact atI_nat (j := 2) rfl | exact atI_nat (j := 3) rfl | exact atI_nat (j := 4) rfl)
local macro_rules | `(tactic| walk_at "step1") => `(tactic| first
  | walk_at "go1"
  | (apply ixL_step; (case h => walk_at "hp"); (case a => walk_at "at"))
  | (apply ixT_step; (case h => walk_at "hp"); (case a => walk_at "at"))
  | (apply lenL_step; (case h => walk_at "hp")))
local macro_rules | `(tactic| walk_at "step") => `(tactic| repeat (walk_at "step1"))
section
variable {P : Program} {w : World} {K : PySem.W.Frag} {mg : Str → Option Value} {base : Heap} {A : Ads}
def oT : Option Int → V
  | none => .non
  | some c => .int c
def spCosts (A : Ads) : Sp := fun vs H Q _ => ∃ (Ll Sd : Addr) (rts : List Addr) (N : NetD) (sk : List (Key × V)) (one : Str) (most : Nat) (u : Int), vs = [.ref Ll, .ref Sd, .str one, .int (most : Int), .int u] ∧ H Ll = some (.lst (rts.map V.ref)) ∧ RL H rts N.roads ∧ H Sd = some (.dK sk) ∧ (∀ nm, valV sk (Sum.inr nm) = (seesOf N.gates nm).map V.bl) ∧ NetOk N ∧ N.roads.length ≤ 190 ∧ most ≤ 24 ∧ 1 ≤ u ∧ u ≤ 100000 ∧ (∀ r ∈ N.roads, LineOk N.gates u r) ∧
  ∀ (H' : Hp) (L : Addr) (ds : List Addr), Same H H' → H L = none → H' L = some (.lst (ds.map V.ref)) → ds.length = most + 1 → (∀ m d, ds[m]? = some d → ∃ fk, H' d = some (.dK fk) ∧ CostAt N one u m fk) → Q (.ref L) H'
theorem ok_l_costs (T : Txt K mg A) : DefOk P w K mg base CX0 3 A.l_costs ["_law_lines_here", "_law_sees", "_law_one", "_law_most", "_law_unit_here"] (spCosts A) := by
  obtain ⟨fd, F⟩ := T.F_l_costs
  refine ⟨fd, ?_, F.binds (ps := ["_law_lines_here", "_law_sees", "_law_one", "_law_most", "_law_unit_here"]) fun _ _ _ _ _ _ us hl => match us, hl with | [_, _, _, _, _], _ => rfl, F.kp⟩
  refine F.ok sc_l_costs (fun vs H Q E h => ?_) (fun cdv A' outer s H vs Q E hr h => ?_)
  · obtain ⟨Ll, Sd, rts, N, sk, one, most, u, rfl, _⟩ := h
    rfl
  · obtain ⟨Ll, Sd, rts, N, sk, one, most, u, rfl, hLl, hR, hSd, hsk, hOk, hr190, m24, hu1, hu2, hok, q⟩ := h
    have rl := paired_len hR
    have hu := hu_of hr
    refine ⟨_, (pss_cons (ps_setLc (i := 5) (own := [("_law_m", 6)]) rfl sc_l_costs.nd rfl rfl (sw_true rfl rfl rfl (by decide +kernel)) (pi_range1 (by rfl) T.b_range (pa_cons (pe_op op_add (pv 3) pe_int) pa_nil)) (blkOk_by (own := [("_law_m", 6)]) (N := n_l_costs) (sc := defScope s_l_costs) (by decide +kernel)) (fun _ _ _ _ _ => (pg_name (i := 6) sc_l_costs.nd rfl (by first | exact Or.inl rfl | exact Or.inr rfl))) (fun _ _ _ _ _ => pts_nil) (fun _ _ _ _ _ => pe_dnewK))
      (pss_cons (ps_for PassesOwn.never rfl (pi_range1 (by rfl) T.b_range (pa_cons (pe_op op_add (pv 3) pe_int) pa_nil)) (pg_name (i := 6) sc_l_costs.nd rfl (by first | exact Or.inl rfl | exact Or.inr rfl)) (pss_one (ps_for PassesOwn.never rfl (pi_list (pv 0)) (pg_name (i := 7) sc_l_costs.nd rfl (by first | exact Or.inl rfl | exact Or.inr rfl)) (pss_cons (ps_set (i := 8) sc_l_costs.nd rfl (by first | exact Or.inl rfl | exact Or.inr rfl) (pe_op op_sub (pv 6) (pe_op op_fdiv (pe_ix (r := rIxL K) ix_list (pv 7) pe_int (fun _ _ => rfl)) (pv 4))))
      (pss_one (ps_if (PW.pt (pw_and (pt_val (pe_ix (r := rIxL K) ix_list (pv 7) pe_int (fun _ _ => rfl))) (pw_and1 (pt_cmpR op_ge (pv 8) pe_int (nomark _))))) (pss_cons (ps_set (i := 9) sc_l_costs.nd rfl (by first | exact Or.inl rfl | exact Or.inr rfl) pe_non)
      (C8.pss_cut (ps_if (PW.pt (pw_and (pt_cmpR op_eq (pv 8) pe_int (nomark _)) (pw_and1 (pt_cmpR op_eq (pe_ix (r := rIxL K) ix_list (pv 7) pe_int (fun _ _ => rfl)) (pv 2) (nomark _))))) (pss_one (ps_set (i := 9) sc_l_costs.nd rfl (by first | exact Or.inl rfl | exact Or.inr rfl) (pe_ix (r := rIxL K) ix_list (pv 7) pe_int (fun _ _ => rfl)))) pss_nil)
      (C8.pss_cut (ps_if (PW.pt (pw_and (pt_cmp (pc_din hu (pe_ix (r := rIxL K) ix_list (pv 7) pe_int (fun _ _ => rfl)) (pe_ix (r := rIxL K) ix_list (pv 5) (pv 8) (fun _ _ => rfl)))) (pw_and1 (pt_not (pt_val (pe_dget hu (pv 1) (pe_ix (r := rIxL K) ix_list (pv 7) pe_int (fun _ _ => rfl)) (fun _ _ => rfl))))))) (pss_cons (ps_set (i := 10) sc_l_costs.nd rfl (by first | exact Or.inl rfl | exact Or.inr rfl) (pe_op op_add (pe_dget hu (pe_ix (r := rIxL K) ix_list (pv 5) (pv 8) (fun _ _ => rfl)) (pe_ix (r := rIxL K) ix_list (pv 7) pe_int (fun _ _ => rfl)) (fun _ _ => rfl)) (pe_ix (r := rIxL K) ix_list (pv 7) pe_int (fun _ _ => rfl))))
      (pss_one (ps_if (PW.pt (pw_or (pt_cmpR op_isN (pv 9) pe_non (nomark _)) (pw_or1 (pt_cmpR op_lt (pv 10) (pv 9) (nomark _))))) (pss_one (ps_set (i := 9) sc_l_costs.nd rfl (by first | exact Or.inl rfl | exact Or.inr rfl) (pv 10))) pss_nil))) pss_nil)
      (pss_one (ps_if (PW.pt (pw_and (pt_cmpR op_notN (pv 9) pe_non (nomark _)) (pw_and1 (pt_cmpR op_lt (pv 9) (pe_dget2 hu (pe_ix (r := rIxL K) ix_list (pv 5) (pv 6) (fun _ _ => rfl)) (pe_ix (r := rIxL K) ix_list (pv 7) pe_int (fun _ _ => rfl)) (pe_op op_add (pv 9) pe_int) ⟨rfl, by rfl, by rfl, rfl⟩) (nomark _))))) (pss_one (ps_dput hu (pe_ix (r := rIxL K) ix_list (pv 5) (pv 6) (fun _ _ => rfl)) (pe_ix (r := rIxL K) ix_list (pv 7) pe_int (fun _ _ => rfl)) (pv 9) rfl)) pss_nil))))) pss_nil))))))
      (pss_one (ps_ret (pv 5))))), ?_⟩
    walk_at "go"
    intro Lc nLc
    refine lc_range (lo := 0) (n := _) (fun i H' => Same H H' ∧ ∃ ds : List Addr, H' Lc = some (.lst (ds.map V.ref)) ∧ (∀ d ∈ ds, H d = none ∧ H' d = some (.dK [])) ∧ ds.Nodup ∧ ds.length = i)
      ⟨same_up nLc, [], upd_same, (fun d hd => by cases hd), List.nodup_nil, rfl⟩ ?_ ?_
    · rintro i H1 hi ⟨sH, ds, hL1, hf, hnd, hlen⟩
      refine ⟨rfl, ?_⟩
      walk_at "go"
      intro D nD
      have s1 := same_up (o := HO.dK []) nD
      have hL2 := s1 _ _ hL1
      have nL : H D = none := sH.free nD
      refine ⟨_, hL2, Evl.sz_lt (by rw [List.length_map]; omega), same_new (sH.trans s1) nLc, ds ++ [D], by rw [upd_same, List.map_append]; rfl, fun d hd => ?_, ?_, by rw [List.length_append, hlen]; rfl⟩
      · have hLd : ∀ d, H1 d = some (.dK []) ∨ d = D → d ≠ Lc := fun d h z => by
          rw [z] at h
          rcases h with h | h
          · rw [hL1] at h
            cases h
          · rw [← h, hL1] at nD
            cases nD
        rcases List.mem_append.mp hd with h | h
        · have h' := hf d h
          refine ⟨h'.1, ?_⟩
          rw [upd_ne (hLd d (.inl h'.2))]
          exact s1 _ _ h'.2
        · rw [List.mem_singleton] at h
          subst h
          refine ⟨nL, ?_⟩
          rw [upd_ne (hLd d (.inr rfl)), upd_same]
      · rw [List.nodup_append]
        exact ⟨hnd, by simp, fun x hx y hy e => by rw [List.mem_singleton] at hy; rw [e, hy] at hx; rw [(hf D hx).2] at nD; cases nD⟩
    · rintro H1 ⟨sH, ds, hL1, hf, hnd, hlen⟩
      walk_at "go"
      have hlen : ds.length = most + 1 := by omega
      refine for_range (lo := 0) (n := _) (fun m σ' H' => Same H H' ∧ H' Lc = some (.lst (ds.map V.ref)) ∧ (∀ j d, ds[j]? = some d → ∃ fk, H' d = some (.dK fk) ∧ (j < m → CostAt N one u j fk) ∧ (m ≤ j → fk = [])) ∧ ∃ v6 v7 v8 v9 v10, σ' = [some (.ref Ll), some (.ref Sd), some (.str one), some (.int (most : Int)), some (.int u), some (.ref Lc), v6, v7, v8, v9, v10])
        ⟨sH, hL1, fun j d hj => ⟨[], (hf d (List.mem_of_getElem? hj)).2, fun z => by omega, fun _ => rfl⟩, _, _, _, _, _, rfl⟩ ?_ ?_
      · rintro m σ' H2 hm ⟨s2, hL2, hds, v6, v7, v8, v9, v10, rfl⟩
        have hm : m < most + 1 := by omega
        walk_at "go"
        rw [Int.zero_add]
        obtain ⟨d, hd⟩ : ∃ d, ds[m]? = some d := ⟨_, List.getElem?_eq_getElem (by omega)⟩
        refine ⟨⟨_, SqL.of (s2 _ _ hLl)⟩, for_list (K := K) (a := Ll) (xs := rts.map V.ref) (fun i σ' H' => Same H H' ∧ H' Lc = some (.lst (ds.map V.ref)) ∧ (∃ fk, H' d = some (.dK fk) ∧ PartAt N one u m i fk ∧ fk.length ≤ i) ∧ (∀ j d, ds[j]? = some d → j ≠ m → ∃ fk, H' d = some (.dK fk) ∧ (j < m → CostAt N one u j fk) ∧ (m < j → fk = [])) ∧ ∃ v7 v8 v9 v10, σ' = [some (.ref Ll), some (.ref Sd), some (.str one), some (.int (most : Int)), some (.int u), some (.ref Lc), some (.int (m : Int)), v7, v8, v9, v10])
          ⟨s2, hL2, ?_, fun j e hj hjm => ?_, _, _, _, _, rfl⟩ (fun i σ' H' _ ⟨s, _⟩ => SqL.of (s _ _ hLl)) ?_ ?_⟩
        · obtain ⟨fk, h1, _, h3⟩ := hds m d hd
          have := h3 (Nat.le_refl _)
          subst this
          exact ⟨[], h1, part0 N one u m, Nat.le_refl _⟩
        · obtain ⟨fk, h1, h2, h3⟩ := hds j e hj
          exact ⟨fk, h1, h2, fun z => h3 (by omega)⟩
        · rintro i x σ' H3 hi ⟨s3, hL3, ⟨fk, hfk, hpt, hfl⟩, hds3, v7, v8, v9, v10, rfl⟩
          obtain ⟨tr, htr, rfl⟩ := map_ref_get hi
          obtain ⟨rd, hrd, hrl⟩ := paired_getL hR htr
          have il : i < N.roads.length := (List.getElem?_eq_some_iff.mp hrd).1
          have hrl3 := s3 _ _ hrl
          have hrl3 : H3 tr = some (.lst [.str rd.one, .str rd.other, .int rd.mi, .int rd.tl, .bl rd.op]) := hrl3
          have lo := hok rd (List.mem_of_getElem? hrd)
          obtain ⟨j, j1, j2, ej⟩ := lo.mi
          obtain ⟨j, rfl⟩ : ∃ k : Nat, j = (k : Int) := ⟨j.toNat, by omega⟩
          have ediv : rd.mi / u = (j : Int) := by rw [ej]; exact Int.mul_ediv_cancel_left _ (by omega)
          walk_at "step"
          cases hop : rd.op with
          | false =>
            refine ite2 (fun z => (by cases z)) (fun _ => ?_)
            refine ite2 (fun z => (by cases z)) (fun _ => ?_)
            exact ⟨s3, hL3, ⟨fk, hfk, part_skip hpt (fun w t => line_far hOk hu1 hrd (j := j) (.inl hop) w t), by omega⟩, hds3, _, _, _, _, rfl⟩
          | true =>
            refine ite2 (fun _ => ?_) (fun z => absurd rfl z)
            walk_at "go"
            refine ite2 (fun hle => ?_) (fun hle => ?_)
            rotate_left
            · have hle : ¬ 0 ≤ (m : Int) - rd.mi / u := fun z => hle (decide_eq_true z)
              exact ⟨s3, hL3, ⟨fk, hfk, part_skip hpt (fun w t => line_far hOk hu1 hrd (j := j) (.inr ⟨ej, by omega⟩) w t), by omega⟩, hds3, _, _, _, _, rfl⟩
            have hle : 0 ≤ (m : Int) - rd.mi / u := of_decide_eq_true hle
            have hjm : j ≤ m := by omega
            have eah : (m : Int) - rd.mi / u = ((m - j : Nat) : Int) := by omega
            obtain ⟨da, hda⟩ : ∃ d, ds[m - j]? = some d := ⟨_, List.getElem?_eq_getElem (by omega)⟩
            obtain ⟨fa, hfa, hca, _⟩ := hds3 (m - j) da hda (by omega)
            obtain ⟨o, eo, bo⟩ := hca (by omega) rd.one
            have ln := line_tolls hu1 hrd hop ej hjm bo
            dsimp only [List.set]
            rw [eah]
            walk_at "go"
            generalize hx1 : (if m - j = 0 ∧ rd.one = one then some rd.tl else none) = x1 at ln
            generalize hx2 : (if seesOf N.gates rd.one = some false then o.map (· + rd.tl) else none) = x2 at ln
            have z0 : decide (((m - j : Nat) : Int) = 0) = decide (m - j = 0) := decide_eq_decide.mpr (by omega)
            refine ⟨fun σ' H' => H3 = H' ∧ σ' = [some (.ref Ll), some (.ref Sd), some (.str one), some (.int (most : Int)), some (.int u), some (.ref Lc), some (.int (m : Int)), some (.ref tr), some (.int ((m - j : Nat) : Int)), some (oT x1), v10], ?_, ?_⟩
            · dsimp only [gName, List.set]
              refine do_if1 (decide (m - j = 0) && decide (rd.one = one)) (an_and (fun Q' q' => ?_) (fun _ => fun Q' q' => ?_)) (fun hb => ?_) (fun hb => ?_)
              · walk_at "step"
                rw [dec_int, z0]
                exact q'
              · walk_at "step"
                rw [dec_str]
                exact q'
              · have hb : m - j = 0 ∧ rd.one = one := by simpa using hb
                rw [if_pos hb] at hx1
                subst hx1
                walk_at "step"
                exact rfl
              · have hb : ¬ (m - j = 0 ∧ rd.one = one) := fun z => by simp [z.1, z.2] at hb
                rw [if_neg hb] at hx1
                subst hx1
                exact ⟨rfl, rfl⟩
            rintro σ' H' ⟨rfl, rfl⟩
            refine ⟨fun σ' H' => H3 = H' ∧ ∃ v10, σ' = [some (.ref Ll), some (.ref Sd), some (.str one), some (.int (most : Int)), some (.int u), some (.ref Lc), some (.int (m : Int)), some (.ref tr), some (.int ((m - j : Nat) : Int)), some (oT (minO x1 x2)), v10], ?_, ?_⟩
            · dsimp only [gName, List.set]
              have hda1 : atI (ds.map V.ref) ((m - j : Nat) : Int) = some (.ref da) := atI_nat (j := m - j) (by rw [List.getElem?_map, hda]; rfl)
              obtain ⟨c, hc⟩ : ∃ c, seesOf N.gates rd.one = some c := by
                cases e : seesOf N.gates rd.one with
                | none => exact absurd e (hOk.o1 rd (List.mem_of_getElem? hrd))
                | some c => exact ⟨c, rfl⟩
              have hSd3 := s3 _ _ hSd
              have hkc := hsk rd.one
              rw [hc] at hkc hx2
              refine do_if1 (o.isSome && !c) (an_and (fun Q' q' => ?_) (fun _ => fun Q' q' => ?_)) (fun hb => ?_) (fun hb => ?_)
              · walk_at "step"
                refine ⟨Lc, _, _, _, rfl, rfl, SqL.of hL3, hda1, ?_⟩
                walk_at "step"
                refine ⟨da, _, rfl, DGet.k (k := Sum.inr rd.one) hfa, ?_⟩
                rw [eo]
                refine ⟨_, rfl, ?_⟩
                rw [Option.isSome_map]
                exact q'
              · walk_at "step"
                refine ⟨Sd, _, rfl, (by have := DGet.k (k := Sum.inr rd.one) hSd3; rw [hkc] at this; exact this), ?_⟩
                exact ⟨_, rfl, q'⟩
              · have hb2 : o.isSome = true ∧ c = false := by simpa using hb
                clear hb
                obtain ⟨hb2, rfl⟩ := hb2
                obtain ⟨cv, rfl⟩ : ∃ cv, o = some cv := ⟨_, Option.eq_some_of_isSome hb2⟩
                rw [if_pos rfl] at hx2
                subst hx2
                walk_at "step"
                refine ⟨Lc, _, _, _, rfl, rfl, SqL.of hL3, hda1, ?_⟩
                walk_at "step"
                refine ⟨da, _, rfl, (by have := DGet.k (k := Sum.inr rd.one) hfa; rw [eo] at this; exact this), ?_⟩
                walk_at "step"
                cases x1 with
                | none =>
                  refine ite2 (fun _ => ?_) (fun z => absurd (decide_eq_true rfl) z)
                  refine ite2 (fun _ => ?_) (fun z => absurd rfl z)
                  walk_at "step"
                  exact ⟨_, rfl⟩
                | some a =>
                  refine ite2 (fun z => (by have z := of_decide_eq_true z; cases z)) (fun _ => ?_)
                  walk_at "step"
                  show (if decide (cv + rd.tl < a) = true then _ else _)
                  refine ite2 (fun hlt => ?_) (fun hlt => ?_)
                  · have hlt : cv + rd.tl < a := of_decide_eq_true hlt
                    walk_at "step"
                    refine ⟨some (.int (cv + rd.tl)), ?_⟩
                    show _ = [_, _, _, _, _, _, _, _, _, some (V.int (if cv + rd.tl < a then cv + rd.tl else a)), _]
                    rw [if_pos hlt]
                    rfl
                  · have hlt : ¬ cv + rd.tl < a := fun z => hlt (decide_eq_true z)
                    refine ⟨rfl, some (.int (cv + rd.tl)), ?_⟩
                    show _ = [_, _, _, _, _, _, _, _, _, some (V.int (if cv + rd.tl < a then cv + rd.tl else a)), _]
                    rw [if_neg hlt]
                    rfl
              · have hx : x2 = none := by
                  rw [← hx2]
                  by_cases hcf : c = false
                  · subst hcf
                    rw [if_pos rfl]
                    cases o with
                    | none => rfl
                    | some cv => simp at hb
                  · rw [if_neg (by intro z; injection z with z; exact hcf z)]
                subst hx
                refine ⟨rfl, v10, ?_⟩
                cases x1 <;> rfl
            rintro σ' H' ⟨rfl, v10, rfl⟩
            generalize minO x1 x2 = y at ln
            obtain ⟨x, ex, p1, p2, p3⟩ := part_line hpt hrd ln
            have hdm1 : atI (ds.map V.ref) (m : Int) = some (.ref d) := atI_nat (j := m) (by rw [List.getElem?_map, hd]; rfl)
            cases y with
            | none =>
              refine do_if1 (false && false) (an_and (fun Q' q' => ⟨_, rfl, rfl, _, rfl, q'⟩) (fun z => by cases z)) (fun z => by cases z) (fun _ => ?_)
              exact ⟨s3, hL3, ⟨fk, hfk, p3 rfl, by omega⟩, hds3, _, _, _, _, rfl⟩
            | some c =>
              refine do_if1 (true && decide (c < (x.getD (c + 1)))) (an_and (fun Q' q' => ⟨_, rfl, rfl, _, rfl, q'⟩) (fun _ => fun Q' q' => ?_)) (fun hb => ?_) (fun hb => ?_)
              · walk_at "step"
                refine ⟨Lc, _, _, _, rfl, rfl, SqL.of hL3, hdm1, ?_⟩
                walk_at "step"
                refine ⟨.inl ⟨_, .inl hfk⟩, ?_⟩
                walk_at "step"
                refine ⟨_, DGet.k (k := Sum.inr rd.other) hfk, ?_⟩
                rw [ex]
                cases x with
                | none =>
                  walk_at "step"
                  exact q'
                | some a =>
                  walk_at "step"
                  exact q'
              · have hb : c < x.getD (c + 1) := by simpa using hb
                have pp := p1 c rfl (fun a ea => by rw [ea] at hb; exact hb)
                walk_at "step"
                refine ⟨Lc, _, _, _, rfl, rfl, SqL.of hL3, hdm1, ?_⟩
                walk_at "step"
                refine ⟨d, _, rfl, DPut.k (k := Sum.inr rd.other) hfk (Evl.sz_lt (by omega)), ?_⟩
                have hdf := (hf d (List.mem_of_getElem? hd)).1
                have hLd : Lc ≠ d := ne_of hL3 hfk (by intro z; cases z)
                refine ⟨same_new s3 hdf, upd_at hLd hL3, ⟨_, upd_same, pp, by have := putK_le fk (Sum.inr rd.other) (oT (some c)); omega⟩, fun jj e hj hjm => ?_, _, _, _, _, rfl⟩
                obtain ⟨fk2, h1, h2, h3⟩ := hds3 jj e hj hjm
                have hed : e ≠ d := fun z => by
                  subst z
                  have l1 := (List.getElem?_eq_some_iff.mp hj)
                  have l2 := (List.getElem?_eq_some_iff.mp hd)
                  obtain ⟨l1, e1⟩ := l1
                  obtain ⟨l2, e2⟩ := l2
                  exact hjm ((List.getElem_inj (h₀ := l1) (h₁ := l2) hnd).mp (by rw [e1, e2]))
                exact ⟨fk2, upd_at hed h1, h2, h3⟩
              · have hb : ¬ c < x.getD (c + 1) := by simpa using hb
                cases x with
                | none =>
                  have : c < c + 1 := by omega
                  exact absurd this hb
                | some a => exact ⟨s3, hL3, ⟨fk, hfk, p2 c rfl a rfl hb, by omega⟩, hds3, _, _, _, _, rfl⟩
        · rintro σ' H3 ⟨s3, hL3, ⟨fk, hfk, hpt, hfl⟩, hds3, v7, v8, v9, v10, rfl⟩
          rw [List.length_map, rl] at hpt
          refine ⟨s3, hL3, fun j e hj => ?_, _, _, _, _, _, rfl⟩
          by_cases hjm : j = m
          · subst hjm
            rw [hd] at hj
            cases hj
            exact ⟨fk, hfk, fun _ => part_all hpt, fun z => by omega⟩
          · obtain ⟨fk2, h1, h2, h3⟩ := hds3 j e hj hjm
            exact ⟨fk2, h1, fun z => h2 (by omega), fun z => h3 (by omega)⟩
      · rintro σ' H2 ⟨s2, hL2, hds, v6, v7, v8, v9, v10, rfl⟩
        walk_at "go"
        refine q H2 Lc ds s2 nLc hL2 hlen fun m d hd => ?_
        obtain ⟨fk, h1, h2, _⟩ := hds m d hd
        have := (List.getElem?_eq_some_iff.mp hd).1
        exact ⟨fk, h1, h2 (by omega)⟩
end
end Toll

set_option Elab.async false
set_option linter.all false
set_option maxRecDepth 100000
set_option maxHeartbeats 4000000
namespace Toll
open PySem L2
local macro_rules | `(tactic| walk_at "go1") => `(tactic| first
  | refine ⟨_, rfl, ?_⟩
  | refine ⟨rfl, ?_⟩
  | refine ⟨_, _, rfl, rfl, ?_⟩
  | refine ⟨_, _, rfl, ?_⟩
  | (with_reducible refine' ⟨log_small ?k1 ?k2, ?_⟩; (case k1 => omega); (case k2 => omega))
  | (refine' ⟨?k1, ?_⟩; (case k1 => ((with_reducible show (_ : Int) < _); omega)))
  | (refine' ⟨⟨?k1, ?k2⟩, ?_⟩; (case k1 => omega); (case k2 => omega))
  | (refine' ⟨⟨?k1, ?k2, ?k3, ?k4⟩, ?_⟩; (case k1 => omega); (case k2 => omega); (case k3 => omega); (case k4 => omega))
  | (refine' ⟨.inl ⟨?k1, ?k2⟩, ?_⟩; (case k1 => omega); (case k2 => omega))
  | (refine' ⟨.inr ⟨?k1, ?k2⟩, ?_⟩; (case k1 => omega); (case k2 => omega))
  | (refine' ⟨Evl.sz_of ?k1, ?_⟩; (case k1 => omega))
  | (refine' ⟨?k1, ?_⟩; (case k1 => ((with_reducible show (_ : Int) ≤ _); omega)))
  | refine ⟨⟨_, rfl⟩, ?_⟩
  | refine .inl ⟨_, rfl, ?_⟩ | refine .inr ⟨_, rfl, ?_⟩
  | refine iteT ?_ | refine iteF ?_)
local macro_rules | `(tactic| walk_at "go") => `(tactic| repeat (walk_at "go1"))
local macro_rules | `(tactic| walk_at "ans") => `(tactic| (intro Q' q'; walk_at "go"; (try rw [dec_int]); (try rw [dec_str]); exact q'))
local macro_rules | `(tactic| walk_at "hp") => `(tactic| first | assumption | exact upd_same | (refine' up_same ?e ?h; (case e => assumption); (case h => walk_at "hp")) | (refine' upd_at ?n ?h; (case n => walk_at "ne"); (case h => walk_at "hp")))
local macro_rules | `(tactic| walk_at "ne") => `(tactic| first | assumption | (apply Ne.symm; assumption))
local macro_rules | `(tactic| walk_at "at") => `(tactic| first | exact atI_nat (j := 0) rfl | exact atI_nat (j := 1) rfl | exact atI_nat (j := 2) rfl | exact atI_nat (j := 3) rfl | exact atI_nat (j := 4) rfl)
local macro_rules | `(tactic| walk_at "step1") => `(tactic| first
  | walk_at "go1"
  | (apply ixL_step; (case h => walk_at "hp"); (case a => walk_at "at"))
  | (apply ixT_step; (case h => walk_at "hp"); (case a => walk_at "at"))
  | (apply lenL_step; (case h => walk_at "hp")))
local macro_rules | `(tactic| walk_at "step") => `(tactic| repeat (walk_at "step1"))
section
variable {P : Program} {w : World} {K : PySem.W.Frag} {mg : Str → Option Value} {base : Heap} {A : Ads}
def spLeastM (A : Ads) : Sp := fun vs H Q _ => ∃ (L : Addr) (ds : List Addr) (N : NetD) (one other : Str) (n : Nat) (u : Int), vs = [.ref L, .str other] ∧ H L = some (.lst (ds.map V.ref)) ∧ ds.length = n ∧ n ≤ 25 ∧ (∀ m d, ds[m]? = some d → ∃ fk, H d = some (.dK fk) ∧ CostAt N one u m fk) ∧
  ∀ (H' : Hp) (bv : V) (o : Option (Int × Nat)), Same H H' → bestV H' bv o → LeastP N one other u n o → Q bv H'
theorem ok_l_least (T : Txt K mg A) : DefOk P w K mg base CX0 3 A.l_least ["_law_costs_here", "_law_other"] (spLeastM A) := by
  obtain ⟨fd, F⟩ := T.F_l_least
  refine ⟨fd, ?_, F.binds (ps := ["_law_costs_here", "_law_other"]) fun _ _ _ _ _ _ us hl => match us, hl with | [_, _], _ => rfl, F.kp⟩
  refine F.ok sc_l_least (fun vs H Q E h => ?_) (fun cdv A' outer s H vs Q E hr h => ?_)
  · obtain ⟨L, ds, N, one, other, n, u, rfl, _⟩ := h
    rfl
  · obtain ⟨L, ds, N, one, other, n, u, rfl, hL, hn, h25, hds, q⟩ := h
    have hu := hu_of hr
    refine ⟨_, (pss_cons (ps_set (i := 2) sc_l_least.nd rfl (by first | exact Or.inl rfl | exact Or.inr rfl) pe_non)
      (pss_cons (ps_for PassesOwn.never rfl (pi_range1 (by rfl) T.b_range (pa_cons (pe_callB call_len_seq (by rfl) T.b_len PySem.boot_len (pa_cons (pv 0) pa_nil)) pa_nil)) (pg_name (i := 3) sc_l_least.nd rfl (by first | exact Or.inl rfl | exact Or.inr rfl)) (pss_one (ps_if (PW.pt (pw_and (pt_cmp (pc_din hu (pv 1) (pe_ix (r := rIxL K) ix_list (pv 0) (pv 3) (fun _ _ => rfl)))) (pw_and1 (PW.pt (pw_or (pt_cmpR op_isN (pv 2) pe_non (nomark _)) (pw_or1 (pt_cmpR op_lt (pe_dget hu (pe_ix (r := rIxL K) ix_list (pv 0) (pv 3) (fun _ _ => rfl)) (pv 1) (fun _ _ => rfl)) (pe_ix (r := rIxT K) ix_tup (pv 2) pe_int (fun _ _ => rfl)) (nomark _)))))))) (pss_one (ps_set (i := 2) sc_l_least.nd rfl (by first | exact Or.inl rfl | exact Or.inr rfl) (pe_tup (pa_cons (pe_dget hu (pe_ix (r := rIxL K) ix_list (pv 0) (pv 3) (fun _ _ => rfl)) (pv 1) (fun _ _ => rfl)) (pa_cons (pv 3) pa_nil))))) pss_nil)))
      (pss_one (ps_ret (pv 2))))), ?_⟩
    walk_at "go"
    refine ⟨L, _, rfl, .inl (SqL.of hL), ?_⟩
    walk_at "go"
    rw [List.length_map, hn]
    refine ⟨by omega, ?_⟩
    refine for_range (lo := 0) (n := _) (fun i σ' H' => Same H H' ∧ ∃ bv o v3, bestV H' bv o ∧ LeastP N one other u i o ∧ σ' = [some (.ref L), some (.str other), some bv, v3])
      ⟨Same.refl H, .non, none, none, rfl, least0 N one other u, rfl⟩ ?_ ?_
    · rintro i σ' H1 hi ⟨s1, bv, o, v3, hbv, hlp, rfl⟩
      rw [Int.zero_add]
      have hi : i < n := by omega
      obtain ⟨d, hd⟩ : ∃ d, ds[i]? = some d := ⟨_, List.getElem?_eq_getElem (by omega)⟩
      obtain ⟨fk, hfk, hc⟩ := hds i d hd
      replace hfk := s1 _ _ hfk
      obtain ⟨x, ex, bx⟩ := hc other
      have hd1 : atI (ds.map V.ref) (i : Int) = some (.ref d) := atI_nat (j := i) (by rw [List.getElem?_map, hd]; rfl)
      have hL1 := s1 _ _ hL
      dsimp only [gName, List.set]
      refine do_if1 (ltB x o) (fun Q' q' => ?_) (fun hb => ?_) (fun hb => ?_)
      · walk_at "step"
        refine ⟨L, _, _, _, rfl, rfl, SqL.of hL1, hd1, ?_⟩
        walk_at "step"
        refine ⟨d, _, rfl, DGet.k (k := Sum.inr other) hfk, ?_⟩
        rw [ex]
        cases x with
        | none =>
          walk_at "step"
          exact q'
        | some c =>
          walk_at "step"
          cases o with
          | none =>
            have hbv : bv = .non := hbv
            subst hbv
            refine ite2 (fun _ => ?_) (fun z => absurd (decide_eq_true rfl) z)
            exact q'
          | some q =>
            obtain ⟨a, m⟩ := q
            obtain ⟨T, rfl, hT⟩ := hbv
            refine ite2 (fun z => (by have z := of_decide_eq_true z; cases z)) (fun _ => ?_)
            walk_at "step"
            refine ⟨L, _, _, _, rfl, rfl, SqL.of hL1, hd1, ?_⟩
            walk_at "step"
            refine ⟨d, _, rfl, (by have := DGet.k (k := Sum.inr other) hfk; rw [ex] at this; exact this), ?_⟩
            walk_at "step"
            exact q'
      · cases x with
        | none => cases hb
        | some c =>
          walk_at "step"
          refine ⟨L, _, _, _, rfl, rfl, SqL.of hL1, hd1, ?_⟩
          walk_at "step"
          refine ⟨d, _, rfl, (by have := DGet.k (k := Sum.inr other) hfk; rw [ex] at this; exact this), ?_⟩
          walk_at "step"
          refine ⟨(by show 2 ≤ sizeLine; decide), fun T nT => ?_⟩
          walk_at "step"
          refine ⟨s1.trans (same_up nT), _, some (c, i), _, ⟨T, rfl, upd_same⟩, least_new hlp bx (fun a m e => ?_), rfl⟩
          subst e
          exact of_decide_eq_true hb
      · refine ⟨s1, bv, o, _, hbv, least_skip hlp (fun t rs dd => ?_), rfl⟩
        cases x with
        | none => exact absurd ⟨rs, dd⟩ (bx t)
        | some c =>
          cases o with
          | none => cases hb
          | some q =>
            obtain ⟨a, m⟩ := q
            have hb : ¬ c < a := of_decide_eq_false hb
            have := bx.2 t ⟨rs, dd⟩
            exact ⟨a, m, rfl, by omega⟩
    · rintro σ' H1 ⟨s1, bv, o, v3, hbv, hlp, rfl⟩
      walk_at "go"
      exact q H1 bv o s1 hbv hlp
end
end Toll

set_option Elab.async false
set_option linter.all false
set_option maxRecDepth 100000
set_option maxHeartbeats 4000000
namespace Toll
open PySem L2
local macro_rules | `(tactic| walk_at "go1") => `(tactic| first
  | refine ⟨_, rfl, ?_⟩
  | refine ⟨rfl, ?_⟩
  | refine ⟨_, _, rfl, rfl, ?_⟩
  | refine ⟨_, _, rfl, ?_⟩
  | (with_reducible refine' ⟨log_small ?k1 ?k2, ?_⟩; (case k1 => omega); (case k2 => omega))
  | (refine' ⟨?k1, ?_⟩; (case k1 => ((with_reducible show (_ : Int) < _); omega)))
  | (refine' ⟨⟨?k1, ?k2⟩, ?_⟩; (case k1 => omega); (case k2 => omega))
  | (refine' ⟨⟨?k1, ?k2, ?k3, ?k4⟩, ?_⟩; (case k1 => omega); (case k2 => omega); (case k3 => omega); (case k4 => omega))
  | (refine' ⟨.inl ⟨?k1, ?k2⟩, ?_⟩; (case k1 => omega); (case k2 => omega))
  | (refine' ⟨.inr ⟨?k1, ?k2⟩, ?_⟩; (case k1 => omega); (case k2 => omega))
  | (refine' ⟨Evl.sz_of ?k1, ?_⟩; (case k1 => omega))
  | (refine' ⟨?k1, ?_⟩; (case k1 => ((with_reducible show (_ : Int) ≤ _); omega)))
  | refine ⟨⟨_, rfl⟩, ?_⟩
  | refine .inl ⟨_, rfl, ?_⟩ | refine .inr ⟨_, rfl, ?_⟩
  | refine iteT ?_ | refine iteF ?_)
local macro_rules | `(tactic| walk_at "go") => `(tactic| repeat (walk_at "go1"))
local macro_rules | `(tactic| walk_at "ans") => `(tactic| (intro Q' q'; walk_at "go"; (try rw [dec_int]); (try rw [dec_str]); exact q'))
local macro_rules | `(tactic| walk_at "hp") => `(tactic| first | assumption | exact upd_same | (refine' up_same ?e ?h; (case e => assumption); (case h => walk_at "hp")) | (refine' upd_at ?n ?h; (case n => walk_at "ne"); (case h => walk_at "hp")))
local macro_rules | `(tactic| walk_at "ne") => `(tactic| first | assumption | (apply Ne.symm; assumption))
local macro_rules | `(tactic| walk_at "at") => `(tactic| first | exact atI_nat (j := 0) rfl | exact atI_nat (j := 1) rfl | exact atI_nat (j := 2) rfl | exact atI_nat (j := 3) rfl | exact atI_nat (j := 4) rfl)
local macro_rules | `(tactic| walk_at "step1") => `(tactic| first
  | walk_at "go1"
  | (apply ixL_step; (case h => walk_at "hp"); (case a => walk_at "at"))
  | (apply ixT_step; (case h => walk_at "hp"); (case a => walk_at "at"))
  | (apply lenL_step; (case h => walk_at "hp")))
local macro_rules | `(tactic| walk_at "step") => `(tactic| repeat (walk_at "step1"))
section
variable {P : Program} {w : World} {K : PySem.W.Frag} {mg : Str → Option Value} {base : Heap} {A : Ads}
def spBill (A : Ads) : Sp := fun vs H Q E => ∃ (wp p g r sd : Addr) (N : NetD) (W : List CarE), vs = [.ref wp] ∧ WatchAt A.C_Watch H wp p sd W ∧ NetAt A.C_Net H p g r N ∧ NetOk N ∧ (∀ e ∈ W, GOk N (e.ss.mergeSort seenLe)) ∧
  ∀ (H' : Hp) (L : Addr) (us : List V) (rows : List (Str × DOut)), Same H H' → H L = none → H' L = some (.lst us) → Paired (BillV H') us rows → RowsOk N W rows → Q (.ref L) H'
theorem ok_bill (T : Txt K mg A) : DefOk P w K mg base (L2.CX P w) 6 A.bill ["watch"] (spBill A) := by
  obtain ⟨_, G_guess, B_guess, K_guess⟩ := ok_guess (P := P) (w := w) (base := base) T
  obtain ⟨_, G_W_cars, B_W_cars, K_W_cars⟩ := ok_W_cars (P := P) (w := w) (base := base) T
  obtain ⟨_, G_W_seen, B_W_seen, K_W_seen⟩ := ok_W_seen (P := P) (w := w) (base := base) T
  obtain ⟨fd, F⟩ := T.F_bill
  refine ⟨fd, ?_, F.binds (ps := ["watch"]) fun _ _ _ _ _ _ us hl => match us, hl with | [_], _ => rfl, F.kp⟩
  refine F.okX sc_bill (fun vs H Q E h => ?_) (fun cdv A' outer s H vs Q E hr h => ?_)
  · obtain ⟨wp, p, g, r, sd, N, W, rfl, _⟩ := h
    rfl
  · obtain ⟨wp, p, g, r, sd, N, W, rfl, hW, hN, nok, hg, q⟩ := h
    refine ⟨_, (pss_cons (ps_set (i := 1) sc_bill.nd rfl (by first | exact Or.inl rfl | exact Or.inr rfl) (pe_lst pa_nil))
      (pss_cons (ps_for (passes_of rfl) rfl (pi_list (pe_meth0 (pv 0) T.c_Watch T.M_W_cars G_W_cars (hr.mono (by decide)) B_W_cars .nil pass0)) (pg_name (i := 2) sc_bill.nd rfl (by first | exact Or.inl rfl | exact Or.inr rfl)) (pss_cons (ps_set (i := 3) sc_bill.nd rfl (by first | exact Or.inl rfl | exact Or.inr rfl) (pe_call G_guess (hr.mono (by decide)) rfl T.m_guess K_guess B_guess .nil (passes_call (takes_of rfl rfl rfl rfl) fun _ _ _ _ h => h) (pa_cons (pe_fld (pv 0) rfl) (pa_cons (pe_meth (pv 0) T.c_Watch T.M_W_seen G_W_seen (hr.mono (by decide)) B_W_seen .nil (passes_call (takes_of rfl rfl rfl rfl) fun _ _ _ _ h => h) (pa_cons (pv 2) pa_nil)) pa_nil))))
      (pss_one (ps_if (pt_cmpR op_eq (pe_ix (r := rIxT K) ix_tup (pv 3) pe_int (fun _ _ => rfl)) pe_str (nomark _)) (pss_one (ps_expr (pe_bm PySem.F.plainAttrs_list PySem.F.slot_list_append PySem.F.type_list_append mt_append (pv 1) (pa_cons (pe_tup (pa_cons (pv 2) (pa_cons (pe_ix (r := rIxT K) ix_tup (pv 3) pe_int (fun _ _ => rfl)) pa_nil))) pa_nil)))) (pss_one (ps_expr (pe_bm PySem.F.plainAttrs_list PySem.F.slot_list_append PySem.F.type_list_append mt_append (pv 1) (pa_cons (pe_tup (pa_cons (pv 2) (pa_cons pe_non pa_nil))) pa_nil))))))))
      (pss_one (ps_ret (pv 1))))), ?_⟩
    walk_at "go"
    refine ⟨Nat.zero_le _, fun L nL => ?_⟩
    have s1 : Same H (upd H L (.lst [])) := same_up nL
    have hL1 : (upd H L (.lst [])) L = some (.lst []) := upd_same
    generalize upd H L (.lst []) = H1 at s1 hL1
    have hW1 := hW.same s1
    obtain ⟨dx, hob⟩ := hW1.ob
    walk_at "go"
    refine ⟨wp, dx, _, rfl, hob, watchF_no _ _ (by decide +kernel) (by decide +kernel), ?_⟩
    walk_at "go"
    refine ⟨wp, p, sd, W, rfl, hW1, fun H2 Lc ys s2 nLc hpm hsr hLc => ?_⟩
    have hL2 := s2 _ _ hL1
    have nLL : Lc ≠ L := (ne_of_none hL1 nLc).symm
    have s12 := s1.trans s2
    have same : ∀ {H' : Hp}, Keep [L] H2 H' → Same H H' := fun {H'} k => same_keep s12 k fun x hx => by rw [List.mem_singleton] at hx; rw [hx]; exact nL
    have yl : ys.length ≤ 60 := by rw [hpm.length_eq, List.length_map]; exact hW.l1
    refine ⟨Lc, rfl, ⟨_, SqL.of hLc⟩, for_list (K := K) (a := Lc) (xs := ys.map V.str) (fun i σ' H' => Keep [L] H2 H' ∧ ∃ us rows v2 v3, σ' = [some (.ref wp), some (.ref L), v2, v3] ∧ H' L = some (.lst us) ∧ Paired (BillV H') us rows ∧ rows.map (·.1) = ys.take i ∧ ∀ q ∈ rows, ∃ e ∈ W, e.car = q.1 ∧ DueP N (e.ss.mergeSort seenLe) q.2)
      ⟨Keep.of_same (Same.refl _), [], [], none, none, rfl, hL2, .nil, by simp, by simp⟩ (fun i σ' H' _ ⟨k, _⟩ => SqL.of (k _ _ hLc (by simpa using nLL))) ?_ ?_⟩
    · rintro i x σ' H3 hi ⟨k3, us, rows, v2, v3, rfl, hL3, hP3, e3, d3⟩
      obtain ⟨c, hc, rfl⟩ := map_str_at hi
      have il := (List.getElem?_eq_some_iff.mp hc).1
      have rl : rows.length = i := by have := congrArg List.length e3; rw [List.length_map, List.length_take] at this; omega
      have ul := paired_len hP3
      obtain ⟨e, he, rfl⟩ := List.mem_map.mp (hpm.mem_iff.mp (List.mem_of_getElem? hc))
      have hce := carOf_mem hW.nc he
      have cok := hW.nm e he
      have sH3 := same k3
      have hW3 := hW.same sH3
      have hN3 := hN.same sH3
      obtain ⟨dx3, hob3⟩ := hW3.ob
      walk_at "go"
      refine ⟨wp, _, dx3, _, _, rfl, hob3, T.c_Watch, T.na_Watch_net, watchF_net _ _, ?_⟩
      walk_at "go"
      refine ⟨wp, dx3, _, rfl, hob3, watchF_no _ _ (by decide +kernel) (by decide +kernel), ?_⟩
      walk_at "go"
      refine ⟨wp, p, sd, W, e.car, rfl, hW3, Nat.le_trans cok.1 (by decide), cok.2, fun z => (by rw [hce] at z; cases z), fun e' he' H4 S us4 s4 nS hS hP4 => ?_⟩
      rw [hce] at he'
      obtain rfl := Option.some.inj he'
      obtain ⟨g1, g2, g3, g4, g5⟩ := hg e he
      have fin : ∀ {H5 : Hp} (o : DOut) (v3 : Option V), Same H3 H5 → DueP N (e.ss.mergeSort seenLe) o → ∀ t, H5 t = none → Keep [L] H2 (upd (upd H5 t (.tup [.str e.car, owed o])) L (.lst (us ++ [.ref t]))) ∧ ∃ us' rows' v2' v3', ([some (.ref wp), some (.ref L), some (.str e.car), v3] : List (Option V)) = [some (.ref wp), some (.ref L), v2', v3'] ∧ (upd (upd H5 t (.tup [.str e.car, owed o])) L (.lst (us ++ [.ref t]))) L = some (.lst us') ∧ Paired (BillV (upd (upd H5 t (.tup [.str e.car, owed o])) L (.lst (us ++ [.ref t])))) us' rows' ∧ rows'.map (·.1) = ys.take (i + 1) ∧ ∀ q ∈ rows', ∃ e ∈ W, e.car = q.1 ∧ DueP N (e.ss.mergeSort seenLe) q.2 := fun {H5} o v3 s5 hd t nt => by
        have s6 := same_up (o := HO.tup [.str e.car, owed o]) nt
        have hL6 := s6 _ _ (s5 _ _ hL3)
        refine ⟨(k3.trans (Keep.of_same (s5.trans s6))).trans keep1, _, rows ++ [(e.car, o)], _, _, rfl, upd_same, ?_, ?_, fun q hq => ?_⟩
        · have up : ∀ {v : V} {q : Str × DOut}, BillV (upd H5 t (.tup [.str e.car, owed o])) v q → BillV (upd (upd H5 t (.tup [.str e.car, owed o])) L (.lst (us ++ [.ref t]))) v q := fun {v q} ⟨x, ex, hx⟩ => ⟨x, ex, by
            have : x ≠ L := fun z => by rw [z, hL6] at hx; cases hx
            rw [upd_ne this]
            exact hx⟩
          exact paired_snoc (up ⟨t, rfl, upd_same⟩) (L2.Paired.mapP (bill_same (s5.trans s6) hP3) fun _ _ h => up h)
        · rw [List.map_append, e3, List.take_add_one, hc]
          rfl
        · rcases List.mem_append.mp hq with z | z
          · exact d3 q z
          · rw [List.mem_singleton] at z
            rw [z]
            exact ⟨e, he, rfl, hd⟩
      walk_at "go"
      refine ⟨p, g, r, S, N, us4, _, rfl, hN3.same s4, nok, hS, hP4, g2, g3, fun z => absurd z g1, fun _ z => (by rw [g4] at z; cases z), fun _ z => (by rw [g4] at z; cases z), fun _ _ => ⟨g5, fun H5 Tt k s5 nT hT hGP => ?_, fun H5 Tt R Lw ws legs q0 s5 nT nR nLw _ hT _ _ _ _ hGP => ?_⟩⟩
      · walk_at "go"
        refine ⟨Tt, _, _, _, rfl, rfl, SqT.of hT, atI_nat (j := 0) rfl, ?_⟩
        walk_at "go"
        have hL5 := s5 _ _ (s4 _ _ hL3)
        refine ⟨.inl ⟨rfl, _, SqL.of hL5⟩, ?_⟩
        walk_at "go"
        refine ⟨(by show 2 ≤ sizeLine; decide), fun t nt => ?_⟩
        refine ⟨L, _, _, rfl, rfl, same_up nt _ _ hL5, small1000 (by omega), ?_⟩
        exact fin (.no k) _ (s4.trans s5) (GuessP.due hGP) t nt
      · walk_at "go"
        refine ⟨Tt, _, _, _, rfl, rfl, SqT.of hT, atI_nat (j := 0) rfl, ?_⟩
        walk_at "go"
        have hL5 := s5 _ _ (s4 _ _ hL3)
        refine ⟨.inl ⟨rfl, _, SqL.of hL5⟩, ?_⟩
        walk_at "go"
        refine ⟨Tt, _, _, _, rfl, rfl, SqT.of hT, atI_nat (j := 1) rfl, ?_⟩
        walk_at "go"
        refine ⟨(by show 2 ≤ sizeLine; decide), fun t nt => ?_⟩
        refine ⟨L, _, _, rfl, rfl, same_up nt _ _ hL5, small1000 (by omega), ?_⟩
        exact fin (DOut.of (.way legs)) _ (s4.trans s5) (GuessP.due hGP) t nt
    · rintro σ' H3 ⟨k3, us, rows, v2, v3, rfl, hL3, hP3, e3, d3⟩
      rw [List.length_map, List.take_length] at e3
      walk_at "go"
      exact q H3 L us rows (same k3) nL hL3 hP3 ⟨by rw [e3]; exact hpm, by rw [e3]; exact hsr, d3⟩
end
end Toll

set_option Elab.async false
set_option linter.all false
set_option maxRecDepth 100000
set_option maxHeartbeats 4000000
namespace Toll
open PySem L2
local macro_rules | `(tactic| walk_at "go1") => `(tactic| first
  | refine ⟨_, rfl, ?_⟩
  | refine ⟨rfl, ?_⟩
  | refine ⟨_, _, rfl, rfl, ?_⟩
  | refine ⟨_, _, rfl, ?_⟩
  | (with_reducible refine' ⟨log_small ?k1 ?k2, ?_⟩; (case k1 => omega); (case k2 => omega))
  | (refine' ⟨?k1, ?_⟩; (case k1 => ((with_reducible show (_ : Int) < _); omega)))
  | (refine' ⟨⟨?k1, ?k2⟩, ?_⟩; (case k1 => omega); (case k2 => omega))
  | (refine' ⟨⟨?k1, ?k2, ?k3, ?k4⟩, ?_⟩; (case k1 => omega); (case k2 => omega); (case k3 => omega); (case k4 => omega))
  | (refine' ⟨.inl ⟨?k1, ?k2⟩, ?_⟩; (case k1 => omega); (case k2 => omega))
  | (refine' ⟨.inr ⟨?k1, ?k2⟩, ?_⟩; (case k1 => omega); (case k2 => omega))
  | (refine' ⟨Evl.sz_of ?k1, ?_⟩; (case k1 => omega))
  | (refine' ⟨?k1, ?_⟩; (case k1 => ((with_reducible show (_ : Int) ≤ _); omega)))
  | refine ⟨⟨_, rfl⟩, ?_⟩
  | refine .inl ⟨_, rfl, ?_⟩ | refine .inr ⟨_, rfl, ?_⟩
  | refine iteT ?_ | refine iteF ?_)
local macro_rules | `(tactic| walk_at "go") => `(tactic| repeat (walk_at "go1"))
local macro_rules | `(tactic| walk_at "ans") => `(tactic| (intro Q' q'; walk_at "go"; (try rw [dec_int]); (try rw [dec_str]); exact q'))
local macro_rules | `(tactic| walk_at "hp") => `(tactic| first | assumption | exact upd_same | (refine' up_same ?e ?h; (case e => assumption); (case h => walk_at "hp")) | (refine' upd_at ?n ?h; (case n => walk_at "ne"); (case h => walk_at "hp")))
local macro_rules | `(tactic| walk_at "ne") => `(tactic| first | assumption | (apply Ne.symm; assumption))
local macro_rules | `(tactic| walk_at "at") => `(tactic| first | exact atI_nat (j := 0) rfl | exact atI_nat (j := 1) rfl | exact atI_nat (j := 2) rfl | exact atI_nat (j := 3) rfl | exact atI_nat (j := 4) rfl)
local macro_rules | `(tactic| walk_at "step1") => `(tactic| first
  | walk_at "go1"
  | (apply ixL_step; (case h => walk_at "hp"); (case a => walk_at "at"))
  | (apply ixT_step; (case h => walk_at "hp"); (case a => walk_at "at"))
  | (apply lenL_step; (case h => walk_at "hp")))
local macro_rules | `(tactic| walk_at "step") => `(tactic| repeat (walk_at "step1"))
section
variable {P : Program} {w : World} {K : PySem.W.Frag} {mg : Str → Option Value} {base : Heap} {A : Ads}
def spTotal (A : Ads) : Sp := fun vs H Q E => ∃ (wp p g r sd : Addr) (N : NetD) (W : List CarE), vs = [.ref wp] ∧ WatchAt A.C_Watch H wp p sd W ∧ NetAt A.C_Net H p g r N ∧ NetOk N ∧ (∀ e ∈ W, GOk N (e.ss.mergeSort seenLe)) ∧
  ∀ (H' : Hp) (rows : List (Str × DOut)), Same H H' → RowsOk N W rows → Q (.int (sumRows rows)) H'
theorem ok_total (T : Txt K mg A) : DefOk P w K mg base (L2.CX P w) 7 A.total ["watch"] (spTotal A) := by
  obtain ⟨_, G_bill, B_bill, K_bill⟩ := ok_bill (P := P) (w := w) (base := base) T
  obtain ⟨fd, F⟩ := T.F_total
  refine ⟨fd, ?_, F.binds (ps := ["watch"]) fun _ _ _ _ _ _ us hl => match us, hl with | [_], _ => rfl, F.kp⟩
  refine F.okX sc_total (fun vs H Q E h => ?_) (fun cdv A' outer s H vs Q E hr h => ?_)
  · obtain ⟨wp, p, g, r, sd, N, W, rfl, _⟩ := h
    rfl
  · obtain ⟨wp, p, g, r, sd, N, W, rfl, hW, hN, nok, hg, q⟩ := h
    refine ⟨_, (pss_one (ps_ret (pe_callB (cr_sum rfl) (by rfl) T.b_sum (by decide +kernel) (pa_cons (pe_lc (own := [("car", 1), ("toll", 2)]) rfl sc_total.nd (pi_list (pe_call G_bill (hr.mono (by decide)) rfl T.m_bill K_bill B_bill .nil (passes_call (takes_of rfl rfl rfl rfl) fun _ _ _ _ h => h) (pa_cons (pv 0) pa_nil))) (blkOk_by (own := [("car", 1), ("toll", 2)]) (N := n_total) (sc := defScope s_total) (by decide +kernel)) (fun _ _ _ _ _ => (pg_tupK (K := K) (n := 2) (by rfl) (by rfl) (pgs_cons (pg_name (i := 1) sc_total.nd rfl (by first | exact Or.inl rfl | exact Or.inr rfl)) (pgs_cons (pg_name (i := 2) sc_total.nd rfl (by first | exact Or.inl rfl | exact Or.inr rfl)) pgs_nil)) (by rfl) (by rfl))) (fun _ _ _ _ _ => (pts_one (pt_cmpR op_notN (pv 2) pe_non (nomark _)))) (fun _ _ _ _ _ => (pv 2))) pa_nil)))), ?_⟩
    walk_at "go"
    refine ⟨wp, p, g, r, sd, N, W, rfl, hW, hN, nok, hg, fun H1 L us rows s1 nL hL hP hro => ?_⟩
    have ul : us.length ≤ 60 := by
      have a := paired_len hP
      have b := hro.pm.length_eq
      have c := hW.l1
      rw [List.length_map, List.length_map] at b
      omega
    walk_at "go"
    refine ⟨⟨_, SqL.of hL⟩, fun D nD => ?_⟩
    refine lc_list (K := K) (a := L) (xs := us) (fun i H' => Same H1 H' ∧ ∃ ts : List Int, ts.length ≤ i ∧ ts.sum = sumRows (rows.take i) ∧ H' D = some (.lst (ts.map V.int))) ⟨same_up nD, [], by simp, by simp [sumRows], upd_same⟩ (fun i H' _ ⟨sx, _⟩ => SqL.of (sx _ _ hL)) ?_ ?_
    · rintro i x H2 hi ⟨s2, ts, tl, te, hD⟩
      obtain ⟨q2, hq, t, rfl, ht⟩ := paired_getL hP hi
      have il := (List.getElem?_eq_some_iff.mp hi).1
      have htk : rows.take (i + 1) = rows.take i ++ [q2] := by rw [List.take_add_one, hq]; rfl
      refine ⟨t, [.str q2.1, owed q2.2], rfl, SqT.of (s2 _ _ ht), rfl, ?_⟩
      walk_at "go"
      obtain ⟨c, o⟩ := q2
      cases o with
      | no k =>
        show Same H1 H2 ∧ _
        exact ⟨s2, ts, by omega, by rw [te, htk]; unfold sumRows; rw [List.filterMap_append, List.sum_append]; simp, hD⟩
      | way t2 =>
        refine ⟨_, rfl, ts.map V.int, hD, ?_, same_new s2 nD, ts ++ [t2.sum], ?_, ?_, ?_⟩
        · rw [List.length_map]
          exact Nat.lt_of_le_of_lt tl (Nat.lt_of_lt_of_le il (Nat.le_trans ul (by decide)))
        · rw [List.length_append]; show ts.length + 1 ≤ _; omega
        · rw [List.sum_append, te, htk]
          unfold sumRows
          rw [List.filterMap_append, List.sum_append]
          simp
        · rw [upd_same, List.map_append]
          rfl
    · rintro H2 ⟨s2, ts, tl, te, hD⟩
      rw [List.take_of_length_le (by have := paired_len hP; omega)] at te
      walk_at "go"
      refine ⟨D, ts, rfl, SqL.of hD, ?_⟩
      rw [te]
      exact q H2 rows (s1.trans s2) hro
end
end Toll

set_option Elab.async false
set_option linter.all false
set_option maxRecDepth 100000
set_option maxHeartbeats 4000000
namespace Toll
open PySem L2
local macro_rules | `(tactic| walk_at "go1") => `(tactic| first
  | refine ⟨_, rfl, ?_⟩
  | refine ⟨rfl, ?_⟩
  | refine ⟨_, _, rfl, rfl, ?_⟩
  | refine ⟨_, _, rfl, ?_⟩
  | (with_reducible refine' ⟨log_small ?k1 ?k2, ?_⟩; (case k1 => omega); (case k2 => omega))
  | (refine' ⟨?k1, ?_⟩; (case k1 => ((with_reducible show (_ : Int) < _); omega)))
  | (refine' ⟨⟨?k1, ?k2⟩, ?_⟩; (case k1 => omega); (case k2 => omega))
  | (refine' ⟨⟨?k1, ?k2, ?k3, ?k4⟩, ?_⟩; (case k1 => omega); (case k2 => omega); (case k3 => omega); (case k4 => omega))
  | (refine' ⟨.inl ⟨?k1, ?k2⟩, ?_⟩; (case k1 => omega); (case k2 => omega))
  | (refine' ⟨.inr ⟨?k1, ?k2⟩, ?_⟩; (case k1 => omega); (case k2 => omega))
  | (refine' ⟨Evl.sz_of ?k1, ?_⟩; (case k1 => omega))
  | (refine' ⟨?k1, ?_⟩; (case k1 => ((with_reducible show (_ : Int) ≤ _); omega)))
  | refine ⟨⟨_, rfl⟩, ?_⟩
  | refine .inl ⟨_, rfl, ?_⟩ | refine .inr ⟨_, rfl, ?_⟩
  | refine iteT ?_ | refine iteF ?_)
local macro_rules | `(tactic| walk_at "go") => `(tactic| repeat (walk_at "go1"))
local macro_rules | `(tactic| walk_at "ans") => `(tactic| (intro Q' q'; walk_at "go"; (try rw [dec_int]); (try rw [dec_str]); exact q'))
local macro_rules | `(tactic| walk_at "hp") => `(tactic| first | assumption | exact upd_same | (refine' up_same ?e ?h; (case e => assumption); (case h => walk_at "hp")) | (refine' upd_at ?n ?h; (case n => walk_at "ne"); (case h => walk_at "hp")))
local macro_rules | `(tactic| walk_at "ne") => `(tactic| first | assumption | (apply Ne.symm; assumption))
local macro_rules | `(tactic| walk_at "at") => `(tactic| first | exact atI_nat (j := 0) rfl | exact atI_nat (j := 1) rfl | exact atI_nat (j := 2) rfl | exact atI_nat (j := 3) rfl | exact atI_nat (j := 4) rfl)
local macro_rules | `(tactic| walk_at "step1") => `(tactic| first
  | walk_at "go1"
  | (apply ixL_step; (case h => walk_at "hp"); (case a => walk_at "at"))
  | (apply ixT_step; (case h => walk_at "hp"); (case a => walk_at "at"))
  | (apply lenL_step; (case h => walk_at "hp")))
local macro_rules | `(tactic| walk_at "step") => `(tactic| repeat (walk_at "step1"))
section
variable {P : Program} {w : World} {K : PySem.W.Frag} {mg : Str → Option Value} {base : Heap} {A : Ads}
def spWhole : Sp := fun vs H Q _ => ∃ i : Int, vs = [.int i] ∧ Q (.bl true) H
theorem ok_l_whole (T : Txt K mg A) : DefOk P w K mg base CX0 1 A.l_whole ["_law_found"] spWhole := by
  obtain ⟨fd, F⟩ := T.F_l_whole
  refine ⟨fd, ?_, F.binds (ps := ["_law_found"]) fun _ _ _ _ _ _ us hl => match us, hl with | [_], _ => rfl, F.kp⟩
  refine F.ok sc_l_whole (fun vs H Q E h => ?_) (fun cdv A outer s H vs Q E hr h => ?_)
  · obtain ⟨i, rfl, _⟩ := h
    rfl
  · obtain ⟨i, rfl, q⟩ := h
    refine ⟨_, (pss_one (ps_ret (pe_and (pe_callB call_isi (by rfl) T.b_isinstance (by decide +kernel) (pa_cons (pv 0) (pa_cons (pe_bltn (v := .ty "int") (by rfl) T.b_int (by decide +kernel) rfl) pa_nil))) (pe_one (pe_not (pe_callB call_isi (by rfl) T.b_isinstance (by decide +kernel) (pa_cons (pv 0) (pa_cons (pe_bltn (v := .ty "bool") (by rfl) T.b_bool (by decide +kernel) rfl) pa_nil)))))))), ?_⟩
    walk_at "go"
    refine ⟨_, _, _, _, true, rfl, ClsV.ty _, TyX.base (TyOf.int _), kit_ty (by decide +kernel), ?_⟩
    walk_at "go"
    refine ⟨_, _, _, _, false, rfl, ClsV.ty _, TyX.base (TyOf.int _), kit_ty (by decide +kernel), ?_⟩
    walk_at "go"
    exact q
end
end Toll

set_option Elab.async false
set_option linter.all false
set_option maxRecDepth 100000
set_option maxHeartbeats 4000000
namespace Toll
open PySem L2
local macro_rules | `(tactic| walk_at "go1") => `(tactic| first
  | refine ⟨_, rfl, ?_⟩
  | refine ⟨rfl, ?_⟩
  | refine ⟨_, _, rfl, rfl, ?_⟩
  | refine ⟨_, _, rfl, ?_⟩
  | (with_reducible refine' ⟨log_small ?k1 ?k2, ?_⟩; (case k1 => omega); (case k2 => omega))
  | (refine' ⟨?k1, ?_⟩; (case k1 => ((with_reducible show (_ : Int) < _); omega)))
  | (refine' ⟨⟨?k1, ?k2⟩, ?_⟩; (case k1 => omega); (case k2 => omega))
  | (refine' ⟨⟨?k1, ?k2, ?k3, ?k4⟩, ?_⟩; (case k1 => omega); (case k2 => omega); (case k3 => omega); (case k4 => omega))
  | (refine' ⟨.inl ⟨?k1, ?k2⟩, ?_⟩; (case k1 => omega); (case k2 => omega))
  | (refine' ⟨.inr ⟨?k1, ?k2⟩, ?_⟩; (case k1 => omega); (case k2 => omega))
  | (refine' ⟨Evl.sz_of ?k1, ?_⟩; (case k1 => omega))
  | (refine' ⟨?k1, ?_⟩; (case k1 => ((with_reducible show (_ : Int) ≤ _); omega)))
  | refine ⟨⟨_, rfl⟩, ?_⟩
  | refine .inl ⟨_, rfl, ?_⟩ | refine .inr ⟨_, rfl, ?_⟩
  | refine iteT ?_ | refine iteF ?_)
local macro_rules | `(tactic| walk_at "go") => `(tactic| repeat (walk_at "go1"))
local macro_rules | `(tactic| walk_at "ans") => `(tactic| (intro Q' q'; walk_at "go"; (try rw [dec_int]); (try rw [dec_str]); exact q'))
local macro_rules | `(tactic| walk_at "hp") => `(tactic| first | assumption | exact upd_same | (refine' up_same ?e ?h; (case e => assumption); (case h => walk_at "hp")) | (refine' upd_at ?n ?h; (case n => walk_at "ne"); (case h => walk_at "hp")))
local macro_rules | `(tactic| walk_at "ne") => `(tactic| first | assumption | (apply Ne.symm; assumption))
local macro_rules | `(tactic| walk_at "at") => `(tactic| first | exact atI_nat (j := 0) rfl | exact atI_nat (j := 1) rfl | exact atI_nat (j := 2) rfl | exact atI_nat (j := 3) rfl | exact atI_nat (j := 4) rfl)
local macro_rules | `(tactic| walk_at "step1") => `(tactic| first
  | walk_at "go1"
  | (apply ixL_step; (case h => walk_at "hp"); (case a => walk_at "at"))
  | (apply ixT_step; (case h => walk_at "hp"); (case a => walk_at "at"))
  | (apply lenL_step; (case h => walk_at "hp")))
local macro_rules | `(tactic| walk_at "step") => `(tactic| repeat (walk_at "step1"))
section
variable {P : Program} {w : World} {K : PySem.W.Frag} {mg : Str → Option Value} {base : Heap} {A : Ads}
def spDue (A : Ads) : Sp := fun vs H Q _ => ∃ (S Ll Sd : Addr) (us : List V) (ss : List (Int × Str)) (rts : List Addr) (N : NetD) (sk : List (Key × V)), vs = [.ref S, .ref Ll, .ref Sd] ∧ H S = some (.lst us) ∧ Paired (SeenV H) us ss ∧ 1 ≤ ss.length ∧ ss.length ≤ 6 ∧ SeenOk N.gates 1 ss ∧ H Ll = some (.lst (rts.map V.ref)) ∧ RL H rts N.roads ∧ H Sd = some (.dK sk) ∧ (∀ nm, valV sk (Sum.inr nm) = (seesOf N.gates nm).map V.bl) ∧ NetOk N ∧ N.roads.length ≤ 190 ∧ (∀ r ∈ N.roads, LineOk N.gates 1 r) ∧
  ∀ (H' : Hp) (T : Addr) (o : DOut), Same H H' → H T = none → H' T = some (.tup (dueVs o)) → DueP N ss o → Q (.ref T) H'
theorem ok_l_due (T : Txt K mg A) : DefOk P w K mg base CX0 4 A.l_due ["_law_seen", "_law_lines_here", "_law_sees"] (spDue A) := by
  obtain ⟨_, G_l_costs, B_l_costs, K_l_costs⟩ := ok_l_costs (P := P) (w := w) (base := base) T
  obtain ⟨_, G_l_least, B_l_least, K_l_least⟩ := ok_l_least (P := P) (w := w) (base := base) T
  obtain ⟨fd, F⟩ := T.F_l_due
  refine ⟨fd, ?_, F.binds (ps := ["_law_seen", "_law_lines_here", "_law_sees"]) fun _ _ _ _ _ _ us hl => match us, hl with | [_, _, _], _ => rfl, F.kp⟩
  refine F.ok sc_l_due (fun vs H Q E h => ?_) (fun cdv A' outer s H vs Q E hr h => ?_)
  · obtain ⟨S, Ll, Sd, us, ss, rts, N, sk, rfl, _⟩ := h
    rfl
  · obtain ⟨S, Ll, Sd, us, ss, rts, N, sk, rfl, hS, hP, l1, l6, hso, hLl, hR, hSd, hsk, hOk, h190, hok, q⟩ := h
    have hu1 : (1 : Int) ≤ 1 := by decide
    have hu2 : (1 : Int) ≤ 100000 := by decide
    have ul := paired_len hP
    have hun : ∀ r ∈ N.roads, r.op = true → r.mi % 1 = 0 := fun r h _ => by
      obtain ⟨j, _, _, e⟩ := (hok r h).mi
      rw [e]
      exact Int.mul_emod_right 1 j
    refine ⟨_, (pss_cons (ps_set (i := 3) sc_l_due.nd rfl (by first | exact Or.inl rfl | exact Or.inr rfl) pe_int)
      (pss_cons (ps_for PassesOwn.never rfl (pi_range2 (by rfl) T.b_range (pa_cons pe_int (pa_cons (pe_callB call_len_seq (by rfl) T.b_len PySem.boot_len (pa_cons (pv 0) pa_nil)) pa_nil))) (pg_name (i := 4) sc_l_due.nd rfl (by first | exact Or.inl rfl | exact Or.inr rfl)) (pss_cons (ps_set (i := 5) sc_l_due.nd rfl (by first | exact Or.inl rfl | exact Or.inr rfl) (pe_call G_l_costs (hr.mono (by decide)) rfl T.m_l_costs K_l_costs B_l_costs .nil pass0 (pa_cons (pv 1) (pa_cons (pv 2) (pa_cons (pe_ix (r := rIxT K) ix_tup (pe_ix (r := rIxL K) ix_list (pv 0) (pe_op op_sub (pv 4) pe_int) (fun _ _ => rfl)) pe_int (fun _ _ => rfl)) (pa_cons (pe_op op_sub (pe_ix (r := rIxT K) ix_tup (pe_ix (r := rIxL K) ix_list (pv 0) (pv 4) (fun _ _ => rfl)) pe_int (fun _ _ => rfl)) (pe_ix (r := rIxT K) ix_tup (pe_ix (r := rIxL K) ix_list (pv 0) (pe_op op_sub (pv 4) pe_int) (fun _ _ => rfl)) pe_int (fun _ _ => rfl))) (pa_cons pe_int pa_nil)))))))
      (pss_cons (ps_set (i := 6) sc_l_due.nd rfl (by first | exact Or.inl rfl | exact Or.inr rfl) (pe_call G_l_least (hr.mono (by decide)) rfl T.m_l_least K_l_least B_l_least .nil pass0 (pa_cons (pv 5) (pa_cons (pe_ix (r := rIxT K) ix_tup (pe_ix (r := rIxL K) ix_list (pv 0) (pv 4) (fun _ _ => rfl)) pe_int (fun _ _ => rfl)) pa_nil))))
      (pss_cons (ps_if (pt_cmpR op_isN (pv 6) pe_non (nomark _)) (pss_one (ps_ret (pe_tup (pa_cons pe_str (pa_cons (pe_op op_sub (pv 4) pe_int) pa_nil))))) pss_nil)
      (pss_one (ps_set (i := 3) sc_l_due.nd rfl (by first | exact Or.inl rfl | exact Or.inr rfl) (pe_op op_add (pv 3) (pe_ix (r := rIxT K) ix_tup (pv 6) pe_int (fun _ _ => rfl)))))))))
      (pss_one (ps_ret (pe_tup (pa_cons pe_str (pa_cons (pv 3) pa_nil))))))), ?_⟩
    walk_at "go"
    refine ⟨S, us, rfl, .inl (SqL.of hS), ?_⟩
    walk_at "go"
    refine for_range (lo := 1) (n := _) (fun i σ' H' => Same H H' ∧ ∃ (tolls : List Int) (v5 v6 v7 : Option V), σ' = [some (.ref S), some (.ref Ll), some (.ref Sd), some (.int tolls.sum), v5, v6, v7] ∧ tolls.length = i ∧ TollsAt N ss tolls)
      ⟨Same.refl H, [], _, _, _, rfl, rfl, fun i a b t _ _ h => (by simp at h)⟩ ?_ ?_
    · rintro i σ' H1 hi ⟨s1, tolls, v5, v6, v7, rfl, htl, hta⟩
      rw [show (1 : Int) + (i : Int) = ((i + 1 : Nat) : Int) by omega]
      obtain ⟨a, ha⟩ : ∃ q, ss[i]? = some q := ⟨_, List.getElem?_eq_getElem (by omega)⟩
      obtain ⟨b, hb⟩ : ∃ q, ss[i + 1]? = some q := ⟨_, List.getElem?_eq_getElem (by omega)⟩
      obtain ⟨_, hva, ta, rfl, hta'⟩ := paired_get hP ha
      obtain ⟨_, hvb, tb, rfl, htb'⟩ := paired_get hP hb
      have hta1 := s1 _ _ hta'
      have htb1 := s1 _ _ htb'
      have hS1 := s1 _ _ hS
      obtain ⟨most, rest, eg, m0, m1, r0, r1⟩ := hso.gap i a b ha hb
      obtain ⟨mN, rfl⟩ : ∃ m : Nat, most = (m : Int) := ⟨most.toNat, by omega⟩
      have hdiv : (b.1 - a.1) = (mN : Int) := by
        omega
      have ixa : atI us (((i + 1 : Nat) : Int) - 1) = some (.ref ta) := atI_of (j := i) (by omega) hva
      have ixb : atI us ((i + 1 : Nat) : Int) = some (.ref tb) := atI_nat hvb
      walk_at "go"
      refine ⟨S, us, _, _, rfl, rfl, SqL.of hS1, ixa, ?_⟩
      walk_at "step"
      refine ⟨S, us, _, _, rfl, rfl, SqL.of hS1, ixb, ?_⟩
      walk_at "step"
      refine ⟨S, us, _, _, rfl, rfl, SqL.of hS1, ixa, ?_⟩
      walk_at "step"
      refine ⟨Ll, Sd, rts, N, sk, a.2, mN, 1, (by
        show [_, _, _, V.int (b.1 - a.1), _] = _
        rw [hdiv]), s1 _ _ hLl, hR.same s1, s1 _ _ hSd, hsk, hOk, h190, by omega, hu1, hu2, hok, fun H2 Lc ds s2 nLc hLc hdl hds => ?_⟩
      have s12 := s1.trans s2
      have htb2 := s2 _ _ htb1
      walk_at "go"
      refine ⟨S, us, _, _, rfl, rfl, SqL.of (s12 _ _ hS), ixb, ?_⟩
      walk_at "step"
      refine ⟨Lc, ds, N, a.2, b.2, mN + 1, 1, rfl, hLc, hdl, by omega, hds, fun H3 bv o s3 hbv hlp => ?_⟩
      have s13 := s12.trans s3
      have ll := least_leg (N := N) (one := a.2) (w := b.2) (limit := b.1 - a.1) (rest := rest) (most := mN) hOk hu1 hun (by omega) r0 r1 hlp
      cases o with
      | none =>
        have hbv : bv = .non := hbv
        subst hbv
        walk_at "go"
        refine ⟨(by show 2 ≤ sizeLine; decide), fun T5 nT5 => ?_⟩
        refine q _ T5 (.no i) (s13.trans (same_up nT5)) (s13.free nT5) ?_ ⟨tolls, htl, hta, a, b, ha, hb, fun ⟨m, t, rs, d, hm⟩ => ll.1.mp rfl m t rs d hm⟩
        rw [upd_same]
        show some (HO.tup [V.str (Str.ofString "none"), V.int (((i + 1 : Nat) : Int) - 1)]) = some (HO.tup [_, V.int (i : Int)])
        rw [show (((i + 1 : Nat) : Int) - 1) = (i : Int) by omega]
      | some qo =>
        obtain ⟨c, k⟩ := qo
        obtain ⟨Tb, rfl, hTb⟩ := hbv
        obtain ⟨rs, hbd⟩ := least_best (limit := b.1 - a.1) (rest := rest) hOk hu1 hun (by omega) r0 r1 hlp
        walk_at "step"
        dsimp only [List.set]
        rw [show tolls.sum + c = (tolls ++ [c]).sum from (sum_snoc tolls c).symm]
        exact ⟨s13, tolls ++ [c], _, _, _, rfl, by rw [List.length_append, htl]; rfl, hta.snoc (by rw [htl]; exact ha) (by rw [htl]; exact hb) hbd⟩
    · rintro σ' H1 ⟨s1, tolls, v5, v6, v7, rfl, htl, hta⟩
      walk_at "go"
      refine ⟨(by show 2 ≤ sizeLine; decide), fun T5 nT5 => ?_⟩
      exact q _ T5 (.way tolls) (s1.trans (same_up nT5)) (s1.free nT5) upd_same ⟨by omega, hta⟩
end
end Toll

set_option Elab.async false
set_option linter.all false
set_option maxRecDepth 100000
set_option maxHeartbeats 4000000
namespace Toll
open PySem L2
local macro_rules | `(tactic| walk_at "go1") => `(tactic| first
  | refine ⟨_, rfl, ?_⟩
  | refine ⟨rfl, ?_⟩
  | refine ⟨_, _, rfl, rfl, ?_⟩
  | refine ⟨_, _, rfl, ?_⟩
  | (with_reducible refine' ⟨log_small ?k1 ?k2, ?_⟩; (case k1 => omega); (case k2 => omega))
  | (refine' ⟨?k1, ?_⟩; (case k1 => ((with_reducible show (_ : Int) < _); omega)))
  | (refine' ⟨⟨?k1, ?k2⟩, ?_⟩; (case k1 => omega); (case k2 => omega))
  | (refine' ⟨⟨?k1, ?k2, ?k3, ?k4⟩, ?_⟩; (case k1 => omega); (case k2 => omega); (case k3 => omega); (case k4 => omega))
  | (refine' ⟨.inl ⟨?k1, ?k2⟩, ?_⟩; (case k1 => omega); (case k2 => omega))
  | (refine' ⟨.inr ⟨?k1, ?k2⟩, ?_⟩; (case k1 => omega); (case k2 => omega))
  | (refine' ⟨Evl.sz_of ?k1, ?_⟩; (case k1 => omega))
  | (refine' ⟨?k1, ?_⟩; (case k1 => ((with_reducible show (_ : Int) ≤ _); omega)))
  | refine ⟨⟨_, rfl⟩, ?_⟩
  | refine .inl ⟨_, rfl, ?_⟩ | refine .inr ⟨_, rfl, ?_⟩
  | refine iteT ?_ | refine iteF ?_)
local macro_rules | `(tactic| walk_at "go") => `(tactic| repeat (walk_at "go1"))
local macro_rules | `(tactic| walk_at "ans") => `(tactic| (intro Q' q'; walk_at "go"; (try rw [dec_int]); (try rw [dec_str]); exact q'))
local macro_rules | `(tactic| walk_at "hp") => `(tactic| first | assumption | exact upd_same | (refine' up_same ?e ?h; (case e => assumption); (case h => walk_at "hp")) | (refine' upd_at ?n ?h; (case n => walk_at "ne"); (case h => walk_at "hp")))
local macro_rules | `(tactic| walk_at "ne") => `(tactic| first | assumption | (apply Ne.symm; assumption))
local macro_rules | `(tactic| walk_at "at") => `(tactic| first | exact atI_nat (j := 0) rfl | exact atI_nat (j := 1) rfl | exact atI_nat (j := 2) rfl | exact atI_nat (j := 3) rfl | exact atI_nat (j := 4) rfl)
local macro_rules | `(tactic| walk_at "step1") => `(tactic| first
  | walk_at "go1"
  | (apply ixL_step; (case h => walk_at "hp"); (case a => walk_at "at"))
  | (apply ixT_step; (case h => walk_at "hp"); (case a => walk_at "at"))
  | (apply lenL_step; (case h => walk_at "hp")))
local macro_rules | `(tactic| walk_at "step") => `(tactic| repeat (walk_at "step1"))
section
variable {P : Program} {w : World} {K : PySem.W.Frag} {mg : Str → Option Value} {base : Heap} {A : Ads}
def spBillStands (A : Ads) : Sp := fun vs H Q _ => ∃ (H0 : Hp) (p g r wp sd o Kp Lg Ll R : Addr) (gts rts : List Addr) (nms : List Str) (gs : List (Str × Bool)) (rs : List RoadD) (W : List CarE) (ps rus : List V) (nr nw nk : Nat) (rows : List (Str × DOut)), vs = [.ref wp, .ref R, .ref Kp] ∧ nk < 900 ∧ nr ≤ 190 ∧
  St12 A.C_Watch A.C_Net H0 H p g r wp sd o Kp Lg Ll gts rts nms gs rs W ps nr nw nk ∧ H R = some (.lst rus) ∧ Paired (BillV H) rus rows ∧ RowsOk ⟨gs, rs⟩ W rows ∧ R ≠ Kp ∧
  ∀ (H' : Hp) (ps' : List V), St12 A.C_Watch A.C_Net H0 H' p g r wp sd o Kp Lg Ll gts rts nms gs rs W ps' nr nw (nk + 1) → Keep [Kp] H H' → Q (.bl true) H'
theorem ok_l_bill_stands (T : Txt K mg A) : DefOk P w K mg base CX0 8 A.l_bill_stands ["_law_watch", "_law_dues", "_law_kept"] (spBillStands A) := by
  obtain ⟨_, G_bill, B_bill, K_bill⟩ := ok_bill (P := P) (w := w) (base := base) T
  obtain ⟨_, G_total, B_total, K_total⟩ := ok_total (P := P) (w := w) (base := base) T
  obtain ⟨_, G_l_whole, B_l_whole, K_l_whole⟩ := ok_l_whole (P := P) (w := w) (base := base) T
  obtain ⟨fd, F⟩ := T.F_l_bill_stands
  refine ⟨fd, ?_, F.binds (ps := ["_law_watch", "_law_dues", "_law_kept"]) fun _ _ _ _ _ _ us hl => match us, hl with | [_, _, _], _ => rfl, F.kp⟩
  refine F.ok sc_l_bill_stands (fun vs H Q E h => ?_) (fun cdv A' outer s H vs Q E hr h => ?_)
  · obtain ⟨H0, p, g, r, wp, sd, o, Kp, Lg, Ll, R, gts, rts, nms, gs, rs, W, ps, rus, nr, nw, nk, rows, rfl, _⟩ := h
    rfl
  · obtain ⟨H0, p, g, r, wp, sd, o, Kp, Lg, Ll, R, gts, rts, nms, gs, rs, W, ps, rus, nr, nw, nk, rows, rfl, nk9, nr9, t, hR, hPR, hro, hRK, q⟩ := h
    refine ⟨_, (pss_cons (ps_set (i := 3) sc_l_bill_stands.nd rfl (by first | exact Or.inl rfl | exact Or.inr rfl) (pe_call G_bill (hr.mono (by decide)) rfl T.m_bill K_bill B_bill .nil passF (pa_cons (pv 0) pa_nil)))
      (pss_cons (ps_if (PW.pt (pw_or (pt_not (pt_val (pe_callB call_isi (by rfl) T.b_isinstance (by decide +kernel) (pa_cons (pv 3) (pa_cons (pe_bltn (v := .ty "list") (by rfl) T.b_list (by decide +kernel) rfl) pa_nil))))) (pw_or1 (pt_cmpR (op_neD hr.units) (pv 3) (pv 1) (nomark _))))) (pss_one (ps_ret pe_bl)) pss_nil)
      (pss_cons (ps_for PassesOwn.never rfl (pi_list (pv 3)) (pg_name (i := 4) sc_l_bill_stands.nd rfl (by first | exact Or.inl rfl | exact Or.inr rfl)) (pss_one (ps_if (PW.pt (pw_or (pt_not (pt_val (pe_callB call_isi (by rfl) T.b_isinstance (by decide +kernel) (pa_cons (pv 4) (pa_cons (pe_bltn (v := .ty "tuple") (by rfl) T.b_tuple (by decide +kernel) rfl) pa_nil))))) (pw_or1 (PW.pt (pw_and (pt_cmpR op_notN (pe_ix (r := rIxT K) ix_tup (pv 4) pe_int (fun _ _ => rfl)) pe_non (nomark _)) (pw_and1 (pt_not (pt_val (pe_call G_l_whole (hr.mono (by decide)) rfl T.m_l_whole K_l_whole B_l_whole .nil pass0 (pa_cons (pe_ix (r := rIxT K) ix_tup (pv 4) pe_int (fun _ _ => rfl)) pa_nil)))))))))) (pss_one (ps_ret pe_bl)) pss_nil)))
      (C8.pss_cut (ps_if (pt_cmpR op_eq (pe_op op_mod (pe_callB call_len_seq (by rfl) T.b_len PySem.boot_len (pa_cons (pv 2) pa_nil)) pe_int) pe_int (nomark _)) (pss_one (ps_expr (pe_bm PySem.F.plainAttrs_list PySem.F.slot_list_append PySem.F.type_list_append mt_append (pv 3) (pa_cons (pe_tup (pa_cons pe_str (pa_cons pe_int pa_nil))) pa_nil)))) pss_nil)
      (pss_cons (ps_expr (pe_bm PySem.F.plainAttrs_list PySem.F.slot_list_append PySem.F.type_list_append mt_append (pv 2) (pa_cons (pe_lst (pa_cons (pv 3) (pa_cons (pe_callTy call_list_of (by rfl) T.b_list (by decide +kernel) (pa_cons (pv 3) pa_nil)) pa_nil))) pa_nil)))
      (pss_cons (ps_set (i := 5) sc_l_bill_stands.nd rfl (by first | exact Or.inl rfl | exact Or.inr rfl) (pe_call G_total (hr.mono (by decide)) rfl T.m_total K_total B_total .nil passF (pa_cons (pv 0) pa_nil)))
      (pss_one (ps_ret (pe_and (pe_call G_l_whole (hr.mono (by decide)) rfl T.m_l_whole K_l_whole B_l_whole .nil pass0 (pa_cons (pv 5) pa_nil)) (pe_one (pe_cmpR op_eq (pv 5) (pe_callB (cr_sum rfl) (by rfl) T.b_sum (by decide +kernel) (pa_cons (pe_lc (own := [("_law_pair", 4)]) rfl sc_l_bill_stands.nd (pi_list (pv 1)) (blkOk_by (own := [("_law_pair", 4)]) (N := n_l_bill_stands) (sc := defScope s_l_bill_stands) (by decide +kernel)) (fun _ _ _ _ _ => (pg_name (i := 4) sc_l_bill_stands.nd rfl (by first | exact Or.inl rfl | exact Or.inr rfl))) (fun _ _ _ _ _ => (pts_one (pt_cmpR op_notN (pe_ix (r := rIxT K) ix_tup (pv 4) pe_int (fun _ _ => rfl)) pe_non (nomark _)))) (fun _ _ _ _ _ => (pe_ix (r := rIxT K) ix_tup (pv 4) pe_int (fun _ _ => rfl)))) pa_nil)) (nomark _)))))))))))), ?_⟩
    have nok := netOk_of (by decide) t.gok t.rok
    have gk : ∀ e ∈ W, GOk ⟨gs, rs⟩ (e.ss.mergeSort seenLe) := fun e he => (t.ws e he).gok t.nm t.gok t.rok
    walk_at "go"
    refine ⟨wp, p, g, r, sd, ⟨gs, rs⟩, W, rfl, t.wt, t.net, nok, gk, fun H1 L us rows1 s1 nL hL hP hro1 => ?_⟩
    obtain rfl := rows_one t.wt.nc hro1 hro
    walk_at "go"
    refine ⟨_, _, _, _, true, rfl, ClsV.ty _, TyX.base (TyOf.lst hL), kit_ty (by decide +kernel), ?_⟩
    walk_at "go"
    have okn : ∀ q ∈ rows1, PyData.strOk q.1 = true := fun q hq => by
      have : q.1 ∈ W.map (·.car) := hro1.pm.mem_iff.mp (List.mem_map.mpr ⟨q, hq, rfl⟩)
      obtain ⟨e, he, ec⟩ := List.mem_map.mp this
      rw [← ec]
      exact (t.wt.nm e he).2
    refine ⟨_, _, .lst (SqL.of hL) (bill_dp hP), .lst (SqL.of (s1 _ _ hR)) (bill_dp (bill_same s1 hPR)), (bill_ok okn).shaped (by decide), (bill_ok okn).shaped (by decide), ?_⟩
    rw [show PyData.eqv (.list (rows1.map fun q => PyData.tuple [.str q.1, owedD q.2])) (.list (rows1.map fun q => PyData.tuple [.str q.1, owedD q.2])) = true from (bill_ok okn).refl]
    walk_at "go"
    have ul := paired_len hP
    have rl : rows1.length ≤ 60 := by
      have a := hro1.pm.length_eq
      have c := t.wt.l1
      rw [List.length_map, List.length_map] at a
      omega
    refine ⟨⟨_, SqL.of hL⟩, for_list (K := K) (a := L) (xs := us) (fun i σ' H' => H' = H1 ∧ ∃ v4, σ' = [some (.ref wp), some (.ref R), some (.ref Kp), some (.ref L), v4, none]) ⟨rfl, none, rfl⟩ (fun i σ' H' _ ⟨e, _⟩ => by rw [e]; exact SqL.of hL) ?_ ?_⟩
    · rintro i x σ' H2 hi ⟨rfl, v4, rfl⟩
      obtain ⟨q2, hq, tt, rfl, ht⟩ := paired_getL hP hi
      dsimp only [gName, List.set]
      refine do_if1 (!true || ((match q2.2 with | .way _ => true | .no _ => false) && !true)) (an_or (fun Q' q' => ?_) fun _ => an_and (fun Q' q' => ?_) fun hb => fun Q' q' => ?_) (fun z => absurd z (by cases q2.2 <;> simp)) (fun _ => ?_)
      · walk_at "go"
        refine ⟨_, _, _, _, true, rfl, ClsV.ty _, TyX.base (TyOf.tup ht), kit_ty (by decide +kernel), ?_⟩
        walk_at "go"
        exact q'
      · walk_at "go"
        refine ⟨tt, _, _, _, rfl, rfl, SqT.of ht, atI_nat (j := 1) rfl, ?_⟩
        walk_at "go"
        obtain ⟨c, o⟩ := q2
        cases o <;> exact q'
      · obtain ⟨c, o⟩ := q2
        cases o with
        | no k => cases hb
        | way t2 =>
          walk_at "go"
          refine ⟨tt, _, _, _, rfl, rfl, SqT.of ht, atI_nat (j := 1) rfl, ?_⟩
          walk_at "go"
          exact q'
      · exact ⟨rfl, _, rfl⟩
    rintro σ' H2 ⟨rfl, v4, rfl⟩
    refine ⟨fun σ' H' => σ' = [some (.ref wp), some (.ref R), some (.ref Kp), some (.ref L), v4, none] ∧ Keep [L] H2 H' ∧ ∃ us2, H' L = some (.lst us2) ∧ Items H' us2 ∧ us2.length ≤ 61, ?_, ?_⟩
    · have i1 : Items H2 us := bill_items hP okn
      dsimp only
      refine do_if1 (decide ((ps.length : Int) % 3 = 1)) (fun Q' q' => ?_) (fun _ => ?_) (fun _ => ⟨rfl, Keep.of_same (Same.refl _), us, hL, i1, by omega⟩)
      · walk_at "go"
        refine ⟨Kp, ps, rfl, .inl (SqL.of (s1 _ _ t.kp)), ?_⟩
        walk_at "go"
        show Q' (decide (V.int ((ps.length : Int) % 3) = V.int 1)) _
        rw [dec_int]
        exact q'
      · walk_at "go"
        refine ⟨.inl ⟨rfl, _, SqL.of hL⟩, ?_⟩
        walk_at "go"
        refine ⟨(by show 2 ≤ sizeLine; decide), fun tz nz => ?_⟩
        have hLz := same_up (o := HO.tup [.str (Str.ofString "zz"), .int 5]) nz _ _ hL
        refine ⟨L, us, _, rfl, rfl, hLz, small1000 (by omega), ?_⟩
        refine ⟨rfl, (Keep.of_same (same_up nz)).trans keep1, _, upd_same, fun v hv => ?_, by rw [List.length_append]; show us.length + 1 ≤ 61; omega⟩
        have up : ∀ {x : Addr} {ts : List V}, (upd H2 tz (.tup [.str (Str.ofString "zz"), .int 5])) x = some (.tup ts) → (upd (upd H2 tz (.tup [.str (Str.ofString "zz"), .int 5])) L (.lst (us ++ [.ref tz]))) x = some (.tup ts) := fun {x ts} hx => by
          rw [upd_ne (fun z => by rw [z, hLz] at hx; cases hx)]
          exact hx
        rcases List.mem_append.mp hv with hv | hv
        · rcases i1 v hv with z | ⟨x, ts, ev, hx, hf⟩
          · exact .inl z
          · exact .inr ⟨x, ts, ev, up (same_up nz _ _ hx), hf⟩
        · rw [List.mem_singleton] at hv
          refine .inr ⟨tz, _, hv, up upd_same, fun y hy => ?_⟩
          simp only [List.mem_cons, List.not_mem_nil, or_false] at hy
          rcases hy with rfl | rfl
          · exact .inr (.inr ⟨_, rfl, by decide +kernel⟩)
          · exact .inr (.inl ⟨_, rfl⟩)
    · rintro σ' H3 ⟨rfl, k3, us2, hL3, hi3, l3⟩
      walk_at "go"
      have kA : Same H H3 := same_keep s1 k3 fun x hx => (by rw [List.mem_singleton] at hx; rw [hx]; exact nL)
      have hK3 := kA _ _ t.kp
      refine ⟨.inl ⟨rfl, _, SqL.of hK3⟩, ?_⟩
      walk_at "go"
      refine ⟨L, us2, rfl, .inl (SqL.of hL3), fun C nC => ?_⟩
      have sC := same_up (o := HO.lst us2) nC
      walk_at "go"
      refine ⟨(by show 2 ≤ sizeLine; decide), fun Pq nPq => ?_⟩
      have sQ := same_up (o := HO.lst [.ref L, .ref C]) nPq
      have s5 := (kA.trans sC).trans sQ
      have hC5 := sQ _ _ (upd_same (H := H3) (a := C) (o := HO.lst us2))
      have hL5 := sQ _ _ (sC _ _ hL3)
      have hQ5 := upd_same (H := upd H3 C (.lst us2)) (a := Pq) (o := HO.lst [.ref L, .ref C])
      have i5 : Items (upd (upd H3 C (.lst us2)) Pq (.lst [.ref L, .ref C])) us2 := fun v hv => by
        rcases hi3 v hv with z | ⟨x, ts, ev, hx, hf⟩
        · exact .inl z
        · exact .inr ⟨x, ts, ev, sQ _ _ (sC _ _ hx), hf⟩
      have nH : ∀ {x : Addr}, H x = none → x ∉ LM r Kp Ll gts rts := fun {x} hx m => by
        obtain ⟨xs, h2⟩ := t.lmL x m
        rw [hx] at h2
        cases h2
      have nC0 : H C = none := kA.free nC
      have nQ0 : H Pq = none := (kA.trans sC).free nPq
      generalize upd (upd H3 C (.lst us2)) Pq (.lst [.ref L, .ref C]) = H5 at s5 hC5 hL5 hQ5 i5
      have hK5 := s5 _ _ t.kp
      refine ⟨Kp, ps, _, rfl, rfl, hK5, small1000 (by have := t.kn; omega), ?_⟩
      have kf : Keep [Kp] H (upd H5 Kp (.lst (ps ++ [.ref Pq]))) := (Keep.of_same s5).trans keep1
      have nK : ∀ {x : Addr}, H x = none → x ≠ Kp := fun {x} hx z => by rw [z, t.kp] at hx; cases hx
      have t5 := t.keptMore (qs := [.ref Pq]) (c := 1) kf upd_same (fun v hv => by
        rw [List.mem_singleton] at hv
        refine ⟨Pq, L, C, us2, hv, by rw [upd_ne (nK nQ0)]; exact hQ5, by rw [upd_ne (nK nL)]; exact hL5, by rw [upd_ne (nK nC0)]; exact hC5, fun v hv => ?_, nH nQ0, nH nL, nH nC0⟩
        rcases i5 v hv with z | ⟨x, ts, ev, hx, hf⟩
        · exact .inl z
        · exact .inr ⟨x, ts, ev, by rw [upd_ne (fun z => by rw [z, hK5] at hx; cases hx)]; exact hx, hf⟩) (by simp)
      have hR6 : (upd H5 Kp (.lst (ps ++ [.ref Pq]))) R = some (.lst rus) := kf _ _ hR (by simpa using hRK)
      have hP6 : Paired (BillV (upd H5 Kp (.lst (ps ++ [.ref Pq])))) rus rows1 := L2.Paired.mapP hPR fun _ _ ⟨x, e, hx⟩ => ⟨x, e, kf _ _ hx (by intro m; rw [List.mem_singleton] at m; rw [m, t.kp] at hx; cases hx)⟩
      generalize upd H5 Kp (.lst (ps ++ [.ref Pq])) = H6 at kf t5 hR6 hP6
      walk_at "go"
      refine ⟨wp, p, g, r, sd, ⟨gs, rs⟩, W, rfl, t5.wt, t5.net, nok, gk, fun H7 rows2 s7 hro2 => ?_⟩
      obtain rfl := rows_one t.wt.nc hro2 hro1
      walk_at "go"
      have hR7 := s7 _ _ hR6
      have hP7 := bill_same s7 hP6
      have t7 := t5.same s7
      have k7 := kf.trans (Keep.of_same s7)
      refine ⟨⟨_, SqL.of hR7⟩, fun D nD => ?_⟩
      refine lc_list (K := K) (a := R) (xs := rus) (fun i H' => Same H7 H' ∧ ∃ ts : List Int, ts.length ≤ i ∧ ts.sum = sumRows (rows2.take i) ∧ H' D = some (.lst (ts.map V.int))) ⟨same_up nD, [], by simp, by simp [sumRows], upd_same⟩ (fun i H' _ ⟨sx, _⟩ => SqL.of (sx _ _ hR7)) ?_ ?_
      · rintro i x H8 hi ⟨s8, ts, tl, te, hD⟩
        obtain ⟨q2, hq, tt, rfl, ht⟩ := paired_getL hP7 hi
        have il := (List.getElem?_eq_some_iff.mp hi).1
        have hl7 := paired_len hP7
        have ht8 := s8 _ _ ht
        have htk : rows2.take (i + 1) = rows2.take i ++ [q2] := by rw [List.take_add_one, hq]; rfl
        refine ⟨rfl, ?_⟩
        walk_at "go"
        refine ⟨tt, _, _, _, rfl, rfl, SqT.of ht8, atI_nat (j := 1) rfl, ?_⟩
        walk_at "go"
        obtain ⟨c, o⟩ := q2
        cases o with
        | no k =>
          show Same H7 H8 ∧ _
          exact ⟨s8, ts, by omega, by rw [te, htk]; unfold sumRows; rw [List.filterMap_append, List.sum_append]; simp, hD⟩
        | way t2 =>
          walk_at "go"
          refine ⟨tt, _, _, _, rfl, rfl, SqT.of ht8, atI_nat (j := 1) rfl, ?_⟩
          refine ⟨ts.map V.int, hD, ?_, same_new s8 nD, ts ++ [t2.sum], ?_, ?_, ?_⟩
          · rw [List.length_map]
            exact Nat.lt_of_le_of_lt tl (Nat.lt_of_lt_of_le il (Nat.le_trans (by omega) (show 60 ≤ sizeLine by decide)))
          · rw [List.length_append]; show ts.length + 1 ≤ _; omega
          · rw [List.sum_append, te, htk]
            unfold sumRows
            rw [List.filterMap_append, List.sum_append]
            simp
          · rw [upd_same, List.map_append]
            rfl
      · rintro H8 ⟨s8, ts, tl, te, hD⟩
        rw [List.take_of_length_le (by have := paired_len hP7; omega)] at te
        walk_at "go"
        refine ⟨D, ts, rfl, SqL.of hD, ?_⟩
        rw [te]
        walk_at "go"
        rw [dec_int, decide_eq_true rfl]
        exact q H8 _ (t7.same s8) (k7.trans (Keep.of_same s8))
end
end Toll

set_option Elab.async false
set_option linter.all false
set_option maxRecDepth 100000
set_option maxHeartbeats 4000000
namespace Toll
open PySem L2
local macro_rules | `(tactic| walk_at "go1") => `(tactic| first
  | refine ⟨_, rfl, ?_⟩
  | refine ⟨rfl, ?_⟩
  | refine ⟨_, _, rfl, rfl, ?_⟩
  | refine ⟨_, _, rfl, ?_⟩
  | (with_reducible refine' ⟨log_small ?k1 ?k2, ?_⟩; (case k1 => omega); (case k2 => omega))
  | (refine' ⟨?k1, ?_⟩; (case k1 => ((with_reducible show (_ : Int) < _); omega)))
  | (refine' ⟨⟨?k1, ?k2⟩, ?_⟩; (case k1 => omega); (case k2 => omega))
  | (refine' ⟨⟨?k1, ?k2, ?k3, ?k4⟩, ?_⟩; (case k1 => omega); (case k2 => omega); (case k3 => omega); (case k4 => omega))
  | (refine' ⟨.inl ⟨?k1, ?k2⟩, ?_⟩; (case k1 => omega); (case k2 => omega))
  | (refine' ⟨.inr ⟨?k1, ?k2⟩, ?_⟩; (case k1 => omega); (case k2 => omega))
  | (refine' ⟨Evl.sz_of ?k1, ?_⟩; (case k1 => omega))
  | (refine' ⟨?k1, ?_⟩; (case k1 => ((with_reducible show (_ : Int) ≤ _); omega)))
  | refine ⟨⟨_, rfl⟩, ?_⟩
  | refine .inl ⟨_, rfl, ?_⟩ | refine .inr ⟨_, rfl, ?_⟩
  | refine iteT ?_ | refine iteF ?_)
local macro_rules | `(tactic| walk_at "go") => `(tactic| repeat (walk_at "go1"))
local macro_rules | `(tactic| walk_at "ans") => `(tactic| (intro Q' q'; walk_at "go"; (try rw [dec_int]); (try rw [dec_str]); exact q'))
local macro_rules | `(tactic| walk_at "hp") => `(tactic| first | assumption | exact upd_same | (refine' up_same ?e ?h; (case e => assumption); (case h => walk_at "hp")) | (refine' upd_at ?n ?h; (case n => walk_at "ne"); (case h => walk_at "hp")))
local macro_rules | `(tactic| walk_at "ne") => `(tactic| first | assumption | (apply Ne.symm; assumption))
local macro_rules | `(tactic| walk_at "at") => `(tactic| first | exact atI_nat (j := 0) rfl | exact atI_nat (j := 1) rfl | exact atI_nat (j := 2) rfl | exact atI_nat (j := 3) rfl | exact atI_nat (j := 4) rfl)
local macro_rules | `(tactic| walk_at "step1") => `(tactic| first
  | walk_at "go1"
  | (apply ixL_step; (case h => walk_at "hp"); (case a => walk_at "at"))
  | (apply ixT_step; (case h => walk_at "hp"); (case a => walk_at "at"))
  | (apply lenL_step; (case h => walk_at "hp")))
local macro_rules | `(tactic| walk_at "step") => `(tactic| repeat (walk_at "step1"))
section
variable {P : Program} {w : World} {K : PySem.W.Frag} {mg : Str → Option Value} {base : Heap} {A : Ads}
def spLegStands (A : Ads) : Sp := fun vs H Q _ => ∃ (p g r S Sd Ll : Addr) (us : List V) (ss : List (Int × Str)) (rts : List Addr) (gs : List (Str × Bool)) (rs : List RoadD) (sk : List (Key × V)), vs = [.ref p, .ref S, .ref Sd, .ref Ll] ∧ NetAt A.C_Net H p g r ⟨gs, rs⟩ ∧ H S = some (.lst us) ∧ Paired (SeenV H) us ss ∧ 1 ≤ ss.length ∧ ss.length ≤ 6 ∧ SeenOk gs 1 ss ∧ H Ll = some (.lst (rts.map V.ref)) ∧ RL H rts rs ∧ H Sd = some (.dK sk) ∧ (∀ nm, valV sk (Sum.inr nm) = (seesOf gs nm).map V.bl) ∧ GsOk gs ∧ rs.length ≤ 190 ∧ (∀ r ∈ rs, LineOk gs 1 r) ∧
  ∀ (H' : Hp), Same H H' → Q (.bl true) H'
theorem ok_l_leg_stands (T : Txt K mg A) : DefOk P w K mg base CX0 6 A.l_leg_stands ["_law_net_here", "_law_seen", "_law_sees", "_law_lines_here"] (spLegStands A) := by
  obtain ⟨_, G_l_costs, B_l_costs, K_l_costs⟩ := ok_l_costs (P := P) (w := w) (base := base) T
  obtain ⟨_, G_l_least, B_l_least, K_l_least⟩ := ok_l_least (P := P) (w := w) (base := base) T
  obtain ⟨_, G_leg, B_leg, K_leg⟩ := ok_leg (P := P) (w := w) (base := base) T
  obtain ⟨fd, F⟩ := T.F_l_leg_stands
  refine ⟨fd, ?_, F.binds (ps := ["_law_net_here", "_law_seen", "_law_sees", "_law_lines_here"]) fun _ _ _ _ _ _ us hl => match us, hl with | [_, _, _, _], _ => rfl, F.kp⟩
  refine F.ok sc_l_leg_stands (fun vs H Q E h => ?_) (fun cdv A' outer s H vs Q E hr h => ?_)
  · obtain ⟨p, g, r, S, Sd, Ll, us, ss, rts, gs, rs, sk, rfl, _⟩ := h
    rfl
  · obtain ⟨p, g, r, S, Sd, Ll, us, ss, rts, gs, rs, sk, rfl, hN, hS, hP, l1, l6, hso, hLl, hR, hSd, hsk, gok, h190, hok, q⟩ := h
    have ul := paired_len hP
    have nok := netOk_of (by decide) gok hok
    have hun : ∀ r ∈ rs, r.op = true → r.mi % 1 = 0 := fun r h _ => by
      obtain ⟨j, _, _, e⟩ := (hok r h).mi
      rw [e]
      exact Int.mul_emod_right 1 j
    refine ⟨_, (pss_cons (ps_if (pt_cmpR op_lt (pe_callB call_len_seq (by rfl) T.b_len PySem.boot_len (pa_cons (pv 1) pa_nil)) pe_int (nomark _)) (pss_one (ps_ret pe_bl)) pss_nil)
      (pss_cons (ps_set (i := 4) sc_l_leg_stands.nd rfl (by first | exact Or.inl rfl | exact Or.inr rfl) (pe_op op_sub (pe_ix (r := rIxT K) ix_tup (pe_ix (r := rIxL K) ix_list (pv 1) pe_int (fun _ _ => rfl)) pe_int (fun _ _ => rfl)) (pe_ix (r := rIxT K) ix_tup (pe_ix (r := rIxL K) ix_list (pv 1) pe_int (fun _ _ => rfl)) pe_int (fun _ _ => rfl))))
      (pss_cons (ps_set (i := 5) sc_l_leg_stands.nd rfl (by first | exact Or.inl rfl | exact Or.inr rfl) (pe_call G_l_least (hr.mono (by decide)) rfl T.m_l_least K_l_least B_l_least .nil pass0 (pa_cons (pe_call G_l_costs (hr.mono (by decide)) rfl T.m_l_costs K_l_costs B_l_costs .nil pass0 (pa_cons (pv 3) (pa_cons (pv 2) (pa_cons (pe_ix (r := rIxT K) ix_tup (pe_ix (r := rIxL K) ix_list (pv 1) pe_int (fun _ _ => rfl)) pe_int (fun _ _ => rfl)) (pa_cons (pv 4) (pa_cons pe_int pa_nil)))))) (pa_cons (pe_ix (r := rIxT K) ix_tup (pe_ix (r := rIxL K) ix_list (pv 1) pe_int (fun _ _ => rfl)) pe_int (fun _ _ => rfl)) pa_nil))))
      (pss_cons (ps_set (i := 6) sc_l_leg_stands.nd rfl (by first | exact Or.inl rfl | exact Or.inr rfl) (pe_call G_leg (hr.mono (by decide)) rfl T.m_leg K_leg B_leg .nil passF (pa_cons (pv 0) (pa_cons (pe_ix (r := rIxT K) ix_tup (pe_ix (r := rIxL K) ix_list (pv 1) pe_int (fun _ _ => rfl)) pe_int (fun _ _ => rfl)) (pa_cons (pe_ix (r := rIxT K) ix_tup (pe_ix (r := rIxL K) ix_list (pv 1) pe_int (fun _ _ => rfl)) pe_int (fun _ _ => rfl)) (pa_cons (pv 4) pa_nil))))))
      (pss_cons (ps_if (PW.pt (pw_or (pt_cmpR op_isN (pv 6) pe_non (nomark _)) (pw_or1 (pt_cmpR op_isN (pv 5) pe_non (nomark _))))) (pss_one (ps_ret (pe_and (pe_cmpR op_isN (pv 6) pe_non (nomark _)) (pe_one (pe_cmpR op_isN (pv 5) pe_non (nomark _)))))) pss_nil)
      (pss_one (ps_ret (pe_cmpR (op_eqD hr.units) (pe_slice sl_tup (pv 6) po_none (po_some pe_int)) (pv 5) (nomark _))))))))), ?_⟩
    dsimp only
    refine seq_if1 (decide ((us.length : Int) < 2)) (fun Q' q' => ?_) (fun hb => ?_) (fun hb => ?_)
    · walk_at "go"
      refine ⟨S, us, rfl, .inl (SqL.of hS), ?_⟩
      walk_at "go"
      exact q'
    · exact q H (Same.refl _)
    · have l2 : 2 ≤ ss.length := by have := of_decide_eq_false hb; omega
      obtain ⟨a, ha⟩ : ∃ q, ss[0]? = some q := ⟨_, List.getElem?_eq_getElem (by omega)⟩
      obtain ⟨b, hb⟩ : ∃ q, ss[1]? = some q := ⟨_, List.getElem?_eq_getElem (by omega)⟩
      obtain ⟨_, hva, ta, rfl, hta⟩ := paired_get hP ha
      obtain ⟨_, hvb, tb, rfl, htb⟩ := paired_get hP hb
      obtain ⟨most, rest, eg, m0, m1, r0, r1⟩ := hso.gap 0 a b ha hb
      obtain ⟨mN, rfl⟩ : ∃ m : Nat, most = (m : Int) := ⟨most.toNat, by omega⟩
      have hdiv : (b.1 - a.1) = (mN : Int) := by omega
      have ixa : atI us 0 = some (.ref ta) := atI_nat (j := 0) hva
      have ixb : atI us 1 = some (.ref tb) := atI_nat (j := 1) hvb
      obtain ⟨s1, s2x, s3, u', s4⟩ := hso.legs (by decide) hok 0 a b ha hb
      obtain ⟨na1, na2⟩ := hso.names gok a (List.mem_of_getElem? ha)
      obtain ⟨nb1, nb2⟩ := hso.names gok b (List.mem_of_getElem? hb)
      walk_at "go"
      refine ⟨S, us, _, _, rfl, rfl, SqL.of hS, ixb, ?_⟩
      walk_at "step"
      refine ⟨S, us, _, _, rfl, rfl, SqL.of hS, ixa, ?_⟩
      walk_at "step"
      refine ⟨S, us, _, _, rfl, rfl, SqL.of hS, ixa, ?_⟩
      walk_at "step"
      refine ⟨Ll, Sd, rts, ⟨gs, rs⟩, sk, a.2, mN, 1, (by
        show [_, _, _, V.int (b.1 - a.1), _] = _
        rw [hdiv]), hLl, hR, hSd, hsk, nok, h190, by omega, by decide, by decide, hok, fun H2 Lc ds s2 nLc hLc hdl hds => ?_⟩
      have hta2 := s2 _ _ hta
      have htb2 := s2 _ _ htb
      walk_at "go"
      refine ⟨S, us, _, _, rfl, rfl, SqL.of (s2 _ _ hS), ixb, ?_⟩
      walk_at "step"
      refine ⟨Lc, ds, ⟨gs, rs⟩, a.2, b.2, mN + 1, 1, rfl, hLc, hdl, by omega, hds, fun H3 bv o s3 hbv hlp => ?_⟩
      have s13 := s2.trans s3
      have hta3 := s13 _ _ hta
      have htb3 := s13 _ _ htb
      walk_at "go"
      refine ⟨S, us, _, _, rfl, rfl, SqL.of (s13 _ _ hS), ixa, ?_⟩
      walk_at "step"
      refine ⟨S, us, _, _, rfl, rfl, SqL.of (s13 _ _ hS), ixb, ?_⟩
      walk_at "step"
      have ll := least_leg (N := ⟨gs, rs⟩) (one := a.2) (w := b.2) (limit := b.1 - a.1) (rest := rest) (most := mN) nok (by decide) hun (by omega) r0 r1 hlp
      refine ⟨p, g, r, ⟨gs, rs⟩, a.2, b.2, b.1 - a.1, rfl, hN.same s13, nok, na1, na2, nb1, nb2, fun z => absurd z s1, fun _ z => absurd z s2x, fun _ _ z => (by omega), fun _ _ _ => ⟨u', s4, fun H4 s5 hno _ => ?_, fun H4 T R t m rl s5 nT nR nTR hT hRl hl4 hbd _ => ?_⟩⟩
      · have eo := ll.1.mpr hno
        subst eo
        have hbv : bv = .non := hbv
        subst hbv
        dsimp only [gName, List.set]
        refine seq_if1 (true || false) (an_or (fun Q' q' => ?_) (fun z => by cases z)) (fun _ => ?_) (fun z => by cases z)
        · walk_at "go"
          exact q'
        · walk_at "go"
          exact q _ (s13.trans s5)
      · cases o with
        | none => exact absurd hbd.2.1 (ll.1.mp rfl m t rl hbd.1)
        | some qo =>
          obtain ⟨c, k⟩ := qo
          obtain ⟨Tb, rfl, hTb⟩ := hbv
          obtain ⟨rfl, rfl⟩ := ll.2 c k rfl t m rl hbd
          dsimp only [gName, List.set]
          refine seq_if1 (false || false) (an_or (fun Q' q' => ?_) (fun _ => fun Q' q' => ?_)) (fun z => by cases z) (fun _ => ?_)
          · walk_at "go"
            exact q'
          · walk_at "go"
            exact q'
          · walk_at "go"
            refine ⟨T, _, rfl, SqT.of hT, show ¬ (HT.sIx 3 0 none = 0 ∧ HT.sIx 3 3 (some 2) = 3) by decide, fun X nX => ?_⟩
            have sX := same_up (o := HO.tup (cutV [V.int t, V.int (1 * (k : Int)), V.ref R] none (some 2))) nX
            have hX : (upd H4 X (HO.tup (cutV [V.int t, V.int (1 * (k : Int)), V.ref R] none (some 2)))) X = some (.tup [.int t, .int (k : Int)]) := by
              rw [upd_same, cut_to _ (by decide), Int.one_mul]
              rfl
            generalize upd H4 X (HO.tup (cutV [V.int t, V.int (1 * (k : Int)), V.ref R] none (some 2))) = H5 at sX hX
            have okD5 : okD 1 (.tuple [PyData.int t, PyData.int (k : Int)]) := okD_tup fun d hd => by
              simp only [List.mem_cons, List.not_mem_nil, or_false] at hd
              rcases hd with rfl | rfl <;> exact okD_int _
            walk_at "go"
            refine ⟨_, _, .tup (SqT.of hX) (.cons (.int _) (.cons (.int _) .nil)), .tup (SqT.of (sX _ _ (s5 _ _ hTb))) (.cons (.int _) (.cons (.int _) .nil)), okD5.shaped (by decide), okD5.shaped (by decide), ?_⟩
            rw [okD5.refl]
            exact q _ ((s13.trans s5).trans sX)
end
end Toll

set_option Elab.async false
set_option linter.all false
set_option maxRecDepth 100000
set_option maxHeartbeats 4000000
namespace Toll
open PySem L2
local macro_rules | `(tactic| walk_at "go1") => `(tactic| first
  | refine ⟨_, rfl, ?_⟩
  | refine ⟨rfl, ?_⟩
  | refine ⟨_, _, rfl, rfl, ?_⟩
  | refine ⟨_, _, rfl, ?_⟩
  | (with_reducible refine' ⟨log_small ?k1 ?k2, ?_⟩; (case k1 => omega); (case k2 => omega))
  | (refine' ⟨?k1, ?_⟩; (case k1 => ((with_reducible show (_ : Int) < _); omega)))
  | (refine' ⟨⟨?k1, ?k2⟩, ?_⟩; (case k1 => omega); (case k2 => omega))
  | (refine' ⟨⟨?k1, ?k2, ?k3, ?k4⟩, ?_⟩; (case k1 => omega); (case k2 => omega); (case k3 => omega); (case k4 => omega))
  | (refine' ⟨.inl ⟨?k1, ?k2⟩, ?_⟩; (case k1 => omega); (case k2 => omega))
  | (refine' ⟨.inr ⟨?k1, ?k2⟩, ?_⟩; (case k1 => omega); (case k2 => omega))
  | (refine' ⟨Evl.sz_of ?k1, ?_⟩; (case k1 => omega))
  | (refine' ⟨?k1, ?_⟩; (case k1 => ((with_reducible show (_ : Int) ≤ _); omega)))
  | refine ⟨⟨_, rfl⟩, ?_⟩
  | refine .inl ⟨_, rfl, ?_⟩ | refine .inr ⟨_, rfl, ?_⟩
  | refine iteT ?_ | refine iteF ?_)
local macro_rules | `(tactic| walk_at "go") => `(tactic| repeat (walk_at "go1"))
local macro_rules | `(tactic| walk_at "ans") => `(tactic| (intro Q' q'; walk_at "go"; (try rw [dec_int]); (try rw [dec_str]); exact q'))
local macro_rules | `(tactic| walk_at "hp") => `(tactic| first | assumption | exact upd_same | (refine' up_same ?e ?h; (case e => assumption); (case h => walk_at "hp")) | (refine' upd_at ?n ?h; (case n => walk_at "ne"); (case h => walk_at "hp")))
local macro_rules | `(tactic| walk_at "ne") => `(tactic| first | assumption | (apply Ne.symm; assumption))
local macro_rules | `(tactic| walk_at "at") => `(tactic| first | exact atI_nat (j := 0) rfl | exact atI_nat (j := 1) rfl | exact atI_nat (j := 2) rfl | exact atI_nat (j := 3) rfl | exact atI_nat (j := 4) rfl)
local macro_rules | `(tactic| walk_at "step1") => `(tactic| first
  | walk_at "go1"
  | (apply ixL_step; (case h => walk_at "hp"); (case a => walk_at "at"))
  | (apply ixT_step; (case h => walk_at "hp"); (case a => walk_at "at"))
  | (apply lenL_step; (case h => walk_at "hp")))
local macro_rules | `(tactic| walk_at "step") => `(tactic| repeat (walk_at "step1"))
section
variable {P : Program} {w : World} {K : PySem.W.Frag} {mg : Str → Option Value} {base : Heap} {A : Ads}
def DuesV (H : Hp) (v : V) (q : Str × DOut) : Prop := ∃ t d, v = .ref t ∧ H t = some (.tup [.str q.1, .ref d]) ∧ H d = some (.tup (dueVs q.2))
theorem dues_same {H H' : Hp} {us : List V} {rows : List (Str × DOut)} (s : Same H H') (h : Paired (DuesV H) us rows) : Paired (DuesV H') us rows := L2.Paired.mapP h fun _ _ ⟨t, d, e, ht, hd⟩ => ⟨t, d, e, s _ _ ht, s _ _ hd⟩
theorem dues_keep {H H' : Hp} {S : List Addr} {us : List V} {rows : List (Str × DOut)} (k : Keep S H H') (hS : ∀ x ∈ S, ∀ xs, H x ≠ some (.tup xs)) (h : Paired (DuesV H) us rows) : Paired (DuesV H') us rows := L2.Paired.mapP h fun _ _ ⟨t, d, e, ht, hd⟩ => ⟨t, d, e, k _ _ ht fun m => hS t m _ ht, k _ _ hd fun m => hS d m _ hd⟩
def spGuessesStand (A : Ads) : Sp := fun vs H Q _ => ∃ (H0 : Hp) (p g r wp sd o Kp Lg Ll D : Addr) (gts rts : List Addr) (nms : List Str) (gs : List (Str × Bool)) (rs : List RoadD) (W : List CarE) (ps dus : List V) (nr nw nk : Nat) (rows : List (Str × DOut)), vs = [.ref p, .ref o, .ref D, .ref Kp] ∧ nk < 300 ∧ nr ≤ 190 ∧ nw < 50 ∧
  St12 A.C_Watch A.C_Net H0 H p g r wp sd o Kp Lg Ll gts rts nms gs rs W ps nr nw nk ∧ H D = some (.lst dus) ∧ Paired (DuesV H) dus rows ∧ RowsOk ⟨gs, rs⟩ W rows ∧ D ≠ Kp ∧
  ∀ (H' : Hp) (ps' : List V), St12 A.C_Watch A.C_Net H0 H' p g r wp sd o Kp Lg Ll gts rts nms gs rs W ps' nr nw (nk + 2 * nw) → Keep [Kp] H H' → Q (.bl true) H'
theorem ok_l_guesses_stand (T : Txt K mg A) : DefOk P w K mg base CX0 7 A.l_guesses_stand ["_law_net_here", "_law_own", "_law_dues", "_law_kept"] (spGuessesStand A) := by
  obtain ⟨_, G_guess, B_guess, K_guess⟩ := ok_guess (P := P) (w := w) (base := base) T
  obtain ⟨fd, F⟩ := T.F_l_guesses_stand
  refine ⟨fd, ?_, F.binds (ps := ["_law_net_here", "_law_own", "_law_dues", "_law_kept"]) fun _ _ _ _ _ _ us hl => match us, hl with | [_, _, _, _], _ => rfl, F.kp⟩
  refine F.ok sc_l_guesses_stand (fun vs H Q E h => ?_) (fun cdv A' outer s H vs Q E hr h => ?_)
  · obtain ⟨H0, p, g, r, wp, sd, o, Kp, Lg, Ll, D, gts, rts, nms, gs, rs, W, ps, dus, nr, nw, nk, rows, rfl, _⟩ := h
    rfl
  · obtain ⟨H0, p, g, r, wp, sd, o, Kp, Lg, Ll, D, gts, rts, nms, gs, rs, W, ps, dus, nr, nw, nk, rows, rfl, nk9, nr9, nw9, t, hD, hPD, hro, hDK, q⟩ := h
    have dl := paired_len hPD
    have rl : rows.length = W.length := by
      have a := hro.pm.length_eq
      rw [List.length_map, List.length_map] at a
      exact a
    have hu := hu_of hr
    have nok := netOk_of (by decide) t.gok t.rok
    have hnm : ∀ q ∈ gs, PyData.strOk q.1 = true := fun q hq => (t.gok.nm q hq).2.1
    have hrn : ∀ r ∈ rs, PyData.strOk r.other = true := fun r hr => by
      obtain ⟨c, hc⟩ := (t.rok r hr).o2
      exact hnm _ hc
    refine ⟨_, (pss_cons (ps_for PassesOwn.never rfl (pi_range1 (by rfl) T.b_range (pa_cons (pe_callB call_len_seq (by rfl) T.b_len PySem.boot_len (pa_cons (pv 2) pa_nil)) pa_nil)) (pg_name (i := 4) sc_l_guesses_stand.nd rfl (by first | exact Or.inl rfl | exact Or.inr rfl)) (pss_cons (ps_set (i := 5) sc_l_guesses_stand.nd rfl (by first | exact Or.inl rfl | exact Or.inr rfl) (pe_call G_guess (hr.mono (by decide)) rfl T.m_guess K_guess B_guess .nil passF (pa_cons (pv 0) (pa_cons (pe_callB (cr_sortSeen hr.units) (by rfl) T.b_sorted (by decide +kernel) (pa_cons (pe_dget hu (pv 1) (pe_ix (r := rIxT K) ix_tup (pe_ix (r := rIxL K) ix_list (pv 2) (pv 4) (fun _ _ => rfl)) pe_int (fun _ _ => rfl)) (fun _ _ => rfl)) pa_nil)) pa_nil))))
      (pss_cons (ps_if (pt_cmpR (op_neD hr.units) (pe_slice sl_tupA (pv 5) po_none (po_some pe_int)) (pe_ix (r := rIxT K) ix_tup (pe_ix (r := rIxL K) ix_list (pv 2) (pv 4) (fun _ _ => rfl)) pe_int (fun _ _ => rfl)) (nomark _)) (pss_one (ps_ret pe_bl)) pss_nil)
      (pss_one (ps_if (pt_cmpR op_eq (pe_ix (r := rIxT K) ix_tup (pv 5) pe_int (fun _ _ => rfl)) pe_str (nomark _)) (pss_cons (ps_expr (pe_bm PySem.F.plainAttrs_list PySem.F.slot_list_append PySem.F.type_list_append mt_append (pv 3) (pa_cons (pe_lst (pa_cons (pe_ix (r := rIxT K) ix_tup (pv 5) pe_int (fun _ _ => rfl)) (pa_cons (pe_callTy call_list_of (by rfl) T.b_list (by decide +kernel) (pa_cons (pe_ix (r := rIxT K) ix_tup (pv 5) pe_int (fun _ _ => rfl)) pa_nil)) pa_nil))) pa_nil)))
      (pss_one (ps_expr (pe_bm PySem.F.plainAttrs_list PySem.F.slot_list_append PySem.F.type_list_append mt_append (pv 3) (pa_cons (pe_lst (pa_cons (pe_ix (r := rIxT K) ix_tup (pv 5) pe_int (fun _ _ => rfl)) (pa_cons (pe_callTy call_list_of (by rfl) T.b_list (by decide +kernel) (pa_cons (pe_ix (r := rIxT K) ix_tup (pv 5) pe_int (fun _ _ => rfl)) pa_nil)) pa_nil))) pa_nil))))) pss_nil)))))
      (pss_one (ps_ret pe_bl))), ?_⟩
    walk_at "go"
    refine ⟨D, dus, rfl, .inl (SqL.of hD), ?_⟩
    walk_at "go"
    have d62 : ((dus.length : Nat) : Int) < 2 ^ 62 := by have := t.wn; omega
    refine ⟨d62, for_range (lo := 0) (n := _) (fun i σ' H' => Keep [Kp] H H' ∧ ∃ v4 v5 ps', σ' = [some (.ref p), some (.ref o), some (.ref D), some (.ref Kp), v4, v5] ∧ St12 A.C_Watch A.C_Net H0 H' p g r wp sd o Kp Lg Ll gts rts nms gs rs W ps' nr nw (nk + 2 * i))
      ⟨Keep.of_same (Same.refl H), _, _, ps, rfl, t⟩ ?_ ?_⟩
    · rintro i σ' H1 hi ⟨k1, v4, v5, ps1, rfl, t1⟩
      rw [show (0 : Int) + (i : Int) = (i : Int) by omega]
      have tT : ∀ x ∈ [Kp], ∀ xs, H x ≠ some (.tup xs) := fun x hx xs z => by
        rw [List.mem_singleton] at hx
        rw [hx, t.kp] at z
        cases z
      have hD1 := k1 _ _ hD (by simpa using hDK)
      have hPD1 := dues_keep k1 tT hPD
      obtain ⟨q1, hq⟩ : ∃ q, rows[i]? = some q := ⟨_, List.getElem?_eq_getElem (by omega)⟩
      obtain ⟨_, hvd, tq, dq, rfl, htq, hdq⟩ := paired_get hPD1 hq
      obtain ⟨e, he, ec, hdue⟩ := hro.due q1 (List.mem_of_getElem? hq)
      obtain ⟨kvs, hO, hP, hK⟩ := t1.ow
      have hce := carOf_mem t1.wt.nc he
      rw [ec] at hce
      obtain ⟨a, us, hva, ha, hpa⟩ := own_some hP hce
      have gk : GOk ⟨gs, rs⟩ (e.ss.mergeSort seenLe) := (t1.ws e he).gok t1.nm t1.gok t1.rok
      obtain ⟨g1, g2, g3, g4, g5⟩ := gk
      have ixd : atI dus (i : Int) = some (.ref tq) := atI_nat hvd
      walk_at "go"
      refine ⟨D, dus, _, _, rfl, rfl, SqL.of hD1, ixd, ?_⟩
      walk_at "step"
      refine ⟨o, .ref a, rfl, (by have := DGet.k (k := Sum.inr q1.1) hO; rw [hva] at this; exact this), ?_⟩
      walk_at "go"
      refine ⟨a, us, e.ss, rfl, SqL.of ha, hpa, (by have := (t1.ws e he).len; omega), fun S us3 nS hPS => ?_⟩
      have sS := same_up (o := HO.lst us3) nS
      have hS : (upd H1 S (.lst us3)) S = some (.lst us3) := upd_same
      generalize upd H1 S (.lst us3) = H2 at sS hS
      walk_at "go"
      refine ⟨p, g, r, S, ⟨gs, rs⟩, us3, e.ss.mergeSort seenLe, rfl, t1.net.same sS, nok, hS, seen_same sS hPS, g2, g3, fun z => absurd z g1, fun _ z => (by rw [g4] at z; cases z), fun _ z => (by rw [g4] at z; cases z), fun _ _ => ⟨g5, fun H3 Tt k s3 nT hT hGP => ?_, fun H3 Tt R Lw ws legs q0 s3 nT nR nLw nRL hT hRl hLw hq0 hPs hGP => ?_⟩⟩
      · have s13 := sS.trans s3
        have eo := hdue.uniq hGP.due
        have hdq3 := s13 _ _ hdq
        have htq3 := s13 _ _ htq
        rw [eo] at hdq3
        dsimp only [gName, List.set]
        refine seq_if1 false (fun Q' q' => ?_) (fun z => by cases z) (fun _ => ?_)
        · walk_at "go"
          refine ⟨Tt, _, rfl, SqT.of hT, fun _ => ?_, fun z => absurd (show HT.sIx 2 0 none = 0 ∧ HT.sIx 2 2 (some 2) = 2 by decide) z⟩
          walk_at "go"
          refine ⟨D, dus, _, _, rfl, rfl, SqL.of (s13 _ _ hD1), ixd, ?_⟩
          walk_at "step"
          refine ⟨_, _, dueD_dp (DOut.no k) hT, dueD_dp _ hdq3, (dueD_ok _).shaped (by decide), (dueD_ok _).shaped (by decide), ?_⟩
          rw [show PyData.eqv (dueD (DOut.no k)) (dueD (DOut.of (GOut.no k))) = true from (dueD_ok (DOut.no k)).refl]
          exact ⟨_, rfl, q'⟩
        · refine do_if1 false (fun Q' q' => ?_) (fun z => by cases z) (fun _ => ?_)
          · walk_at "step"
            rw [show decide (V.str (Str.ofString "none") = V.str (Str.ofString "way")) = false by decide +kernel]
            exact q'
          · exact ⟨k1.trans (Keep.of_same s13), _, _, ps1, rfl, (t1.same s13).up (Nat.le_refl _) (Nat.le_refl _) (by omega)⟩
      · have s13 := sS.trans s3
        have eo := hdue.uniq hGP.due
        have hdq3 := s13 _ _ hdq
        have htq3 := s13 _ _ htq
        rw [eo] at hdq3
        dsimp only [gName, List.set]
        refine seqS_if1 false (fun Q' q' => ?_) (fun z => by cases z) (fun _ H3b s33 => ?_)
        · walk_at "go"
          refine ⟨Tt, _, rfl, SqT.of hT, fun z => absurd z (show ¬ (HT.sIx 4 0 none = 0 ∧ HT.sIx 4 4 (some 2) = 4) by decide), fun _ X nX => ?_⟩
          have sX := same_up (o := HO.tup (cutV [V.str "way", V.int (tollsOf legs), V.ref R, V.ref Lw] none (some 2))) nX
          have hX : (upd H3 X (HO.tup (cutV [V.str "way", V.int (tollsOf legs), V.ref R, V.ref Lw] none (some 2)))) X = some (.tup (dueVs (DOut.way (legs.map (·.1))))) := by
            rw [upd_same, cut_to _ (by decide)]
            rfl
          generalize upd H3 X (HO.tup (cutV [V.str "way", V.int (tollsOf legs), V.ref R, V.ref Lw] none (some 2))) = H4 at sX hX
          have htq4 := sX _ _ htq3
          walk_at "go"
          refine ⟨D, dus, _, _, rfl, rfl, SqL.of (sX _ _ (s13 _ _ hD1)), ixd, ?_⟩
          walk_at "step"
          refine ⟨_, _, dueD_dp (DOut.way (legs.map (·.1))) hX, dueD_dp _ (sX _ _ hdq3), (dueD_ok _).shaped (by decide), (dueD_ok _).shaped (by decide), ?_⟩
          rw [show PyData.eqv (dueD (DOut.way (legs.map (·.1)))) (dueD (DOut.of (GOut.way legs))) = true from (dueD_ok (DOut.way (legs.map (·.1)))).refl]
          exact ⟨_, rfl, q' _ sX⟩
        · replace hT := s33 _ _ hT
          replace hRl := s33 _ _ hRl
          replace hLw := s33 _ _ hLw
          replace hPs := pass_same s33 hPs
          replace s13 := s13.trans s33
          refine do_if1 true (fun Q' q' => ?_) (fun _ => ?_) (fun z => by cases z)
          · walk_at "step"
            rw [show decide (V.str (Str.ofString "way") = V.str (Str.ofString "way")) = true by decide +kernel]
            exact q'
          · have t3 := t1.same s13
            have nH : ∀ {H' : Hp} {ps' : List V} {x : Addr} {n : Nat}, St12 A.C_Watch A.C_Net H0 H' p g r wp sd o Kp Lg Ll gts rts nms gs rs W ps' nr nw n → H' x = none → x ∉ LM r Kp Ll gts rts := fun {H' ps' x n} t hx m => by
              obtain ⟨xs, h2⟩ := t.lmL x m
              rw [hx] at h2
              cases h2
            have kl := t3.kn
            have wl := t3.wn
            have hK3 := t3.kp
            have iR : Items H3b ((roadsAll legs).map V.int) := fun v hv => by
              obtain ⟨z, _, rfl⟩ := List.mem_map.mp hv
              exact .inl ⟨z, rfl⟩
            have iL : Items H3b ws := fun v hv => by
              obtain ⟨j, hj⟩ := List.getElem?_of_mem hv
              obtain ⟨q5, hq5, tt, ett, htt⟩ := paired_getL hPs hj
              refine .inr ⟨tt, _, ett, htt, fun y hy => ?_⟩
              simp only [List.mem_cons, List.not_mem_nil, or_false] at hy
              rcases hy with rfl | rfl
              · refine .inr (.inr ⟨_, rfl, ?_⟩)
                rcases List.mem_cons.mp (List.mem_of_getElem? hq5) with z | z
                · rw [z]
                  exact (g3 q0 (List.mem_of_getElem? hq0)).2
                · exact passU_names (N := ⟨gs, rs⟩) (nmOk := fun x => PyData.strOk x = true) hrn (fun q hq => (g3 q hq).2) hGP.2 _ q5 z
              · exact .inr (.inl ⟨_, rfl⟩)
            walk_at "go"
            refine ⟨.inl ⟨rfl, _, SqL.of hK3⟩, ?_⟩
            walk_at "step"
            refine ⟨R, _, rfl, .inl (SqL.of hRl), fun C nC => ?_⟩
            have sC := same_up (o := HO.lst ((roadsAll legs).map V.int)) nC
            have hC4 := upd_same (H := H3b) (a := C) (o := HO.lst ((roadsAll legs).map V.int))
            have nCL := nH t3 nC
            generalize upd H3b C (.lst ((roadsAll legs).map V.int)) = H4 at sC hC4
            have t4 := t3.same sC
            walk_at "go"
            refine ⟨(by show 2 ≤ sizeLine; decide), fun Pq nPq => ?_⟩
            have sQ := same_up (o := HO.lst [.ref R, .ref C]) nPq
            have hQ5 := upd_same (H := H4) (a := Pq) (o := HO.lst [.ref R, .ref C])
            have nQL := nH t4 nPq
            generalize upd H4 Pq (.lst [.ref R, .ref C]) = H5 at sQ hQ5
            have t5 := t4.same sQ
            have s35 := sC.trans sQ
            have hK5 := t5.kp
            refine ⟨Kp, ps1, _, rfl, rfl, hK5, small1000 (by omega), ?_⟩
            have nLM : ∀ {x : Addr}, x ∉ LM r Kp Ll gts rts → x ≠ Kp := fun {x} hx z => hx (by rw [z]; unfold LM; simp)
            have nRL2 : R ∉ LM r Kp Ll gts rts := nH (t1.same sS) nR
            have nLL2 : Lw ∉ LM r Kp Ll gts rts := nH (t1.same sS) nLw
            have kA : Keep [Kp] H5 (upd H5 Kp (.lst (ps1 ++ [.ref Pq]))) := keep1
            have kT5 : ∀ {x : Addr} {xs : List V}, H5 x = some (.tup xs) → x ∉ [Kp] := fun {x xs} h m => by
              rw [List.mem_singleton] at m
              rw [m, hK5] at h
              cases h
            have t6 := t5.keptMore (qs := [.ref Pq]) (c := 1) kA upd_same (fun v hv => by
              rw [List.mem_singleton] at hv
              refine ⟨Pq, R, C, _, hv, kA _ _ hQ5 (by simpa using nLM nQL), kA _ _ (s35 _ _ hRl) (by simpa using nLM nRL2), kA _ _ (sQ _ _ hC4) (by simpa using nLM nCL), fun v hv => ?_, nQL, nRL2, nCL⟩
              rcases iR v hv with z | ⟨x, ts, ev, hx, hf⟩
              · exact .inl z
              · exact .inr ⟨x, ts, ev, kA _ _ (s35 _ _ hx) (kT5 (s35 _ _ hx)), hf⟩) (by simp)
            have hT6 := kA _ _ (s35 _ _ hT) (kT5 (s35 _ _ hT))
            have hL6 := kA _ _ (s35 _ _ hLw) (by simpa using nLM nLL2)
            have iL6 : Items (upd H5 Kp (.lst (ps1 ++ [.ref Pq]))) ws := fun v hv => by
              rcases iL v hv with z | ⟨x, ts, ev, hx, hf⟩
              · exact .inl z
              · exact .inr ⟨x, ts, ev, kA _ _ (s35 _ _ hx) (kT5 (s35 _ _ hx)), hf⟩
            have kB : Keep [Kp] H3b (upd H5 Kp (.lst (ps1 ++ [.ref Pq]))) := (Keep.of_same s35).trans kA
            clear hT
            generalize upd H5 Kp (.lst (ps1 ++ [.ref Pq])) = H6 at kA t6 hT6 hL6 iL6 kB
            have hK6 := t6.kp
            walk_at "go"
            refine ⟨.inl ⟨rfl, _, SqL.of hK6⟩, ?_⟩
            walk_at "step"
            refine ⟨Lw, _, rfl, .inl (SqL.of hL6), fun C2 nC2 => ?_⟩
            have sC2 := same_up (o := HO.lst ws) nC2
            have hC7 := upd_same (H := H6) (a := C2) (o := HO.lst ws)
            have nCL2 := nH t6 nC2
            generalize upd H6 C2 (.lst ws) = H7 at sC2 hC7
            have t7 := t6.same sC2
            walk_at "go"
            refine ⟨(by show 2 ≤ sizeLine; decide), fun Pq2 nPq2 => ?_⟩
            have sQ2 := same_up (o := HO.lst [.ref Lw, .ref C2]) nPq2
            have hQ8 := upd_same (H := H7) (a := Pq2) (o := HO.lst [.ref Lw, .ref C2])
            have nQL2 := nH t7 nPq2
            generalize upd H7 Pq2 (.lst [.ref Lw, .ref C2]) = H8 at sQ2 hQ8
            have t8 := t7.same sQ2
            have s68 := sC2.trans sQ2
            have hK8 := t8.kp
            refine ⟨Kp, _, _, rfl, rfl, hK8, small1000 (by rw [List.length_append]; show ps1.length + 1 ≤ _; omega), ?_⟩
            have kC : Keep [Kp] H8 (upd H8 Kp (.lst ((ps1 ++ [.ref Pq]) ++ [.ref Pq2]))) := keep1
            have kT8 : ∀ {x : Addr} {xs : List V}, H8 x = some (.tup xs) → x ∉ [Kp] := fun {x xs} h m => by
              rw [List.mem_singleton] at m
              rw [m, hK8] at h
              cases h
            have t9 := t8.keptMore (qs := [.ref Pq2]) (c := 1) kC upd_same (fun v hv => by
              rw [List.mem_singleton] at hv
              refine ⟨Pq2, Lw, C2, _, hv, kC _ _ hQ8 (by simpa using nLM nQL2), kC _ _ (s68 _ _ hL6) (by simpa using nLM nLL2), kC _ _ (sQ2 _ _ hC7) (by simpa using nLM nCL2), fun v hv => ?_, nQL2, nLL2, nCL2⟩
              rcases iL6 v hv with z | ⟨x, ts, ev, hx, hf⟩
              · exact .inl z
              · exact .inr ⟨x, ts, ev, kC _ _ (s68 _ _ hx) (kT8 (s68 _ _ hx)), hf⟩) (by simp)
            exact ⟨((k1.trans (Keep.of_same s13)).trans kB).trans ((Keep.of_same s68).trans kC), _, _, _, rfl, t9.up (Nat.le_refl _) (Nat.le_refl _) (by omega)⟩
    · rintro σ' H1 ⟨k1, v4, v5, ps1, rfl, t1⟩
      walk_at "go"
      exact q H1 ps1 (t1.up (Nat.le_refl _) (Nat.le_refl _) (by have := t1.wn; omega)) k1
end
end Toll

set_option Elab.async false
set_option linter.all false
set_option maxRecDepth 100000
set_option maxHeartbeats 4000000
namespace Toll
open PySem L2
local macro_rules | `(tactic| walk_at "go1") => `(tactic| first
  | refine ⟨_, rfl, ?_⟩
  | refine ⟨rfl, ?_⟩
  | refine ⟨_, _, rfl, rfl, ?_⟩
  | refine ⟨_, _, rfl, ?_⟩
  | (with_reducible refine' ⟨log_small ?k1 ?k2, ?_⟩; (case k1 => omega); (case k2 => omega))
  | (refine' ⟨?k1, ?_⟩; (case k1 => ((with_reducible show (_ : Int) < _); omega)))
  | (refine' ⟨⟨?k1, ?k2⟩, ?_⟩; (case k1 => omega); (case k2 => omega))
  | (refine' ⟨⟨?k1, ?k2, ?k3, ?k4⟩, ?_⟩; (case k1 => omega); (case k2 => omega); (case k3 => omega); (case k4 => omega))
  | (refine' ⟨.inl ⟨?k1, ?k2⟩, ?_⟩; (case k1 => omega); (case k2 => omega))
  | (refine' ⟨.inr ⟨?k1, ?k2⟩, ?_⟩; (case k1 => omega); (case k2 => omega))
  | (refine' ⟨Evl.sz_of ?k1, ?_⟩; (case k1 => omega))
  | (refine' ⟨?k1, ?_⟩; (case k1 => ((with_reducible show (_ : Int) ≤ _); omega)))
  | refine ⟨⟨_, rfl⟩, ?_⟩
  | refine .inl ⟨_, rfl, ?_⟩ | refine .inr ⟨_, rfl, ?_⟩
  | refine iteT ?_ | refine iteF ?_)
local macro_rules | `(tactic| walk_at "go") => `(tactic| repeat (walk_at "go1"))
local macro_rules | `(tactic| walk_at "ans") => `(tactic| (intro Q' q'; walk_at "go"; (try rw [dec_int]); (try rw [dec_str]); exact q'))
local macro_rules | `(tactic| walk_at "hp") => `(tactic| first | assumption | exact upd_same | (refine' up_same ?e ?h; (case e => assumption); (case h => walk_at "hp")) | (refine' upd_at ?n ?h; (case n => walk_at "ne"); (case h => walk_at "hp")))
local macro_rules | `(tactic| walk_at "ne") => `(tactic| first | assumption | (apply Ne.symm; assumption))
local macro_rules | `(tactic| walk_at "at") => `(tactic| first | exact atI_nat (j := 0) rfl | exact atI_nat (j := 1) rfl | exact atI_nat (j := 2) rfl | exact atI_nat (j := 3) rfl | exact atI_nat (j := 4) rfl)
local macro_rules | `(tactic| walk_at "step1") => `(tactic| first
  | walk_at "go1"
  | (apply ixL_step; (case h => walk_at "hp"); (case a => walk_at "at"))
  | (apply ixT_step; (case h => walk_at "hp"); (case a => walk_at "at"))
  | (apply lenL_step; (case h => walk_at "hp")))
local macro_rules | `(tactic| walk_at "step") => `(tactic| repeat (walk_at "step1"))
section
variable {P : Program} {w : World} {K : PySem.W.Frag} {mg : Str → Option Value} {base : Heap} {A : Ads}
def spStands12 (A : Ads) : Sp := fun vs H Q _ => ∃ (H0 : Hp) (p g r wp sd o Kp Lg Ll : Addr) (gts rts : List Addr) (nms : List Str) (gs : List (Str × Bool)) (rs : List RoadD) (W : List CarE) (ps : List V) (nr nw nk : Nat), vs = [.ref p, .ref wp, .ref o, .ref Lg, .ref Ll, .ref Kp] ∧ nk < 250 ∧ nr ≤ 190 ∧ nw < 20 ∧
  St12 A.C_Watch A.C_Net H0 H p g r wp sd o Kp Lg Ll gts rts nms gs rs W ps nr nw nk ∧
  ∀ (H' : Hp) (ps' : List V), St12 A.C_Watch A.C_Net H0 H' p g r wp sd o Kp Lg Ll gts rts nms gs rs W ps' nr nw (nk + 2 * nw + 2) → Q (.bl true) H'
theorem ok_l_stands (T : Txt K mg A) : DefOk P w K mg base CX0 9 A.l_stands ["_law_net_here", "_law_watch", "_law_own", "_law_gates_here", "_law_lines_here", "_law_kept"] (spStands12 A) := by
  obtain ⟨_, G_l_due, B_l_due, K_l_due⟩ := ok_l_due (P := P) (w := w) (base := base) T
  obtain ⟨_, G_l_bill_stands, B_l_bill_stands, K_l_bill_stands⟩ := ok_l_bill_stands (P := P) (w := w) (base := base) T
  obtain ⟨_, G_l_leg_stands, B_l_leg_stands, K_l_leg_stands⟩ := ok_l_leg_stands (P := P) (w := w) (base := base) T
  obtain ⟨_, G_l_guesses_stand, B_l_guesses_stand, K_l_guesses_stand⟩ := ok_l_guesses_stand (P := P) (w := w) (base := base) T
  obtain ⟨fd, F⟩ := T.F_l_stands
  refine ⟨fd, ?_, F.binds (ps := ["_law_net_here", "_law_watch", "_law_own", "_law_gates_here", "_law_lines_here", "_law_kept"]) fun _ _ _ _ _ _ us hl => match us, hl with | [_, _, _, _, _, _], _ => rfl, F.kp⟩
  refine F.ok sc_l_stands (fun vs H Q E h => ?_) (fun cdv A' outer s H vs Q E hr h => ?_)
  · obtain ⟨H0, p, g, r, wp, sd, o, Kp, Lg, Ll, gts, rts, nms, gs, rs, W, ps, nr, nw, nk, rfl, _⟩ := h
    rfl
  · obtain ⟨H0, p, g, r, wp, sd, o, Kp, Lg, Ll, gts, rts, nms, gs, rs, W, ps, nr, nw, nk, rfl, nk9, nr9, nw9, t, q⟩ := h
    have hu := hu_of hr
    have nok := netOk_of (by decide) t.gok t.rok
    have gok := t.gok
    have gl := paired_len t.gl
    have gl60 := gok.l60
    have wl := t.wn
    refine ⟨_, (pss_cons (ps_set (i := 6) sc_l_stands.nd rfl (by first | exact Or.inl rfl | exact Or.inr rfl) pe_dnewK)
      (pss_cons (ps_for PassesOwn.never rfl (pi_list (pv 3)) (pg_name (i := 7) sc_l_stands.nd rfl (by first | exact Or.inl rfl | exact Or.inr rfl)) (pss_one (ps_dput hu (pv 6) (pe_ix (r := rIxL K) ix_list (pv 7) pe_int (fun _ _ => rfl)) (pe_ix (r := rIxL K) ix_list (pv 7) pe_int (fun _ _ => rfl)) rfl)))
      (pss_cons (ps_setLc (i := 8) (own := [("_law_car", 11)]) rfl sc_l_stands.nd rfl rfl (sw_true rfl rfl rfl (by decide +kernel)) (pi_list (pe_callB (call_sortedD rfl) (by rfl) T.b_sorted (by decide +kernel) (pa_cons (pv 2) pa_nil))) (blkOk_by (own := [("_law_car", 11)]) (N := n_l_stands) (sc := defScope s_l_stands) (by decide +kernel)) (fun _ _ _ _ _ => (pg_name (i := 11) sc_l_stands.nd rfl (by first | exact Or.inl rfl | exact Or.inr rfl))) (fun _ _ _ _ _ => pts_nil) (fun _ _ _ _ _ => (pe_tup (pa_cons (pv 11) (pa_cons (pe_call G_l_due (hr.mono (by decide)) rfl T.m_l_due K_l_due B_l_due .nil pass0 (pa_cons (pe_callB (cr_sortSeenK (K := K) (by rfl) hr.units) (by rfl) T.b_sorted (by decide +kernel) (pa_cons (pe_dget hu (pv 2) (pv 11) (fun _ _ => rfl)) pa_nil)) (pa_cons (pv 4) (pa_cons (pv 6) pa_nil)))) pa_nil)))))
      (pss_cons (ps_setLc (i := 9) (own := [("_law_due_here", 12)]) rfl sc_l_stands.nd rfl rfl (sw_true rfl rfl rfl (by decide +kernel)) (pi_list (pv 8)) (blkOk_by (own := [("_law_due_here", 12)]) (N := n_l_stands) (sc := defScope s_l_stands) (by decide +kernel)) (fun _ _ _ _ _ => (pg_name (i := 12) sc_l_stands.nd rfl (by first | exact Or.inl rfl | exact Or.inr rfl))) (fun _ _ _ _ _ => pts_nil) (fun _ _ _ _ _ => (pe_tup (pa_cons (pe_ix (r := rIxT K) ix_tup (pv 12) pe_int (fun _ _ => rfl)) (pa_cons (pe_ix (r := rIxL K) ix_list (pe_lst (pa_cons (pe_ix (r := rIxT K) ix_tup (pe_ix (r := rIxT K) ix_tup (pv 12) pe_int (fun _ _ => rfl)) pe_int (fun _ _ => rfl)) (pa_cons pe_non pa_nil))) (pe_callTy (T := "int") call_int1 (by rfl) T.b_int (by decide +kernel) (pa_cons (pe_cmpR op_eq (pe_ix (r := rIxT K) ix_tup (pe_ix (r := rIxT K) ix_tup (pv 12) pe_int (fun _ _ => rfl)) pe_int (fun _ _ => rfl)) pe_str (nomark _)) pa_nil)) (fun _ _ => rfl)) pa_nil)))))
      (pss_cons (ps_set (i := 10) sc_l_stands.nd rfl (by first | exact Or.inl rfl | exact Or.inr rfl) (pe_cmpR op_eq (pe_op op_mod (pe_callB call_len_seq (by rfl) T.b_len PySem.boot_len (pa_cons (pv 5) pa_nil)) pe_int) pe_int (nomark _)))
      (C8.pss_cut (ps_if (PW.pt (pw_and (pt_val (pv 10)) (pw_and1 (pt_not (pt_val (pe_call G_l_bill_stands (hr.mono (by decide)) rfl T.m_l_bill_stands K_l_bill_stands B_l_bill_stands .nil pass0 (pa_cons (pv 1) (pa_cons (pv 9) (pa_cons (pv 5) pa_nil))))))))) (pss_one (ps_ret pe_bl)) pss_nil)
      (pss_cons (ps_lock (ps_for PassesOwn.never rfl (pi_keys (pv 2)) (pg_name (i := 11) sc_l_stands.nd rfl (by first | exact Or.inl rfl | exact Or.inr rfl)) (pss_one (ps_if (pt_not (pt_val (pe_call G_l_leg_stands (hr.mono (by decide)) rfl T.m_l_leg_stands K_l_leg_stands B_l_leg_stands .nil pass0 (pa_cons (pv 0) (pa_cons (pe_callB (cr_sortSeen hr.units) (by rfl) T.b_sorted (by decide +kernel) (pa_cons (pe_dget hu (pv 2) (pv 11) (fun _ _ => rfl)) pa_nil)) (pa_cons (pv 6) (pa_cons (pv 4) pa_nil))))))) (pss_one (ps_ret pe_bl)) pss_nil))))
      (pss_one (ps_ret (pe_and (pe_call G_l_guesses_stand (hr.mono (by decide)) rfl T.m_l_guesses_stand K_l_guesses_stand B_l_guesses_stand .nil pass0 (pa_cons (pv 0) (pa_cons (pv 2) (pa_cons (pv 8) (pa_cons (pv 5) pa_nil))))) (pe_one (pe_call G_l_bill_stands (hr.mono (by decide)) rfl T.m_l_bill_stands K_l_bill_stands B_l_bill_stands .nil pass0 (pa_cons (pv 1) (pa_cons (pv 9) (pa_cons (pv 5) pa_nil))))))))))))))), ?_⟩
    walk_at "go"
    intro Sd nSd
    have s5 := same_up (o := HO.dK []) nSd
    have hSd : (upd H Sd (.dK [])) Sd = some (.dK []) := upd_same
    have hLg5 := s5 _ _ t.lg
    have hG5 := t.gl.same s5
    generalize upd H Sd (.dK []) = H5 at s5 hSd hLg5 hG5
    walk_at "go"
    refine ⟨⟨_, SqL.of hLg5⟩, for_list (K := K) (a := Lg) (xs := gts.map V.ref) (fun i σ' H' => Keep [Sd] H5 H' ∧ (∃ sk, H' Sd = some (.dK sk) ∧ (∀ nm, valV sk (Sum.inr nm) = (seesOf (gs.take i) nm).map V.bl) ∧ sk.length ≤ i) ∧ ∃ v7, σ' = [some (.ref p), some (.ref wp), some (.ref o), some (.ref Lg), some (.ref Ll), some (.ref Kp), some (.ref Sd), v7, none, none, none, none, none])
      ⟨Keep.of_same (Same.refl _), ⟨[], hSd, fun nm => rfl, Nat.zero_le _⟩, none, ?_⟩ (fun i σ' H' _ ⟨k, _⟩ => SqL.of (k _ _ hLg5 (by have := ne_of hLg5 hSd (by intro z; cases z); simpa using this))) ?_ ?_⟩
    · rfl
    · rintro i x σ' H' hi ⟨k6, ⟨sk, hsk, hsv, hsl⟩, v7, rfl⟩
      obtain ⟨tg, htg, rfl⟩ := map_ref_get hi
      obtain ⟨gq, hgq, hgl⟩ := paired_getL hG5 htg
      have il : i < gs.length := (List.getElem?_eq_some_iff.mp hgq).1
      have hgl6 : H' tg = some (.lst [.str gq.1, .bl gq.2]) := k6 _ _ hgl (by have := ne_of hgl hSd (by intro z; cases z); simpa using this)
      have hno := sees_new gok.nd hgq
      walk_at "step"
      refine ⟨Sd, _, rfl, DPut.k (k := Sum.inr gq.1) hsk (Evl.sz_lt (by omega)), ?_⟩
      refine ⟨fun x o hx hm => ?_, ⟨_, upd_same, fun nm => ?_, ?_⟩, _, rfl⟩
      · rw [upd_ne (by simpa using hm)]
        exact k6 x o hx hm
      · rw [valV_put, List.take_add_one, hgq]
        show _ = Option.map V.bl (seesOf (gs.take i ++ [(gq.1, gq.2)]) nm)
        rw [seesOf_snoc nm hno, hsv nm]
        by_cases e : nm = gq.1
        · rw [if_pos e, if_pos (by rw [e])]
          rfl
        · rw [if_neg e, if_neg (by intro z; injection z with z; exact e z)]
      · have := putK_le sk (Sum.inr gq.1) (V.bl gq.2)
        omega
    rintro σ' H6 ⟨k6, ⟨sk, hsk, hsv, _⟩, v7, rfl⟩
    rw [List.length_map, gl, List.take_length] at hsv
    have s6 : Same H H6 := same_keep s5 k6 fun x hx => by rw [List.mem_singleton] at hx; rw [hx]; exact nSd
    clear k6 hSd hLg5 hG5 s5
    have t6 := t.same s6
    walk_at "go"
    obtain ⟨kvs, hO, hP, hK⟩ := id t6.ow
    refine ⟨o, kvs, W.map (·.car), rfl, .inl hO, own_keys hP, (by rw [List.length_map]; omega), fun zs Lz hp2 hs2 nLz => ?_⟩
    have s7 := same_up (o := HO.lst (zs.map V.str)) nLz
    have hLz : (upd H6 Lz (.lst (zs.map V.str))) Lz = some (.lst (zs.map V.str)) := upd_same
    generalize upd H6 Lz (.lst (zs.map V.str)) = H7 at s7 hLz
    have t7 := t6.same s7
    have hSd7 := s7 _ _ hsk
    have zl : zs.length ≤ nw := by have := hp2.length_eq; rw [List.length_map] at this; omega
    walk_at "go"
    refine ⟨⟨_, SqL.of hLz⟩, fun D nD => ?_⟩
    refine lc_list (K := K) (a := Lz) (xs := zs.map V.str) (fun i H' => Same H7 H' ∧ ∃ dus rows, H' D = some (.lst dus) ∧ Paired (DuesV H') dus rows ∧ rows.map (·.1) = zs.take i ∧ ∀ q ∈ rows, ∃ e ∈ W, e.car = q.1 ∧ DueP ⟨gs, rs⟩ (e.ss.mergeSort seenLe) q.2)
      ⟨same_up nD, [], [], upd_same, .nil, by simp, by simp⟩ (fun i H' _ ⟨sx, _⟩ => SqL.of (sx _ _ hLz)) ?_ ?_
    · rintro i x H8 hi ⟨s8, dus, rows, hD8, hP8, e8, d8⟩
      obtain ⟨c, hc, rfl⟩ := map_str_at hi
      have il := (List.getElem?_eq_some_iff.mp hc).1
      obtain ⟨e, he, rfl⟩ := List.mem_map.mp (hp2.mem_iff.mp (List.mem_of_getElem? hc))
      have hce := carOf_mem t7.wt.nc he
      have t8 := t7.same s8
      have rl : rows.length = i := by have := congrArg List.length e8; rw [List.length_map, List.length_take] at this; omega
      have ul := paired_len hP8
      obtain ⟨kvs8, hO8, hPo8, hK8⟩ := t8.ow
      obtain ⟨a, us, hva, ha, hpa⟩ := own_some hPo8 hce
      have sg := t8.ws e he
      have sgl := sg.sortedLen
      refine ⟨rfl, ?_⟩
      walk_at "go"
      refine ⟨o, .ref a, rfl, (by have := DGet.k (k := Sum.inr e.car) hO8; rw [hva] at this; exact this), ?_⟩
      walk_at "go"
      refine ⟨a, us, e.ss, rfl, SqL.of ha, hpa, (by have := sg.len; omega), fun S us3 nS hPS => ?_⟩
      have sS := same_up (o := HO.lst us3) nS
      have hS : (upd H8 S (.lst us3)) S = some (.lst us3) := upd_same
      generalize upd H8 S (.lst us3) = H9 at sS hS
      have t9 := t8.same sS
      walk_at "go"
      refine ⟨S, Ll, Sd, us3, e.ss.mergeSort seenLe, rts, ⟨gs, rs⟩, sk, rfl, hS, seen_same sS hPS, sgl.1, by omega, sg.sorted t.nm, t9.ll, t9.rl, sS _ _ (s8 _ _ hSd7), hsv, nok, (by have := t.rn; show rs.length ≤ 190; omega), t.rok, fun H10 Td od s10 nTd hTd hdue => ?_⟩
      walk_at "go"
      refine ⟨(by show 2 ≤ sizeLine; decide), fun tt ntt => ?_⟩
      have s11 := same_up (o := HO.tup [.str e.car, .ref Td]) ntt
      have s8B := (sS.trans s10).trans s11
      have htt : (upd H10 tt (.tup [.str e.car, .ref Td])) tt = some (.tup [.str e.car, .ref Td]) := upd_same
      have hTd2 := s11 _ _ hTd
      generalize upd H10 tt (.tup [.str e.car, .ref Td]) = H11 at s11 s8B htt hTd2
      have hD11 := s8B _ _ hD8
      have nT : ∀ {x : Addr} {xs : List V}, H11 x = some (.tup xs) → x ≠ D := fun {x xs} h z => by rw [z, hD11] at h; cases h
      have upD : ∀ {v : V} {q : Str × DOut}, DuesV H11 v q → DuesV (upd H11 D (.lst (dus ++ [.ref tt]))) v q := fun {v q} ⟨x, d, ex, hx, hd⟩ => ⟨x, d, ex, by rw [upd_ne (nT hx)]; exact hx, by rw [upd_ne (nT hd)]; exact hd⟩
      refine ⟨dus, hD11, Evl.sz_lt (by omega), same_new (s8.trans s8B) nD, dus ++ [.ref tt], rows ++ [(e.car, od)], upd_same, ?_, ?_, fun q hq => ?_⟩
      · exact paired_snoc (upD ⟨tt, Td, rfl, htt, hTd2⟩) (L2.Paired.mapP (dues_same s8B hP8) fun _ _ h => upD h)
      · rw [List.map_append, e8, List.take_add_one, hc]
        rfl
      · rcases List.mem_append.mp hq with z | z
        · exact d8 q z
        · rw [List.mem_singleton] at z
          rw [z]
          exact ⟨e, he, rfl, hdue⟩
    rintro H8 ⟨s8, dus, rows, hD8, hP8, e8, d8⟩
    rw [List.length_map, List.take_length] at e8
    have hro : RowsOk ⟨gs, rs⟩ W rows := ⟨by rw [e8]; exact hp2, by rw [e8]; exact hs2, d8⟩
    have rl : rows.length = zs.length := by rw [← e8, List.length_map]
    have dl := paired_len hP8
    have t8 := t7.same s8
    have hSd8 := s8 _ _ hSd7
    have hDK : D ≠ Kp := (ne_of_none t7.kp nD).symm
    clear s7 hLz nLz hSd7 t7
    walk_at "go"
    refine ⟨⟨_, SqL.of hD8⟩, fun R nR => ?_⟩
    refine lc_list (K := K) (a := D) (xs := dus) (fun i H' => Same H8 H' ∧ ∃ rus, H' R = some (.lst rus) ∧ Paired (BillV H') rus (rows.take i))
      ⟨same_up nR, [], upd_same, .nil⟩ (fun i H' _ ⟨sx, _⟩ => SqL.of (sx _ _ hD8)) ?_ ?_
    · rintro i x H9 hi ⟨s9, rus, hR9, hP9⟩
      obtain ⟨q1, hq, tq, dq, rfl, htq, hdq⟩ := paired_getL hP8 hi
      have htq9 := s9 _ _ htq
      have hdq9 := s9 _ _ hdq
      refine ⟨rfl, ?_⟩
      obtain ⟨c, od⟩ := q1
      have il := (List.getElem?_eq_some_iff.mp hi).1
      have rul := paired_len hP9
      rw [List.length_take] at rul
      have fin : ∀ {H10 : Hp}, Same H9 H10 → ∀ t, H10 t = none → ∃ acc, (upd H10 t (.tup [.str c, owed od])) R = some (.lst acc) ∧ acc.length < sizeLine ∧ Same H8 (upd (upd H10 t (.tup [.str c, owed od])) R (.lst (acc ++ [.ref t]))) ∧ ∃ rus, (upd (upd H10 t (.tup [.str c, owed od])) R (.lst (acc ++ [.ref t]))) R = some (.lst rus) ∧ Paired (BillV (upd (upd H10 t (.tup [.str c, owed od])) R (.lst (acc ++ [.ref t])))) rus (rows.take (i + 1)) := fun {H10} s10 t nt => by
        have s11 := s10.trans (same_up (o := HO.tup [.str c, owed od]) nt)
        have htt : (upd H10 t (.tup [.str c, owed od])) t = some (.tup [.str c, owed od]) := upd_same
        generalize upd H10 t (.tup [.str c, owed od]) = H11 at s11 htt
        have hR11 := s11 _ _ hR9
        have nT : ∀ {x : Addr} {xs : List V}, H11 x = some (.tup xs) → x ≠ R := fun {x xs} h z => by rw [z, hR11] at h; cases h
        have up : ∀ {v : V} {q : Str × DOut}, BillV H11 v q → BillV (upd H11 R (.lst (rus ++ [.ref t]))) v q := fun {v q} ⟨x, ex, hx⟩ => ⟨x, ex, by rw [upd_ne (nT hx)]; exact hx⟩
        refine ⟨rus, hR11, Evl.sz_lt (by omega), same_new (s9.trans s11) nR, rus ++ [.ref t], upd_same, ?_⟩
        rw [show rows.take (i + 1) = rows.take i ++ [(c, od)] by rw [List.take_add_one, hq]; rfl]
        exact paired_snoc (up ⟨t, rfl, htt⟩) (L2.Paired.mapP (bill_same s11 hP9) fun _ _ h => up h)
      cases od with
      | no k =>
        have hdq9 : H9 dq = some (.tup [.str "none", .int (k : Int)]) := hdq9
        walk_at "step"
        refine ⟨(by show 2 ≤ sizeLine; decide), fun p1 np1 => ?_⟩
        have s10 := same_up (o := HO.lst [.int (k : Int), .non]) np1
        have hp10 : (upd H9 p1 (.lst [.int (k : Int), .non])) p1 = some (.lst [.int (k : Int), .non]) := upd_same
        generalize upd H9 p1 (.lst [.int (k : Int), .non]) = H10 at s10 hp10
        have htq10 := s10 _ _ htq9
        have hdq10 := s10 _ _ hdq9
        walk_at "step"
        exact ⟨(by show 2 ≤ sizeLine; decide), fun t nt => fin s10 t nt⟩
      | way tl =>
        have hdq9 : H9 dq = some (.tup [.str "way", .int tl.sum]) := hdq9
        walk_at "step"
        refine ⟨(by show 2 ≤ sizeLine; decide), fun p1 np1 => ?_⟩
        have s10 := same_up (o := HO.lst [.int tl.sum, .non]) np1
        have hp10 : (upd H9 p1 (.lst [.int tl.sum, .non])) p1 = some (.lst [.int tl.sum, .non]) := upd_same
        generalize upd H9 p1 (.lst [.int tl.sum, .non]) = H10 at s10 hp10
        have htq10 := s10 _ _ htq9
        have hdq10 := s10 _ _ hdq9
        walk_at "step"
        exact ⟨(by show 2 ≤ sizeLine; decide), fun t nt => fin s10 t nt⟩
    rintro H9 ⟨s9, rus, hR9, hP9⟩
    rw [List.take_of_length_le (by omega)] at hP9
    have t9 := t8.same s9
    have hSd9 := s9 _ _ hSd8
    have hD9 := s9 _ _ hD8
    have hPD9 := dues_same s9 hP8
    have hRK : R ≠ Kp := (ne_of_none t8.kp nR).symm
    walk_at "go"
    refine ⟨Kp, ps, rfl, .inl (SqL.of t9.kp), ?_⟩
    walk_at "go"
    refine ⟨fun σ' H' => (∃ v10, σ' = [some (.ref p), some (.ref wp), some (.ref o), some (.ref Lg), some (.ref Ll), some (.ref Kp), some (.ref Sd), v7, some (.ref D), some (.ref R), v10, none, none]) ∧ Keep [Kp] H9 H' ∧ ∃ ps', St12 A.C_Watch A.C_Net H0 H' p g r wp sd o Kp Lg Ll gts rts nms gs rs W ps' nr nw (nk + 1), ?_, ?_⟩
    · cases hz : decide ((fun (i j : Int) => V.int (i % j)) (ps.length : Int) 2 = V.int 1) with
      | false =>
        refine do_if1 (false && false) (an_and (fun Q' q' => ⟨_, rfl, _, rfl, q'⟩) fun z => by cases z) (fun z => by cases z) fun _ => ?_
        exact ⟨⟨_, rfl⟩, Keep.of_same (Same.refl _), ps, t9.up (Nat.le_refl _) (Nat.le_refl _) (Nat.le_succ _)⟩
      | true =>
        walk_at "go"
        refine ⟨H0, p, g, r, wp, sd, o, Kp, Lg, Ll, R, gts, rts, nms, gs, rs, W, ps, rus, nr, nw, nk, rows, rfl, (by omega), nr9, t9, hR9, hP9, hro, hRK, fun H10 ps10 t10 k10 => ?_⟩
        walk_at "go"
        exact ⟨k10, ps10, t10⟩
    rintro σ' H10 ⟨⟨v10, rfl⟩, k10, ps10, t10⟩
    obtain ⟨kvs10, hO10, hPo10, hK10⟩ := id t10.ow
    walk_at "go"
    refine ⟨o, _, hO10, trivial, fun od => ?_⟩
    have nK9 : ∀ x ∈ [Kp], ∀ xs, H9 x ≠ some (.tup xs) := fun x hx xs z => by
      rw [List.mem_singleton] at hx
      rw [hx, t9.kp] at z
      cases z
    have hSd10 : H10 Sd = some (.dK sk) := k10 _ _ hSd9 (by rw [List.mem_singleton]; intro z; rw [z, t9.kp] at hSd9; cases hSd9)
    have hD10 := k10 _ _ hD9 (by simpa using hDK)
    have hPD10 := dues_keep k10 nK9 hPD9
    have hR10 := k10 _ _ hR9 (by simpa using hRK)
    have hP10 : Paired (BillV H10) rus rows := L2.Paired.mapP hP9 fun _ _ ⟨x, e, hx⟩ => ⟨x, e, k10 _ _ hx fun m => nK9 _ m _ hx⟩
    have hSo : Sd ≠ o := fun z => by
      obtain ⟨_, h2, _⟩ := t.ow
      rw [← z, nSd] at h2
      cases h2
    obtain ⟨i1, i2, i3, i4⟩ := t10.dic
    have hC : ChgOk H10 (LM r Kp Ll gts rts) [o] := fun x hx => .inr (by rw [List.mem_singleton] at hx; rw [hx]; exact i3)
    have kL : Keep [o] H10 (upd H10 o (.frz od (.dK kvs10))) := keep1
    have hfl : (upd H10 o (.frz od (.dK kvs10))) o = some (.frz od (.dK kvs10)) := upd_same
    generalize upd H10 o (.frz od (.dK kvs10)) = HL at kL hfl
    have no : ∀ x ∈ LM r Kp Ll gts rts, x ∉ [o] := fun x hx m => by
      rw [List.mem_singleton] at m
      rw [m] at hx
      exact t10.dicL i3 hx
    have netL := t10.netk kL hC (by simpa using t10.dk.2.1) (no r (by unfold LM; simp))
    have llL := kL _ _ t10.ll (no Ll (by unfold LM; simp))
    have rlL := t10.rl.keepS kL fun x hx => no x (by unfold LM; simp [hx])
    have sdL := kL _ _ hSd10 (by simpa using hSo)
    have owL := own_keepM (M := []) kL (fun x hx => .inr (by rw [List.mem_singleton] at hx; rw [hx]; exact i3)) (fun x hx xs z => by rw [List.mem_singleton] at hx; rw [hx, hO10] at z; cases z) hPo10 (by simp)
    walk_at "go"
    refine ⟨o, od, rfl, .inl ⟨kvs10, hfl, for_it walk_keys (fun i σ' H' => (∃ v11, σ' = [some (.ref p), some (.ref wp), some (.ref o), some (.ref Lg), some (.ref Ll), some (.ref Kp), some (.ref Sd), v7, some (.ref D), some (.ref R), v10, v11, none]) ∧ Same HL H') ⟨⟨_, rfl⟩, Same.refl _⟩ (fun i σ' H' _ ⟨_, s⟩ => s _ _ hfl) ?_ ?_⟩⟩
    · rintro i x σ' H11 Hy hi ⟨⟨v11, rfl⟩, s11⟩ ⟨ey, k, v, hkv, rfl⟩
      have ey2 := ey.symm
      subst ey2
      obtain ⟨e, hWe, hk, _⟩ := paired_getL owL hkv
      have hk : k = Sum.inr e.car := hk
      subst hk
      have he := List.mem_of_getElem? hWe
      have hce := carOf_mem t10.wt.nc he
      obtain ⟨a, us, hva, ha, hpa⟩ := own_some owL hce
      have sg := t10.ws e he
      have sgl := sg.sortedLen
      dsimp only [gName, List.set]
      refine doS_if1 false (fun Q' q' => ?_) (fun z => by cases z) (fun _ H12 s12 => ⟨⟨_, rfl⟩, s11.trans s12⟩)
      walk_at "go"
      refine ⟨o, .ref a, rfl, .inl ⟨kvs10, Sum.inr e.car, .inr ⟨od, s11 _ _ hfl⟩, rfl, hva.symm⟩, ?_⟩
      walk_at "go"
      refine ⟨a, us, e.ss, rfl, SqL.of (s11 _ _ ha), seen_same s11 hpa, (by have := sg.len; omega), fun S us3 nS hPS => ?_⟩
      have sS := same_up (o := HO.lst us3) nS
      have hS : (upd H11 S (.lst us3)) S = some (.lst us3) := upd_same
      generalize upd H11 S (.lst us3) = H12 at sS hS
      have sLS := s11.trans sS
      walk_at "go"
      refine ⟨p, g, r, S, Sd, Ll, us3, e.ss.mergeSort seenLe, rts, gs, rs, sk, rfl, netL.same sLS, hS, seen_same sS hPS, sgl.1, by omega, sg.sorted t10.nm, sLS _ _ llL, rlL.same sLS, sLS _ _ sdL, hsv, gok, (by have := t10.rn; omega), t10.rok, fun H13 s13 => ?_⟩
      exact ⟨_, rfl, q' _ (sS.trans s13)⟩
    · rintro σ' H11 ⟨⟨v11, rfl⟩, s11⟩
      refine ⟨s11 _ _ hfl, ?_⟩
      have sF : Same H10 (upd H11 o (.dK kvs10)) := fun x v hx => by
        by_cases e : x = o
        · rw [e] at hx ⊢
          rw [hO10] at hx
          rw [upd_same]
          exact hx
        · rw [upd_ne e]
          exact s11 _ _ (kL _ _ hx (by simpa using e))
      generalize upd H11 o (.dK kvs10) = H12 at sF
      have t12 := t10.same sF
      walk_at "go"
      refine ⟨H0, p, g, r, wp, sd, o, Kp, Lg, Ll, D, gts, rts, nms, gs, rs, W, ps10, dus, nr, nw, nk + 1, rows, rfl, (by omega), nr9, (by omega), t12, sF _ _ hD10, dues_same sF hPD10, hro, hDK, fun H13 ps13 t13 k13 => ?_⟩
      have nK12 : ∀ {x : Addr} {xs : List V}, H12 x = some (.tup xs) → x ∉ [Kp] := fun {x xs} h m => by
        rw [List.mem_singleton] at m
        rw [m, t12.kp] at h
        cases h
      walk_at "go"
      refine ⟨H0, p, g, r, wp, sd, o, Kp, Lg, Ll, R, gts, rts, nms, gs, rs, W, ps13, rus, nr, nw, nk + 1 + 2 * nw, rows, rfl, (by omega), nr9, t13, k13 _ _ (sF _ _ hR10) (by simpa using hRK), L2.Paired.mapP (bill_same sF hP10) (fun _ _ ⟨x, e, hx⟩ => ⟨x, e, k13 _ _ hx (nK12 hx)⟩), hro, hRK, fun H14 ps14 t14 k14 => ?_⟩
      exact q H14 ps14 (t14.up (Nat.le_refl _) (Nat.le_refl _) (by omega))
end
end Toll

set_option Elab.async false
set_option linter.all false
set_option maxRecDepth 100000
set_option maxHeartbeats 4000000
namespace Toll
open PySem L2
local macro_rules | `(tactic| walk_at "go1") => `(tactic| first
  | refine ⟨_, rfl, ?_⟩
  | refine ⟨rfl, ?_⟩
  | refine ⟨_, _, rfl, rfl, ?_⟩
  | refine ⟨_, _, rfl, ?_⟩
  | (with_reducible refine' ⟨log_small ?k1 ?k2, ?_⟩; (case k1 => omega); (case k2 => omega))
  | (refine' ⟨?k1, ?_⟩; (case k1 => ((with_reducible show (_ : Int) < _); omega)))
  | (refine' ⟨⟨?k1, ?k2⟩, ?_⟩; (case k1 => omega); (case k2 => omega))
  | (refine' ⟨⟨?k1, ?k2, ?k3, ?k4⟩, ?_⟩; (case k1 => omega); (case k2 => omega); (case k3 => omega); (case k4 => omega))
  | (refine' ⟨.inl ⟨?k1, ?k2⟩, ?_⟩; (case k1 => omega); (case k2 => omega))
  | (refine' ⟨.inr ⟨?k1, ?k2⟩, ?_⟩; (case k1 => omega); (case k2 => omega))
  | (refine' ⟨Evl.sz_of ?k1, ?_⟩; (case k1 => omega))
  | (refine' ⟨?k1, ?_⟩; (case k1 => ((with_reducible show (_ : Int) ≤ _); omega)))
  | refine ⟨⟨_, rfl⟩, ?_⟩
  | refine .inl ⟨_, rfl, ?_⟩ | refine .inr ⟨_, rfl, ?_⟩
  | refine iteT ?_ | refine iteF ?_)
local macro_rules | `(tactic| walk_at "go") => `(tactic| repeat (walk_at "go1"))
local macro_rules | `(tactic| walk_at "ans") => `(tactic| (intro Q' q'; walk_at "go"; (try rw [dec_int]); (try rw [dec_str]); exact q'))
local macro_rules | `(tactic| walk_at "hp") => `(tactic| first | assumption | exact upd_same | (refine' up_same ?e ?h; (case e => assumption); (case h => walk_at "hp")) | (refine' upd_at ?n ?h; (case n => walk_at "ne"); (case h => walk_at "hp")))
local macro_rules | `(tactic| walk_at "ne") => `(tactic| first | assumption | (apply Ne.symm; assumption))
local macro_rules | `(tactic| walk_at "at") => `(tactic| first | exact atI_nat (j := 0) rfl | exact atI_nat (j := 1) rfl | exact atI_nat (j := 2) rfl | exact atI_nat (j := 3) rfl | exact atI_nat (j := 4) rfl)
local macro_rules | `(tactic| walk_at "step1") => `(tactic| first
  | walk_at "go1"
  | (apply ixL_step; (case h => walk_at "hp"); (case a => walk_at "at"))
  | (apply ixT_step; (case h => walk_at "hp"); (case a => walk_at "at"))
  | (apply lenL_step; (case h => walk_at "hp")))
local macro_rules | `(tactic| walk_at "step") => `(tactic| repeat (walk_at "step1"))
section
variable {P : Program} {w : World} {K : PySem.W.Frag} {mg : Str → Option Value} {base : Heap} {A : Ads}
def spKeptWell : Sp := fun vs H Q _ => ∃ (Kp : Addr) (ps : List V) (M : List Addr), vs = [.ref Kp] ∧ H Kp = some (.lst ps) ∧ (∀ v ∈ ps, KeptW H M v) ∧ Q (.bl true) H
theorem ok_l_kept_well (T : Txt K mg A) : DefOk P w K mg base CX0 1 A.l_kept_well ["_law_kept"] spKeptWell := by
  obtain ⟨fd, F⟩ := T.F_l_kept_well
  refine ⟨fd, ?_, F.binds (ps := ["_law_kept"]) fun _ _ _ _ _ _ us hl => match us, hl with | [_], _ => rfl, F.kp⟩
  refine F.ok sc_l_kept_well (fun vs H Q E h => ?_) (fun cdv A' outer s H vs Q E hr h => ?_)
  · obtain ⟨Kp, ps, M, rfl, _⟩ := h
    rfl
  · obtain ⟨Kp, ps, M, rfl, hK, hk, q⟩ := h
    refine ⟨_, (pss_cons (ps_for PassesOwn.never rfl (pi_list (pv 0)) (pg_name (i := 1) sc_l_kept_well.nd rfl (by first | exact Or.inl rfl | exact Or.inr rfl)) (pss_one (ps_if (pt_cmpR (op_neD hr.units) (pe_ix (r := rIxL K) ix_list (pv 1) pe_int (fun _ _ => rfl)) (pe_ix (r := rIxL K) ix_list (pv 1) pe_int (fun _ _ => rfl)) (nomark _)) (pss_one (ps_ret pe_bl)) pss_nil)))
      (pss_one (ps_ret pe_bl))), ?_⟩
    walk_at "go"
    refine ⟨⟨_, SqL.of hK⟩, for_list (K := K) (a := Kp) (xs := ps) (fun i σ' H' => H' = H ∧ ∃ v1, σ' = [some (.ref Kp), v1]) ⟨rfl, none, rfl⟩ (fun i σ' H' _ ⟨e, _⟩ => by rw [e]; exact SqL.of hK) ?_ ?_⟩
    · rintro i x σ' H1 hi ⟨rfl, v1, rfl⟩
      obtain ⟨q1, a, b, us, rfl, hq, ha, hb, hit, _⟩ := hk x (List.mem_of_getElem? hi)
      obtain ⟨ds, d1, d2⟩ := hit.dp (K := K)
      have ok := okD_list d2
      dsimp only [gName, List.set]
      refine do_if1 false (fun Q' q' => ?_) (fun z => by cases z) (fun _ => ⟨rfl, _, rfl⟩)
      walk_at "step"
      refine ⟨_, _, .lst (SqL.of ha) d1, .lst (SqL.of hb) d1, ok.shaped (by decide), ok.shaped (by decide), ?_⟩
      rw [ok.refl]
      exact ⟨_, rfl, q'⟩
    · rintro σ' H1 ⟨rfl, v1, rfl⟩
      walk_at "go"
      exact q
def gates12 (b : Int) (n : Nat) : List (Str × Bool) := (List.range n).map fun i : Nat => (nameOf b (i : Int), decide ((i : Int) % 3 ≠ 1))
theorem gates12_ok {b : Int} (hb : 0 ≤ b) {n : Nat} (h2 : 2 ≤ n) (h6 : n ≤ 6) : GsOk (gates12 b n) := by
  refine ⟨?_, by simp [gates12]; omega, by simp [gates12]; omega, fun q hq => ?_⟩
  · unfold gates12
    rw [List.map_map]
    refine List.Pairwise.map (R := fun x y : Nat => x < 7 ∧ y < 7 ∧ x ≠ y) _ (fun x y h e => ?_) ?_
    · have := nameOf_inj8 hb (by omega) (by omega) (by omega) (by omega) e
      omega
    · rw [List.pairwise_iff_getElem]
      intro i j hi hj hij
      simp at hi hj ⊢
      omega
  · unfold gates12 at hq
    obtain ⟨i, hi, rfl⟩ := List.mem_map.mp hq
    rw [List.mem_range] at hi
    exact nameOk_of (by omega) (by omega)
end
end Toll

set_option Elab.async false
set_option linter.all false
set_option maxRecDepth 100000
set_option maxHeartbeats 4000000
namespace Toll
open PySem L2
local macro_rules | `(tactic| walk_at "go1") => `(tactic| first
  | refine ⟨_, rfl, ?_⟩
  | refine ⟨rfl, ?_⟩
  | refine ⟨_, _, rfl, rfl, ?_⟩
  | refine ⟨_, _, rfl, ?_⟩
  | (with_reducible refine' ⟨log_small ?k1 ?k2, ?_⟩; (case k1 => omega); (case k2 => omega))
  | (refine' ⟨?k1, ?_⟩; (case k1 => ((with_reducible show (_ : Int) < _); omega)))
  | (refine' ⟨⟨?k1, ?k2⟩, ?_⟩; (case k1 => omega); (case k2 => omega))
  | (refine' ⟨⟨?k1, ?k2, ?k3, ?k4⟩, ?_⟩; (case k1 => omega); (case k2 => omega); (case k3 => omega); (case k4 => omega))
  | (refine' ⟨.inl ⟨?k1, ?k2⟩, ?_⟩; (case k1 => omega); (case k2 => omega))
  | (refine' ⟨.inr ⟨?k1, ?k2⟩, ?_⟩; (case k1 => omega); (case k2 => omega))
  | (refine' ⟨Evl.sz_of ?k1, ?_⟩; (case k1 => omega))
  | (refine' ⟨?k1, ?_⟩; (case k1 => ((with_reducible show (_ : Int) ≤ _); omega)))
  | refine ⟨⟨_, rfl⟩, ?_⟩
  | refine .inl ⟨_, rfl, ?_⟩ | refine .inr ⟨_, rfl, ?_⟩
  | refine iteT ?_ | refine iteF ?_)
local macro_rules | `(tactic| walk_at "go") => `(tactic| repeat (walk_at "go1"))
local macro_rules | `(tactic| walk_at "ans") => `(tactic| (intro Q' q'; walk_at "go"; (try rw [dec_int]); (try rw [dec_str]); exact q'))
local macro_rules | `(tactic| walk_at "hp") => `(tactic| first | assumption | exact upd_same | (refine' up_same ?e ?h; (case e => assumption); (case h => walk_at "hp")) | (refine' upd_at ?n ?h; (case n => walk_at "ne"); (case h => walk_at "hp")))
local macro_rules | `(tactic| walk_at "ne") => `(tactic| first | assumption | (apply Ne.symm; assumption))
local macro_rules | `(tactic| walk_at "at") => `(tactic| first | exact atI_nat (j := 0) rfl | exact atI_nat (j := 1) rfl | exact atI_nat (j := 2) rfl | exact atI_nat (j := 3) rfl | exact atI_nat (j := 4) rfl)
local macro_rules | `(tactic| walk_at "step1") => `(tactic| first
  | walk_at "go1"
  | (apply ixL_step; (case h => walk_at "hp"); (case a => walk_at "at"))
  | (apply ixT_step; (case h => walk_at "hp"); (case a => walk_at "at"))
  | (apply lenL_step; (case h => walk_at "hp")))
local macro_rules | `(tactic| walk_at "step") => `(tactic| repeat (walk_at "step1"))
section
variable {P : Program} {w : World} {K : PySem.W.Frag} {mg : Str → Option Value} {base : Heap} {A : Ads}
def spTurned (A : Ads) : Sp := fun vs H Q _ => ∃ (H0 : Hp) (p g r wp sd o Kp Lg Ll : Addr) (gts rts : List Addr) (nms : List Str) (gs : List (Str × Bool)) (rs : List RoadD) (W : List CarE) (ps : List V) (nr nw nk : Nat) (num : Int), vs = [.ref p, .ref Lg, .ref Ll, .int num] ∧ 0 ≤ num ∧ num < 2147483648 ∧ nr < 100 ∧
  St12 A.C_Watch A.C_Net H0 H p g r wp sd o Kp Lg Ll gts rts nms gs rs W ps nr nw nk ∧
  ∀ (v : V) (H' : Hp) (rts' : List Addr) (gs' : List (Str × Bool)) (rs' : List RoadD), St12 A.C_Watch A.C_Net H0 H' p g r wp sd o Kp Lg Ll gts rts' nms gs' rs' W ps (nr + 1) nw nk → Q v H'
theorem ok_l_turned (T : Txt K mg A) : DefOk P w K mg base CX0 4 A.l_turned ["_law_net_here", "_law_gates_here", "_law_lines_here", "_law_number"] (spTurned A) := by
  obtain ⟨_, G_N_blind, B_N_blind, K_N_blind⟩ := ok_N_blind (P := P) (w := w) (base := base) T
  obtain ⟨_, G_N_mend, B_N_mend, K_N_mend⟩ := ok_N_mend (P := P) (w := w) (base := base) T
  obtain ⟨_, G_N_close, B_N_close, K_N_close⟩ := ok_N_close (P := P) (w := w) (base := base) T
  obtain ⟨_, G_N_reopen, B_N_reopen, K_N_reopen⟩ := ok_N_reopen (P := P) (w := w) (base := base) T
  obtain ⟨_, G_N_road, B_N_road, K_N_road⟩ := ok_N_road (P := P) (w := w) (base := base) T
  obtain ⟨_, G_l_line, B_l_line, K_l_line⟩ := ok_l_line (P := P) (w := w) (base := base) T
  obtain ⟨fd, F⟩ := T.F_l_turned
  refine ⟨fd, ?_, F.binds (ps := ["_law_net_here", "_law_gates_here", "_law_lines_here", "_law_number"]) fun _ _ _ _ _ _ us hl => match us, hl with | [_, _, _, _], _ => rfl, F.kp⟩
  refine F.ok sc_l_turned (fun vs H Q E h => ?_) (fun cdv A' outer s H vs Q E hr h => ?_)
  · obtain ⟨H0, p, g, r, wp, sd, o, Kp, Lg, Ll, gts, rts, nms, gs, rs, W, ps, nr, nw, nk, num, rfl, _⟩ := h
    rfl
  · obtain ⟨H0, p, g, r, wp, sd, o, Kp, Lg, Ll, gts, rts, nms, gs, rs, W, ps, nr, nw, nk, num, rfl, m0, m1, n100, t, q⟩ := h
    refine ⟨_, (pss_cons (ps_set (i := 4) sc_l_turned.nd rfl (by first | exact Or.inl rfl | exact Or.inr rfl) (pe_ix (r := rIxL K) ix_list (pv 1) (pe_op op_mod (pe_op op_fdiv (pv 3) pe_int) (pe_callB call_len_seq (by rfl) T.b_len PySem.boot_len (pa_cons (pv 1) pa_nil))) (fun _ _ => rfl)))
      (C8.pss_cut (ps_if (PW.pt (pw_and (pt_cmpR op_lt (pe_op op_mod (pv 3) pe_int) pe_int (nomark _)) (pw_and1 (pt_val (pe_ix (r := rIxL K) ix_list (pv 4) pe_int (fun _ _ => rfl)))))) (pss_cons (ps_expr (pe_meth (pv 0) T.c_Net T.M_N_blind G_N_blind (hr.mono (by decide)) B_N_blind .nil passF (pa_cons (pe_ix (r := rIxL K) ix_list (pv 4) pe_int (fun _ _ => rfl)) pa_nil)))
      (pss_one (ps_asg pe_bl (pg_sub (pv 4) pe_int set_list)))) (pss_one (ps_if (pt_cmpR op_lt (pe_op op_mod (pv 3) pe_int) pe_int (nomark _)) (pss_cons (ps_expr (pe_meth (pv 0) T.c_Net T.M_N_mend G_N_mend (hr.mono (by decide)) B_N_mend .nil passF (pa_cons (pe_ix (r := rIxL K) ix_list (pv 4) pe_int (fun _ _ => rfl)) pa_nil)))
      (pss_one (ps_asg pe_bl (pg_sub (pv 4) pe_int set_list)))) (pss_one (ps_if (PW.pt (pw_and (pt_cmpR op_lt (pe_op op_mod (pv 3) pe_int) pe_int (nomark _)) (pw_and1 (pt_cmpR op_gt (pe_callB call_len_seq (by rfl) T.b_len PySem.boot_len (pa_cons (pv 2) pa_nil)) pe_int (nomark _))))) (pss_cons (ps_set (i := 5) sc_l_turned.nd rfl (by first | exact Or.inl rfl | exact Or.inr rfl) (pe_ix (r := rIxL K) ix_list (pv 2) (pe_op op_mod (pe_op op_fdiv (pv 3) pe_int) (pe_callB call_len_seq (by rfl) T.b_len PySem.boot_len (pa_cons (pv 2) pa_nil))) (fun _ _ => rfl)))
      (C8.pss_cut (ps_if (pt_val (pe_ix (r := rIxL K) ix_list (pv 5) pe_int (fun _ _ => rfl))) (pss_one (ps_expr (pe_meth (pv 0) T.c_Net T.M_N_close G_N_close (hr.mono (by decide)) B_N_close .nil passF (pa_cons (pe_op op_mod (pe_op op_fdiv (pv 3) pe_int) (pe_callB call_len_seq (by rfl) T.b_len PySem.boot_len (pa_cons (pv 2) pa_nil))) pa_nil)))) (pss_one (ps_expr (pe_meth (pv 0) T.c_Net T.M_N_reopen G_N_reopen (hr.mono (by decide)) B_N_reopen .nil passF (pa_cons (pe_op op_mod (pe_op op_fdiv (pv 3) pe_int) (pe_callB call_len_seq (by rfl) T.b_len PySem.boot_len (pa_cons (pv 2) pa_nil))) pa_nil)))))
      (pss_one (ps_asg (pe_not (pe_ix (r := rIxL K) ix_list (pv 5) pe_int (fun _ _ => rfl))) (pg_sub (pv 5) pe_int set_list))))) (pss_cons (ps_set (i := 5) sc_l_turned.nd rfl (by first | exact Or.inl rfl | exact Or.inr rfl) (pe_call G_l_line (hr.mono (by decide)) rfl T.m_l_line K_l_line B_l_line .nil pass0 (pa_cons (pe_op op_fdiv (pv 3) pe_int) (pa_cons (pv 1) (pa_cons pe_int pa_nil)))))
      (pss_cons (ps_expr (pe_meth (pv 0) T.c_Net T.M_N_road G_N_road (hr.mono (by decide)) B_N_road .nil passF (pa_cons (pe_ix (r := rIxL K) ix_list (pv 5) pe_int (fun _ _ => rfl)) (pa_cons (pe_ix (r := rIxL K) ix_list (pv 5) pe_int (fun _ _ => rfl)) (pa_cons (pe_ix (r := rIxL K) ix_list (pv 5) pe_int (fun _ _ => rfl)) (pa_cons (pe_ix (r := rIxL K) ix_list (pv 5) pe_int (fun _ _ => rfl)) pa_nil))))))
      (pss_one (ps_expr (pe_bm PySem.F.plainAttrs_list PySem.F.slot_list_append PySem.F.type_list_append mt_append (pv 2) (pa_cons (pe_op op_cat (pe_slice sl_list (pv 5) po_none (po_some pe_int)) (pe_lst (pa_cons pe_bl pa_nil))) pa_nil)))))))))))
      (pss_one (ps_ret (pv 4))))), ?_⟩
    have gl := paired_len t.gl
    have rl := paired_len t.rl
    have g2 := t.gok.l2
    have rn := t.rn
    obtain ⟨dx, hob⟩ := t.net.ob
    walk_at "go"
    refine ⟨Lg, _, rfl, .inl (SqL.of t.lg), ?_⟩
    rw [List.length_map, gl]
    walk_at "go"
    obtain ⟨j, ej, hj⟩ := mod_nat (num / 7) (n := gs.length) (by omega)
    obtain ⟨tj, htj⟩ : ∃ tj, gts[j]? = some tj := ⟨_, List.getElem?_eq_getElem (by omega)⟩
    obtain ⟨⟨nm, c⟩, hgj, hcell⟩ := paired_getL t.gl htj
    have hcell : H tj = some (.lst [.str nm, .bl c]) := hcell
    have hv : (gts.map V.ref)[j]? = some (.ref tj) := by rw [List.getElem?_map, htj]; rfl
    refine ⟨Lg, _, _, _, rfl, rfl, SqL.of t.lg, atI_of (j := j) ej hv, ?_⟩
    have hnm := t.gok.nm _ (List.mem_of_getElem? hgj)
    have hnm : NameOk nm := hnm
    have hsee : seesOf gs nm = some c := sees_at t.gok.nd hgj
    walk_at "go"
    refine ⟨fun σ' H' => ∃ rts' gs' rs' v5, σ' = [some (.ref p), some (.ref Lg), some (.ref Ll), some (.int num), some (.ref tj), v5] ∧ St12 A.C_Watch A.C_Net H0 H' p g r wp sd o Kp Lg Ll gts rts' nms gs' rs' W ps (nr + 1) nw nk, ?_, ?_⟩
    · have mends : ∀ b, c = !b → ∀ H1, NetAt A.C_Net H1 p g r ⟨setSees gs nm b, rs⟩ → Keep [g] H H1 → H1 tj = some (.lst [.str nm, .bl c]) ∧ ∃ rts' gs' rs' v5, ([some (.ref p), some (.ref Lg), some (.ref Ll), some (.int num), some (.ref tj), none] : List (Option V)) = [some (.ref p), some (.ref Lg), some (.ref Ll), some (.int num), some (.ref tj), v5] ∧ St12 A.C_Watch A.C_Net H0 (upd H1 tj (.lst [.str nm, .bl b])) p g r wp sd o Kp Lg Ll gts rts' nms gs' rs' W ps (nr + 1) nw nk := fun b hb H1 hN1 k1 => by
        obtain rfl : b = !c := by rw [hb, Bool.not_not]
        have ng : tj ≠ g := ne_of hcell t.net.gt (by intro z; cases z)
        exact ⟨k1 _ _ hcell (by simpa using ng), _, _, _, _, rfl, (t.turn htj hgj hN1 k1).up (by omega) (Nat.le_refl _) (Nat.le_refl _)⟩
      walk_at "go"
      refine ite2 (fun b1 => ?_) (fun b1 => ?_)
      · walk_at "go"
        refine ⟨tj, _, _, _, rfl, rfl, SqL.of hcell, atI_nat (j := 1) rfl, ?_⟩
        walk_at "go"
        cases hc : c with
        | true =>
          subst hc
          walk_at "go"
          refine ⟨p, dx, _, rfl, hob, netF_no _ _ (by decide +kernel) (by decide +kernel), ?_⟩
          walk_at "go"
          refine ⟨tj, _, _, _, rfl, rfl, SqL.of hcell, atI_nat (j := 0) rfl, ?_⟩
          walk_at "go"
          refine ⟨p, g, r, _, nm, rfl, t.net, Nat.le_trans hnm.1 (by decide), hnm.2.1, fun z => (by rw [show seesOf (NetD.mk gs rs).gates nm = some true from hsee] at z; cases z), fun z => (by rw [show seesOf (NetD.mk gs rs).gates nm = some true from hsee] at z; cases z), fun _ H1 hN1 k1 => ?_⟩
          obtain ⟨h1, fin⟩ := mends false rfl H1 hN1 k1
          walk_at "go"
          refine ⟨tj, _, _, 1, rfl, rfl, h1, ixN_of rfl (by show 1 < 2; decide), ?_⟩
          exact fin
        | false =>
          subst hc
          walk_at "go"
          refine ite2 (fun _ => ?_) (fun z => (z b1).elim)
          walk_at "go"
          refine ⟨p, dx, _, rfl, hob, netF_no _ _ (by decide +kernel) (by decide +kernel), ?_⟩
          walk_at "go"
          refine ⟨tj, _, _, _, rfl, rfl, SqL.of hcell, atI_nat (j := 0) rfl, ?_⟩
          walk_at "go"
          refine ⟨p, g, r, _, nm, rfl, t.net, Nat.le_trans hnm.1 (by decide), hnm.2.1, fun z => (by rw [show seesOf (NetD.mk gs rs).gates nm = some false from hsee] at z; cases z), fun z => (by rw [show seesOf (NetD.mk gs rs).gates nm = some false from hsee] at z; cases z), fun _ H1 hN1 k1 => ?_⟩
          obtain ⟨h1, fin⟩ := mends true rfl H1 hN1 k1
          walk_at "go"
          refine ⟨tj, _, _, 1, rfl, rfl, h1, ixN_of rfl (by show 1 < 2; decide), ?_⟩
          exact fin
      walk_at "go"
      refine ite2 (fun z => (b1 z).elim) (fun _ => ?_)
      walk_at "go"
      refine ite2 (fun b2 => ?_) (fun b2 => ?_)
      · walk_at "go"
        refine ⟨Ll, _, rfl, .inl (SqL.of t.ll), ?_⟩
        rw [List.length_map, rl]
        walk_at "go"
        refine ite2 (fun b3 => ?_) (fun b3 => ?_)
        · have b3 : (0 : Int) < (rs.length : Int) := by simpa using b3
          walk_at "go"
          refine ⟨Ll, _, rfl, .inl (SqL.of t.ll), ?_⟩
          rw [List.length_map, rl]
          walk_at "go"
          obtain ⟨k, ek, hk⟩ := mod_nat (num / 7) (n := rs.length) (by omega)
          obtain ⟨tk, htk⟩ : ∃ tk, rts[k]? = some tk := ⟨_, List.getElem?_eq_getElem (by omega)⟩
          obtain ⟨rd, hrd, hck⟩ := paired_getL t.rl htk
          have hck : H tk = some (.lst [.str rd.one, .str rd.other, .int rd.mi, .int rd.tl, .bl rd.op]) := hck
          have hvk : (rts.map V.ref)[k]? = some (.ref tk) := by rw [List.getElem?_map, htk]; rfl
          refine ⟨Ll, _, _, _, rfl, rfl, SqL.of t.ll, atI_of (j := k) ek hvk, ?_⟩
          walk_at "go"
          have ntk : tk ∉ [r] := by simpa using fun z : tk = r => t.dist.2.2.2.2.1 (by rw [← z]; exact List.mem_of_getElem? htk)
          have hk2 : (num / 7 % (rs.length : Int)).toNat = k := by rw [ek]; rfl
          refine ⟨fun σ' H' => σ' = [some (.ref p), some (.ref Lg), some (.ref Ll), some (.int num), some (.ref tj), some (.ref tk)] ∧ NetAt A.C_Net H' p g r ⟨gs, rs.set k { rd with op := !rd.op }⟩ ∧ Keep [r] H H', ?_, ?_⟩
          · walk_at "go"
            refine ⟨tk, _, _, _, rfl, rfl, SqL.of hck, atI_nat (j := 4) rfl, ?_⟩
            walk_at "go"
            cases ho : rd.op with
            | true =>
              walk_at "go"
              refine ⟨p, dx, _, rfl, hob, netF_no _ _ (by decide +kernel) (by decide +kernel), ?_⟩
              walk_at "go"
              refine ⟨Ll, _, rfl, .inl (SqL.of t.ll), ?_⟩
              rw [List.length_map, rl]
              walk_at "go"
              refine ⟨p, g, r, _, _, rfl, t.net, fun z => absurd (show 0 ≤ num / 7 % (rs.length : Int) ∧ num / 7 % (rs.length : Int) < (rs.length : Int) from ⟨by omega, by omega⟩) z, fun rd' _ z e => ?_, fun rd' _ z e H1 hN1 k1 => ?_⟩
              · have z : rs[(num / 7 % (rs.length : Int)).toNat]? = some rd' := z
                rw [hk2, hrd] at z
                obtain rfl := Option.some.inj z
                rw [ho] at e
                cases e
              · have z : rs[(num / 7 % (rs.length : Int)).toNat]? = some rd' := z
                rw [hk2, hrd] at z
                obtain rfl := Option.some.inj z
                refine ⟨rfl, ?_, k1⟩
                have hN1 : NetAt A.C_Net H1 p g r ⟨gs, rs.set (num / 7 % (rs.length : Int)).toNat { rd with op := false }⟩ := hN1
                rw [hk2] at hN1
                exact hN1
            | false =>
              walk_at "go"
              refine ⟨p, dx, _, rfl, hob, netF_no _ _ (by decide +kernel) (by decide +kernel), ?_⟩
              walk_at "go"
              refine ⟨Ll, _, rfl, .inl (SqL.of t.ll), ?_⟩
              rw [List.length_map, rl]
              walk_at "go"
              refine ⟨p, g, r, _, _, rfl, t.net, fun z => absurd (show 0 ≤ num / 7 % (rs.length : Int) ∧ num / 7 % (rs.length : Int) < (rs.length : Int) from ⟨by omega, by omega⟩) z, fun rd' _ z e => ?_, fun rd' _ z e H1 hN1 k1 => ?_⟩
              · have z : rs[(num / 7 % (rs.length : Int)).toNat]? = some rd' := z
                rw [hk2, hrd] at z
                obtain rfl := Option.some.inj z
                rw [ho] at e
                cases e
              · have z : rs[(num / 7 % (rs.length : Int)).toNat]? = some rd' := z
                rw [hk2, hrd] at z
                obtain rfl := Option.some.inj z
                refine ⟨rfl, ?_, k1⟩
                have hN1 : NetAt A.C_Net H1 p g r ⟨gs, rs.set (num / 7 % (rs.length : Int)).toNat { rd with op := true }⟩ := hN1
                rw [hk2] at hN1
                exact hN1
          rintro σ' H1 ⟨rfl, hN1, k1⟩
          have hck1 := k1 _ _ hck ntk
          walk_at "go"
          refine ⟨tk, _, _, _, rfl, rfl, SqL.of hck1, atI_nat (j := 4) rfl, ?_⟩
          walk_at "go"
          refine ⟨tk, _, _, 4, rfl, rfl, hck1, ixN_of rfl (by show 4 < 5; decide), ?_⟩
          exact ⟨_, _, _, _, rfl, (t.lane htk hrd hN1 k1).up (by omega) (Nat.le_refl _) (Nat.le_refl _)⟩
        · walk_at "go"
          refine ⟨_, Lg, gts, gs, 1, rfl, t.lg, t.gl, t.gok, by omega, by decide, by decide, fun H1 L1 rd s1 nL1 hL1 lok => ?_⟩
          obtain ⟨dx1, hob1⟩ := (t.same s1).net.ob
          have hL1' : H1 L1 = some (.lst [.str rd.one, .str rd.other, .int rd.mi, .int rd.tl, .bl rd.op]) := hL1
          walk_at "go"
          refine ⟨p, dx1, _, rfl, hob1, netF_no _ _ (by decide +kernel) (by decide +kernel), ?_⟩
          walk_at "go"
          refine ⟨L1, _, _, _, rfl, rfl, SqL.of hL1', atI_nat (j := 0) rfl, ?_⟩
          walk_at "go"
          refine ⟨L1, _, _, _, rfl, rfl, SqL.of hL1', atI_nat (j := 1) rfl, ?_⟩
          walk_at "go"
          refine ⟨L1, _, _, _, rfl, rfl, SqL.of hL1', atI_nat (j := 2) rfl, ?_⟩
          walk_at "go"
          refine ⟨L1, _, _, _, rfl, rfl, SqL.of hL1', atI_nat (j := 3) rfl, ?_⟩
          walk_at "go"
          obtain ⟨c1, hc1⟩ := lok.o1
          obtain ⟨c2, hc2⟩ := lok.o2
          have n1 := t.gok.nm _ hc1
          have n2 := t.gok.nm _ hc2
          obtain ⟨jm, j1, j2, ejm⟩ := lok.mi
          have bnd : (1 ≤ rd.mi ∧ rd.mi ≤ 1000000) ∧ (0 ≤ rd.tl ∧ rd.tl ≤ 1000000) := ⟨by omega, lok.tl⟩
          refine ⟨p, g, r, _, rd.one, rd.other, rd.mi, rd.tl, rfl, (t.same s1).net, Nat.le_trans n1.1 (by decide), n1.2.1, Nat.le_trans n2.1 (by decide), n2.2.1, fun z => (by rcases z with z | z; exact absurd z (sees_mem hc1); exact absurd z (sees_mem hc2)), fun _ _ z => absurd z lok.ne, fun _ _ _ z => absurd bnd z, fun _ _ _ _ z => absurd (show 200 ≤ rs.length from z) (by omega), fun _ _ _ _ _ H2 hN2 k2 => ?_⟩
          have lr : L1 ≠ r := by
            obtain ⟨us, hr, _⟩ := t.net.rt
            exact (ne_of_none hr nL1).symm
          have hL2 : H2 L1 = some (.lst [.str rd.one, .str rd.other, .int rd.mi, .int rd.tl, .bl rd.op]) := k2 _ _ hL1' (by simpa using lr)
          have nrL : Ll ∉ [r] := by simpa using t.dist.2.1.symm
          have hl2 : H2 Ll = some (.lst (rts.map V.ref)) := k2 _ _ (s1 _ _ t.ll) nrL
          walk_at "go"
          refine ⟨.inl ⟨rfl, _, SqL.of hl2⟩, ?_⟩
          walk_at "go"
          refine ⟨L1, _, rfl, SqL.of hL2, fun L3 nL3 => ?_⟩
          rw [show HO.lst (cutV [V.str rd.one, V.str rd.other, V.int rd.mi, V.int rd.tl, V.bl rd.op] none (some 4)) = HO.lst [.str rd.one, .str rd.other, .int rd.mi, .int rd.tl] from rfl]
          have s3 : Same H2 (upd H2 L3 (.lst [.str rd.one, .str rd.other, .int rd.mi, .int rd.tl])) := same_up nL3
          have hL3 : (upd H2 L3 (.lst [.str rd.one, .str rd.other, .int rd.mi, .int rd.tl])) L3 = some (.lst [.str rd.one, .str rd.other, .int rd.mi, .int rd.tl]) := upd_same
          generalize upd H2 L3 (.lst [.str rd.one, .str rd.other, .int rd.mi, .int rd.tl]) = H3 at s3 hL3
          walk_at "go"
          refine ⟨(by show 1 ≤ sizeLine; decide), fun L4 nL4 => ?_⟩
          have s4 : Same H3 (upd H3 L4 (.lst [.bl true])) := same_up nL4
          have hL4 : (upd H3 L4 (.lst [.bl true])) L4 = some (.lst [.bl true]) := upd_same
          generalize upd H3 L4 (.lst [.bl true]) = H4 at s4 hL4
          refine ⟨L3, L4, _, _, rfl, rfl, s4 _ _ hL3, hL4, (by show 5 ≤ sizeLine; decide), fun L5 nL5 => ?_⟩
          have s5 : Same H4 (upd H4 L5 (.lst ([.str rd.one, .str rd.other, .int rd.mi, .int rd.tl] ++ [.bl true]))) := same_up nL5
          have hL5 : (upd H4 L5 (.lst ([.str rd.one, .str rd.other, .int rd.mi, .int rd.tl] ++ [.bl true]))) L5 = some (.lst (roadVs ⟨rd.one, rd.other, rd.mi, rd.tl, true⟩)) := upd_same
          generalize upd H4 L5 (.lst ([.str rd.one, .str rd.other, .int rd.mi, .int rd.tl] ++ [.bl true])) = H5 at s5 hL5
          have s25 := s3.trans (s4.trans s5)
          walk_at "go"
          refine ⟨Ll, _, _, rfl, rfl, s25 _ _ hl2, Evl.sz_lt (by rw [List.length_map]; omega), ?_⟩
          have n5 : H2 L5 = none := (s3.trans s4).free nL5
          have n50 : H1 L5 = none := by
            cases e : H1 L5 with
            | none => rfl
            | some ob =>
              by_cases z : L5 = r
              · obtain ⟨us, hr, _⟩ := hN2.rt
                rw [z, hr] at n5
                cases n5
              · rw [k2 _ _ e (by simpa using z)] at n5
                cases n5
          have fin := (t.same s1).road (tn := L5) (rd := ⟨rd.one, rd.other, rd.mi, rd.tl, true⟩) hN2 k2 s25 n5 n50 hL5 ⟨lok.o1, lok.o2, lok.ne, lok.mi, lok.tl⟩
          rw [List.map_append] at fin
          exact ⟨_, _, _, _, rfl, fin⟩
      · walk_at "go"
        refine ⟨_, Lg, gts, gs, 1, rfl, t.lg, t.gl, t.gok, by omega, by decide, by decide, fun H1 L1 rd s1 nL1 hL1 lok => ?_⟩
        obtain ⟨dx1, hob1⟩ := (t.same s1).net.ob
        have hL1' : H1 L1 = some (.lst [.str rd.one, .str rd.other, .int rd.mi, .int rd.tl, .bl rd.op]) := hL1
        walk_at "go"
        refine ⟨p, dx1, _, rfl, hob1, netF_no _ _ (by decide +kernel) (by decide +kernel), ?_⟩
        walk_at "go"
        refine ⟨L1, _, _, _, rfl, rfl, SqL.of hL1', atI_nat (j := 0) rfl, ?_⟩
        walk_at "go"
        refine ⟨L1, _, _, _, rfl, rfl, SqL.of hL1', atI_nat (j := 1) rfl, ?_⟩
        walk_at "go"
        refine ⟨L1, _, _, _, rfl, rfl, SqL.of hL1', atI_nat (j := 2) rfl, ?_⟩
        walk_at "go"
        refine ⟨L1, _, _, _, rfl, rfl, SqL.of hL1', atI_nat (j := 3) rfl, ?_⟩
        walk_at "go"
        obtain ⟨c1, hc1⟩ := lok.o1
        obtain ⟨c2, hc2⟩ := lok.o2
        have n1 := t.gok.nm _ hc1
        have n2 := t.gok.nm _ hc2
        obtain ⟨jm, j1, j2, ejm⟩ := lok.mi
        have bnd : (1 ≤ rd.mi ∧ rd.mi ≤ 1000000) ∧ (0 ≤ rd.tl ∧ rd.tl ≤ 1000000) := ⟨by omega, lok.tl⟩
        refine ⟨p, g, r, _, rd.one, rd.other, rd.mi, rd.tl, rfl, (t.same s1).net, Nat.le_trans n1.1 (by decide), n1.2.1, Nat.le_trans n2.1 (by decide), n2.2.1, fun z => (by rcases z with z | z; exact absurd z (sees_mem hc1); exact absurd z (sees_mem hc2)), fun _ _ z => absurd z lok.ne, fun _ _ _ z => absurd bnd z, fun _ _ _ _ z => absurd (show 200 ≤ rs.length from z) (by omega), fun _ _ _ _ _ H2 hN2 k2 => ?_⟩
        have lr : L1 ≠ r := by
          obtain ⟨us, hr, _⟩ := t.net.rt
          exact (ne_of_none hr nL1).symm
        have hL2 : H2 L1 = some (.lst [.str rd.one, .str rd.other, .int rd.mi, .int rd.tl, .bl rd.op]) := k2 _ _ hL1' (by simpa using lr)
        have nrL : Ll ∉ [r] := by simpa using t.dist.2.1.symm
        have hl2 : H2 Ll = some (.lst (rts.map V.ref)) := k2 _ _ (s1 _ _ t.ll) nrL
        walk_at "go"
        refine ⟨.inl ⟨rfl, _, SqL.of hl2⟩, ?_⟩
        walk_at "go"
        refine ⟨L1, _, rfl, SqL.of hL2, fun L3 nL3 => ?_⟩
        rw [show HO.lst (cutV [V.str rd.one, V.str rd.other, V.int rd.mi, V.int rd.tl, V.bl rd.op] none (some 4)) = HO.lst [.str rd.one, .str rd.other, .int rd.mi, .int rd.tl] from rfl]
        have s3 : Same H2 (upd H2 L3 (.lst [.str rd.one, .str rd.other, .int rd.mi, .int rd.tl])) := same_up nL3
        have hL3 : (upd H2 L3 (.lst [.str rd.one, .str rd.other, .int rd.mi, .int rd.tl])) L3 = some (.lst [.str rd.one, .str rd.other, .int rd.mi, .int rd.tl]) := upd_same
        generalize upd H2 L3 (.lst [.str rd.one, .str rd.other, .int rd.mi, .int rd.tl]) = H3 at s3 hL3
        walk_at "go"
        refine ⟨(by show 1 ≤ sizeLine; decide), fun L4 nL4 => ?_⟩
        have s4 : Same H3 (upd H3 L4 (.lst [.bl true])) := same_up nL4
        have hL4 : (upd H3 L4 (.lst [.bl true])) L4 = some (.lst [.bl true]) := upd_same
        generalize upd H3 L4 (.lst [.bl true]) = H4 at s4 hL4
        refine ⟨L3, L4, _, _, rfl, rfl, s4 _ _ hL3, hL4, (by show 5 ≤ sizeLine; decide), fun L5 nL5 => ?_⟩
        have s5 : Same H4 (upd H4 L5 (.lst ([.str rd.one, .str rd.other, .int rd.mi, .int rd.tl] ++ [.bl true]))) := same_up nL5
        have hL5 : (upd H4 L5 (.lst ([.str rd.one, .str rd.other, .int rd.mi, .int rd.tl] ++ [.bl true]))) L5 = some (.lst (roadVs ⟨rd.one, rd.other, rd.mi, rd.tl, true⟩)) := upd_same
        generalize upd H4 L5 (.lst ([.str rd.one, .str rd.other, .int rd.mi, .int rd.tl] ++ [.bl true])) = H5 at s5 hL5
        have s25 := s3.trans (s4.trans s5)
        walk_at "go"
        refine ⟨Ll, _, _, rfl, rfl, s25 _ _ hl2, Evl.sz_lt (by rw [List.length_map]; omega), ?_⟩
        have n5 : H2 L5 = none := (s3.trans s4).free nL5
        have n50 : H1 L5 = none := by
          cases e : H1 L5 with
          | none => rfl
          | some ob =>
            by_cases z : L5 = r
            · obtain ⟨us, hr, _⟩ := hN2.rt
              rw [z, hr] at n5
              cases n5
            · rw [k2 _ _ e (by simpa using z)] at n5
              cases n5
        have fin := (t.same s1).road (tn := L5) (rd := ⟨rd.one, rd.other, rd.mi, rd.tl, true⟩) hN2 k2 s25 n5 n50 hL5 ⟨lok.o1, lok.o2, lok.ne, lok.mi, lok.tl⟩
        rw [List.map_append] at fin
        exact ⟨_, _, _, _, rfl, fin⟩
    · rintro σ' H' ⟨rts', gs', rs', v5, rfl, t'⟩
      walk_at "go"
      exact q _ H' rts' gs' rs' t'
end
end Toll

set_option Elab.async false
set_option linter.all false
set_option maxRecDepth 100000
set_option maxHeartbeats 4000000
namespace Toll
open PySem L2
local macro_rules | `(tactic| walk_at "go1") => `(tactic| first
  | refine ⟨_, rfl, ?_⟩
  | refine ⟨rfl, ?_⟩
  | refine ⟨_, _, rfl, rfl, ?_⟩
  | refine ⟨_, _, rfl, ?_⟩
  | (with_reducible refine' ⟨log_small ?k1 ?k2, ?_⟩; (case k1 => omega); (case k2 => omega))
  | (refine' ⟨?k1, ?_⟩; (case k1 => ((with_reducible show (_ : Int) < _); omega)))
  | (refine' ⟨⟨?k1, ?k2⟩, ?_⟩; (case k1 => omega); (case k2 => omega))
  | (refine' ⟨⟨?k1, ?k2, ?k3, ?k4⟩, ?_⟩; (case k1 => omega); (case k2 => omega); (case k3 => omega); (case k4 => omega))
  | (refine' ⟨.inl ⟨?k1, ?k2⟩, ?_⟩; (case k1 => omega); (case k2 => omega))
  | (refine' ⟨.inr ⟨?k1, ?k2⟩, ?_⟩; (case k1 => omega); (case k2 => omega))
  | (refine' ⟨Evl.sz_of ?k1, ?_⟩; (case k1 => omega))
  | (refine' ⟨?k1, ?_⟩; (case k1 => ((with_reducible show (_ : Int) ≤ _); omega)))
  | refine ⟨⟨_, rfl⟩, ?_⟩
  | refine .inl ⟨_, rfl, ?_⟩ | refine .inr ⟨_, rfl, ?_⟩
  | refine iteT ?_ | refine iteF ?_)
local macro_rules | `(tactic| walk_at "go") => `(tactic| repeat (walk_at "go1"))
local macro_rules | `(tactic| walk_at "ans") => `(tactic| (intro Q' q'; walk_at "go"; (try rw [dec_int]); (try rw [dec_str]); exact q'))
local macro_rules | `(tactic| walk_at "hp") => `(tactic| first | assumption | exact upd_same | (refine' up_same ?e ?h; (case e => assumption); (case h => walk_at "hp")) | (refine' upd_at ?n ?h; (case n => walk_at "ne"); (case h => walk_at "hp")))
local macro_rules | `(tactic| walk_at "ne") => `(tactic| first | assumption | (apply Ne.symm; assumption))
local macro_rules | `(tactic| walk_at "at") => `(tactic| first | exact atI_nat (j := 0) rfl | exact atI_nat (j := 1) rfl | exact atI_nat (j := 2) rfl | exact atI_nat (j := 3) rfl | exact atI_nat (j := 4) rfl)
local macro_rules | `(tactic| walk_at "step1") => `(tactic| first
  | walk_at "go1"
  | (apply ixL_step; (case h => walk_at "hp"); (case a => walk_at "at"))
  | (apply ixT_step; (case h => walk_at "hp"); (case a => walk_at "at"))
  | (apply lenL_step; (case h => walk_at "hp")))
local macro_rules | `(tactic| walk_at "step") => `(tactic| repeat (walk_at "step1"))
section
variable {P : Program} {w : World} {K : PySem.W.Frag} {mg : Str → Option Value} {base : Heap} {A : Ads}
def spSighted (A : Ads) : Sp := fun vs H Q _ => ∃ (H0 : Hp) (p g r wp sd o Kp Lg Ll : Addr) (gts rts : List Addr) (nms : List Str) (gs : List (Str × Bool)) (rs : List RoadD) (W : List CarE) (ps : List V) (nr nw nk : Nat) (num lag : Int) (car : Str), vs = [.ref wp, .ref o, .str car, .ref Lg, .int num, .int lag] ∧ 0 ≤ num ∧ 0 ≤ lag ∧ lag ≤ 8 ∧ NameOk car ∧ nw < 50 ∧
  St12 A.C_Watch A.C_Net H0 H p g r wp sd o Kp Lg Ll gts rts nms gs rs W ps nr nw nk ∧
  ∀ (v : V) (H' : Hp) (W' : List CarE), St12 A.C_Watch A.C_Net H0 H' p g r wp sd o Kp Lg Ll gts rts nms gs rs W' ps nr (nw + 1) nk → Q v H'
theorem ok_l_sighted (T : Txt K mg A) : DefOk P w K mg base CX0 3 A.l_sighted ["_law_watch", "_law_own", "_law_car", "_law_gates_here", "_law_number", "_law_lag"] (spSighted A) := by
  obtain ⟨_, G_W_saw, B_W_saw, K_W_saw⟩ := ok_W_saw (P := P) (w := w) (base := base) T
  obtain ⟨fd, F⟩ := T.F_l_sighted
  refine ⟨fd, ?_, F.binds (ps := ["_law_watch", "_law_own", "_law_car", "_law_gates_here", "_law_number", "_law_lag"]) fun _ _ _ _ _ _ us hl => match us, hl with | [_, _, _, _, _, _], _ => rfl, F.kp⟩
  refine F.ok sc_l_sighted (fun vs H Q E h => ?_) (fun cdv A' outer s H vs Q E hr h => ?_)
  · obtain ⟨H0, p, g, r, wp, sd, o, Kp, Lg, Ll, gts, rts, nms, gs, rs, W, ps, nr, nw, nk, num, lag, car, rfl, _⟩ := h
    rfl
  · obtain ⟨H0, p, g, r, wp, sd, o, Kp, Lg, Ll, gts, rts, nms, gs, rs, W, ps, nr, nw, nk, num, lag, car, rfl, m0, l0, l8, hcar, n50, t, q⟩ := h
    have hu := hu_of hr
    refine ⟨_, (pss_cons (ps_set (i := 6) sc_l_sighted.nd rfl (by first | exact Or.inl rfl | exact Or.inr rfl) (pe_ix (r := rIxL K) ix_list (pv 3) (pe_op op_mod (pv 4) (pe_callB call_len_seq (by rfl) T.b_len PySem.boot_len (pa_cons (pv 3) pa_nil))) (fun _ _ => rfl)))
      (C8.pss_cut (ps_if (PW.pt (pw_and (pt_val (pe_ix (r := rIxL K) ix_list (pv 6) pe_int (fun _ _ => rfl))) (pw_and1 (pt_cmpR op_lt (pe_callB call_len_seq (by rfl) T.b_len PySem.boot_len (pa_cons (pe_dget2 hu (pv 1) (pv 2) (pe_lst pa_nil) ⟨rfl, by rfl, by rfl, rfl⟩) pa_nil)) pe_int (nomark _))))) (pss_cons (ps_set (i := 7) sc_l_sighted.nd rfl (by first | exact Or.inl rfl | exact Or.inr rfl) (pv 5))
      (C8.pss_cut (ps_if (pt_cmp (pc_din hu (pv 2) (pv 1))) (pss_one (ps_set (i := 7) sc_l_sighted.nd rfl (by first | exact Or.inl rfl | exact Or.inr rfl) (pe_op op_add (pe_callB (cr_max rfl) (by rfl) T.b_max (by decide +kernel) (pa_cons (pe_lc (own := [("_law_pair", 8)]) rfl sc_l_sighted.nd (pi_list (pe_dget hu (pv 1) (pv 2) (fun _ _ => rfl))) (blkOk_by (own := [("_law_pair", 8)]) (N := n_l_sighted) (sc := defScope s_l_sighted) (by decide +kernel)) (fun _ _ _ _ _ => (pg_name (i := 8) sc_l_sighted.nd rfl (by first | exact Or.inl rfl | exact Or.inr rfl))) (fun _ _ _ _ _ => pts_nil) (fun _ _ _ _ _ => (pe_ix (r := rIxT K) ix_tup (pv 8) pe_int (fun _ _ => rfl)))) pa_nil)) (pv 5)))) pss_nil)
      (pss_cons (ps_expr (pe_meth (pv 0) T.c_Watch T.M_W_saw G_W_saw (hr.mono (by decide)) B_W_saw .nil passF (pa_cons (pv 2) (pa_cons (pe_ix (r := rIxL K) ix_list (pv 6) pe_int (fun _ _ => rfl)) (pa_cons (pv 7) pa_nil)))))
      (pss_one (ps_if (pt_cmpR (op_notInD (hu65_of hr)) (pe_tup (pa_cons (pv 7) (pa_cons (pe_ix (r := rIxL K) ix_list (pv 6) pe_int (fun _ _ => rfl)) pa_nil))) (pe_dget2 hu (pv 1) (pv 2) (pe_lst pa_nil) ⟨rfl, by rfl, by rfl, rfl⟩) rfl) (pss_one (ps_dput hu (pv 1) (pv 2) (pe_op op_cat (pe_dget2 hu (pv 1) (pv 2) (pe_lst pa_nil) ⟨rfl, by rfl, by rfl, rfl⟩) (pe_lst (pa_cons (pe_tup (pa_cons (pv 7) (pa_cons (pe_ix (r := rIxL K) ix_list (pv 6) pe_int (fun _ _ => rfl)) pa_nil))) pa_nil))) rfl)) pss_nil))))) pss_nil)
      (pss_one (ps_ret (pv 6))))), ?_⟩
    have gl := paired_len t.gl
    have g2 := t.gok.l2
    have wn := t.wn
    obtain ⟨dx, hob⟩ := t.wt.ob
    obtain ⟨kvs, hO, hP, hK⟩ := t.ow
    walk_at "go"
    refine ⟨Lg, _, rfl, .inl (SqL.of t.lg), ?_⟩
    rw [List.length_map, gl]
    walk_at "go"
    obtain ⟨j, ej, hj⟩ := mod_nat num (n := gs.length) (by omega)
    obtain ⟨tj, htj⟩ : ∃ tj, gts[j]? = some tj := ⟨_, List.getElem?_eq_getElem (by omega)⟩
    obtain ⟨⟨nm, c⟩, hgj, hcell⟩ := paired_getL t.gl htj
    have hcell : H tj = some (.lst [.str nm, .bl c]) := hcell
    have hv : (gts.map V.ref)[j]? = some (.ref tj) := by rw [List.getElem?_map, htj]; rfl
    refine ⟨Lg, _, _, _, rfl, rfl, SqL.of t.lg, atI_of (j := j) ej hv, ?_⟩
    have hnm : NameOk nm := t.gok.nm _ (List.mem_of_getElem? hgj)
    have hmem : nm ∈ nms := by rw [← t.nm]; exact List.mem_map.mpr ⟨_, List.mem_of_getElem? hgj, rfl⟩
    have hsee : seesOf gs nm = some c := sees_at t.gok.nd hgj
    walk_at "go"
    refine ⟨fun σ' H' => ∃ v7 v8 W', σ' = [some (.ref wp), some (.ref o), some (.str car), some (.ref Lg), some (.int num), some (.int lag), some (.ref tj), v7, v8] ∧ St12 A.C_Watch A.C_Net H0 H' p g r wp sd o Kp Lg Ll gts rts nms gs rs W' ps nr (nw + 1) nk, ?_, ?_⟩
    · have stay : ∀ {H' : Hp} v7 v8, Same H H' → ∃ v7' v8' W', ([some (.ref wp), some (.ref o), some (.str car), some (.ref Lg), some (.int num), some (.int lag), some (.ref tj), v7, v8] : List (Option V)) = [some (.ref wp), some (.ref o), some (.str car), some (.ref Lg), some (.int num), some (.int lag), some (.ref tj), v7', v8'] ∧ St12 A.C_Watch A.C_Net H0 H' p g r wp sd o Kp Lg Ll gts rts nms gs rs W' ps nr (nw + 1) nk := fun {H'} v7 v8 s => ⟨v7, v8, W, rfl, (t.same s).up (Nat.le_refl _) (by omega) (Nat.le_refl _)⟩
      walk_at "go"
      refine ⟨tj, _, _, _, rfl, rfl, SqL.of hcell, atI_nat (j := 1) rfl, ?_⟩
      walk_at "go"
      cases hc : c with
      | false =>
        walk_at "go"
        exact stay none none (Same.refl _)
      | true =>
        subst hc
        walk_at "go"
        refine ⟨.inl ⟨_, .inl hO⟩, ?_⟩
        walk_at "go"
        refine ⟨Nat.zero_le _, fun z nz => ?_⟩
        have s1 : Same H (upd H z (.lst [])) := same_up nz
        have hz : (upd H z (.lst [])) z = some (.lst []) := upd_same
        generalize upd H z (.lst []) = H1 at s1 hz
        have t1 := t.same s1
        have hO1 := s1 _ _ hO
        have hcell1 := s1 _ _ hcell
        have hP1 : Paired (OwnE H1) kvs W := own_keepM (M := LM r Kp Ll gts rts) (Keep.of_same (S := []) s1) (by simp) (by simp) hP hK
        obtain ⟨dx1, hob1⟩ := t1.wt.ob
        have hseeN : seesOf (NetD.mk gs rs).gates nm = some true := hsee
        cases ec : carOf W car with
        | none =>
          walk_at "go"
          refine ⟨none, (by have := DGet.k (k := Sum.inr car) hO1; rw [own_none hP ec] at this; exact this), ?_⟩
          walk_at "go"
          refine ⟨z, _, rfl, .inl (SqL.of hz), ?_⟩
          walk_at "go"
          refine ⟨fun σ' H' => σ' = [some (.ref wp), some (.ref o), some (.str car), some (.ref Lg), some (.int num), some (.int lag), some (.ref tj), some (.int lag), none] ∧ H1 = H', ?_, ?_⟩
          · walk_at "go"
            refine ⟨o, none, rfl, (by have := DGet.k (k := Sum.inr car) hO1; rw [own_none hP ec] at this; exact this), ?_⟩
            walk_at "go"
            first | exact ⟨rfl, rfl⟩ | exact rfl
          rintro σ' H' ⟨rfl, rfl⟩
          walk_at "go"
          refine ⟨wp, dx1, _, rfl, hob1, watchF_no _ _ (by decide +kernel) (by decide +kernel), ?_⟩
          walk_at "go"
          refine ⟨tj, _, _, _, rfl, rfl, SqL.of hcell1, atI_nat (j := 0) rfl, ?_⟩
          walk_at "go"
          refine ⟨wp, p, sd, g, r, _, W, car, nm, lag, rfl, t1.wt, t1.net, Nat.le_trans hcar.1 (by decide), hcar.2.1, Nat.le_trans hnm.1 (by decide), hnm.2.1, Nat.lt_of_le_of_lt (show lag.natAbs ≤ 8 by omega) (by decide +kernel), fun z => (by rw [hcar.2.2] at z; cases z), fun _ z => (by rw [hseeN] at z; cases z), fun _ z => (by rw [hseeN] at z; cases z), fun _ _ z => absurd ⟨l0, by omega⟩ z, fun _ _ _ _ => ⟨fun e he => (by rw [ec] at he; cases he), fun _ => by omega, fun _ H3 d nd w3 k3 => ?_, fun e he => (by rw [ec] at he; cases he), fun e he => (by rw [ec] at he; cases he)⟩⟩
          have hdS : ∀ x ∈ [sd], IsDic H1 x ∧ x ≠ g ∧ x ≠ o := fun x hx => by
            rw [List.mem_singleton] at hx
            rw [hx]
            exact ⟨t1.dic.2.1, t.dk.1.symm, t.dk.2.2⟩
          have hO3 := k3 _ _ hO1 (by simpa using t.dk.2.2.symm)
          have hcell3 := k3 _ _ hcell1 (fun m => (hdS _ m).1.noL _ hcell1)
          walk_at "go"
          refine ⟨tj, _, _, _, rfl, rfl, SqL.of hcell3, atI_nat (j := 0) rfl, ?_⟩
          walk_at "go"
          refine ⟨(by show 2 ≤ sizeLine; decide), fun tq xq => ?_⟩
          have s4 : Same H3 (upd H3 tq (.tup [.int lag, .str nm])) := same_up xq
          have h4 : (upd H3 tq (.tup [.int lag, .str nm])) tq = some (.tup [.int lag, .str nm]) := upd_same
          generalize upd H3 tq (.tup [.int lag, .str nm]) = H4 at s4 h4
          walk_at "go"
          refine ⟨.inl ⟨_, .inl (s4 _ _ hO3)⟩, ?_⟩
          walk_at "go"
          refine ⟨Nat.zero_le _, fun z5 x5 => ?_⟩
          have s5 : Same H4 (upd H4 z5 (.lst [])) := same_up x5
          have h5 : (upd H4 z5 (.lst [])) z5 = some (.lst []) := upd_same
          generalize upd H4 z5 (.lst []) = H5 at s5 h5
          walk_at "go"
          have s35 := s4.trans s5
          have hO5 := s35 _ _ hO3
          refine ⟨none, (by have := DGet.k (k := Sum.inr car) hO5; rw [own_none hP ec] at this; exact this), ?_⟩
          refine ⟨seenD1 (lag, nm), [], .tup (SqT.of (s5 _ _ h4)) (.cons (.int _) (.cons (.str _) .nil)), .lst (SqL.of h5) .nil, (seenOk (q := (lag, nm)) hnm).shaped (by decide), (by decide), ?_⟩
          walk_at "go"
          refine ⟨.inl ⟨_, .inl hO5⟩, ?_⟩
          walk_at "go"
          refine ⟨Nat.zero_le _, fun z6 x6 => ?_⟩
          have s6 : Same H5 (upd H5 z6 (.lst [])) := same_up x6
          have h6 : (upd H5 z6 (.lst [])) z6 = some (.lst []) := upd_same
          generalize upd H5 z6 (.lst []) = H6 at s6 h6
          walk_at "go"
          have hO6 := s6 _ _ hO5
          refine ⟨none, (by have := DGet.k (k := Sum.inr car) hO6; rw [own_none hP ec] at this; exact this), ?_⟩
          walk_at "go"
          refine ⟨tj, _, _, _, rfl, rfl, SqL.of ((s35.trans s6) _ _ hcell3), atI_nat (j := 0) rfl, ?_⟩
          walk_at "go"
          refine ⟨(by show 2 ≤ sizeLine; decide), fun t7 x7 => ?_⟩
          have s7 : Same H6 (upd H6 t7 (.tup [.int lag, .str nm])) := same_up x7
          have h7 : (upd H6 t7 (.tup [.int lag, .str nm])) t7 = some (.tup [.int lag, .str nm]) := upd_same
          generalize upd H6 t7 (.tup [.int lag, .str nm]) = H7 at s7 h7
          walk_at "go"
          refine ⟨(by show 1 ≤ sizeLine; decide), fun L8 x8 => ?_⟩
          have s8 : Same H7 (upd H7 L8 (.lst [.ref t7])) := same_up x8
          have h8 : (upd H7 L8 (.lst [.ref t7])) L8 = some (.lst [.ref t7]) := upd_same
          generalize upd H7 L8 (.lst [.ref t7]) = H8 at s8 h8
          walk_at "go"
          refine ⟨z6, L8, _, _, rfl, rfl, s8 _ _ (s7 _ _ h6), h8, (by show 1 ≤ sizeLine; decide), fun R nR => ?_⟩
          have s9 : Same H8 (upd H8 R (.lst ([] ++ [.ref t7]))) := same_up nR
          have hR9 : (upd H8 R (.lst ([] ++ [.ref t7]))) R = some (.lst ([] ++ [.ref t7])) := upd_same
          generalize upd H8 R (.lst ([] ++ [.ref t7])) = H9 at s9 hR9
          have s38 := s35.trans (s6.trans (s7.trans s8))
          have s39 := s38.trans s9
          have hO9 := s39 _ _ hO3
          have ht9 := s9 _ _ (s8 _ _ h7)
          walk_at "go"
          refine ⟨o, _, rfl, DPut.k (k := Sum.inr car) hO9 (small1000 (by rw [paired_len hP]; omega)), ?_⟩
          have hP9 : Paired (OwnE H9) kvs W := own_keepM (M := LM r Kp Ll gts rts) ((k3).trans (Keep.of_same s39)) (fun x hx => .inr (hdS x hx).1) (t1.noT fun x hx => .inr (hdS x hx).1) hP1 hK
          have hRL : ∀ x ∈ LM r Kp Ll gts rts, (V.ref R) ≠ .ref x := fun x hx z => by
            obtain ⟨xs, hx1⟩ := t1.lmL x hx
            have hx8 := s38 _ _ (k3 _ _ hx1 fun m => (hdS x m).1.noL _ hx1)
            rw [← V.ref.inj z, nR] at hx8
            cases hx8
          have hk' : ∀ kv ∈ putK kvs (Sum.inr car : Key) (.ref R), ∀ x ∈ LM r Kp Ll gts rts, kv.2 ≠ .ref x := fun kv hkv x hx => putK_vals (k := (Sum.inr car : Key)) (v := .ref R) (K := x) (fun kv hkv => hK kv hkv x hx) (hRL x hx) kv hkv
          have fin := t1.made (W' := W ++ [⟨car, d, [(lag, nm)]⟩]) (nw' := nw + 1) w3 k3 hdS (fun x hx => by rw [List.mem_singleton] at hx; rw [hx]; exact t.fd.2.1) s39 (own_add (d := d) hP9 ec hR9 (.cons ⟨t7, rfl, ht9⟩ .nil)) hk' (fun e he => by
            rcases List.mem_append.mp he with he | he
            · exact t.fw e he
            · rw [List.mem_singleton] at he
              rw [he]
              exact t1.s0.free nd) (by rw [List.length_append]; show W.length + 1 ≤ nw + 1; omega) (fun e he => by
            rcases List.mem_append.mp he with he | he
            · exact t.ws e he
            · rw [List.mem_singleton] at he
              rw [he]
              exact Sig.one hmem l0 l8)
          exact ⟨_, _, _, rfl, fin⟩
        | some e =>
          obtain ⟨a, us, hva, ha, hpa⟩ := own_some hP1 ec
          have hem := (carOf_some ec).1
          have hsig := t.ws e hem
          have nmok : ∀ y ∈ e.ss, NameOk y.2 := fun y hy => by
            have := hsig.nm y hy
            rw [← t.nm] at this
            obtain ⟨x, hx, ex⟩ := List.mem_map.mp this
            rw [← ex]
            exact t.gok.nm x hx
          walk_at "go"
          refine ⟨some (.ref a), (by have := DGet.k (k := Sum.inr car) hO1; rw [hva] at this; exact this), ?_⟩
          walk_at "go"
          refine ⟨a, us, rfl, .inl (SqL.of ha), ?_⟩
          rw [paired_len hpa]
          walk_at "go"
          refine ite2 (fun b4 => ?_) (fun b4 => ?_)
          rotate_left
          · exact stay _ _ s1
          have b4 : e.ss.length < 4 := by
            have := of_decide_eq_true b4
            omega
          walk_at "go"
          refine ⟨fun σ' H' => ∃ (m : Int) (v8 : Option V), σ' = [some (.ref wp), some (.ref o), some (.str car), some (.ref Lg), some (.int num), some (.int lag), some (.ref tj), some (.int (m + lag)), v8] ∧ Same H1 H' ∧ (∃ x ∈ e.ss, x.1 = m) ∧ ∀ x ∈ e.ss, x.1 ≤ m, ?_, ?_⟩
          · walk_at "go"
            refine ⟨o, some (.ref a), rfl, (by have := DGet.k (k := Sum.inr car) hO1; rw [hva] at this; exact this), ?_⟩
            walk_at "go"
            refine ⟨o, .ref a, rfl, (by have := DGet.k (k := Sum.inr car) hO1; rw [hva] at this; exact this), ?_⟩
            walk_at "go"
            refine ⟨⟨_, SqL.of ha⟩, fun D nD => ?_⟩
            refine lc_list (K := K) (a := a) (xs := us) (fun i H' => Same H1 H' ∧ H' D = some (.lst (((e.ss.take i).map (·.1)).map V.int))) ⟨same_up nD, upd_same⟩ (fun i H' _ ⟨sx, _⟩ => SqL.of (sx _ _ ha)) ?_ ?_
            · rintro i x H' hi ⟨sx, hD⟩
              obtain ⟨qx, hqx, tx, rfl, htx⟩ := paired_getL hpa hi
              have htx' := sx _ _ htx
              refine ⟨rfl, ?_⟩
              walk_at "go"
              refine ⟨tx, _, _, _, rfl, rfl, SqT.of htx', atI_nat (j := 0) rfl, ?_⟩
              refine ⟨_, hD, small1000 (by rw [List.length_map, List.length_map, List.length_take]; omega), same_new sx nD, ?_⟩
              rw [upd_same, List.take_add_one, hqx, List.map_append, List.map_append]
              rfl
            · rintro H' ⟨sx, hD⟩
              rw [paired_len hpa, List.take_length] at hD
              refine ⟨D, _, rfl, SqL.of hD, (by rw [List.length_map]; exact List.length_pos_iff.mpr hsig.ne), fun m hm hle => ?_⟩
              walk_at "go"
              obtain ⟨x, hx, ex⟩ := List.mem_map.mp hm
              refine ⟨sx, ⟨x, hx, ex⟩, fun y hy => hle _ (List.mem_map.mpr ⟨y, hy, rfl⟩)⟩
          rintro σ' H2 ⟨m, v8, rfl, s2, hmx, hle⟩
          have hO2 := s2 _ _ hO1
          have hcell2 := s2 _ _ hcell1
          have ha2 := s2 _ _ ha
          have hpa2 := seen_same s2 hpa
          have t2 := t1.same s2
          obtain ⟨dx2, hob2⟩ := t2.wt.ob
          have mT : 0 ≤ m + lag ∧ m + lag ≤ 100 := by
            obtain ⟨x, hx, ex⟩ := hmx
            have a1 := hsig.t0 x hx
            have a2 := hsig.t1 x hx
            omega
          walk_at "go"
          refine ⟨wp, dx2, _, rfl, hob2, watchF_no _ _ (by decide +kernel) (by decide +kernel), ?_⟩
          walk_at "go"
          refine ⟨tj, _, _, _, rfl, rfl, SqL.of hcell2, atI_nat (j := 0) rfl, ?_⟩
          walk_at "go"
          refine ⟨wp, p, sd, g, r, _, W, car, nm, m + lag, rfl, t2.wt, t2.net, Nat.le_trans hcar.1 (by decide), hcar.2.1, Nat.le_trans hnm.1 (by decide), hnm.2.1, Nat.lt_of_le_of_lt (show (m + lag).natAbs ≤ 100 by omega) (by decide +kernel), fun z => (by rw [hcar.2.2] at z; cases z), fun _ z => (by rw [hseeN] at z; cases z), fun _ z => (by rw [hseeN] at z; cases z), fun _ _ z => absurd ⟨mT.1, by omega⟩ z, fun _ _ _ _ => ⟨fun e' he' _ => (by rw [ec] at he'; obtain rfl := Option.some.inj he'; omega), fun z => (by rw [ec] at z; cases z), fun z => (by rw [ec] at z; cases z), fun e' he' hm H3 s3 => ?_, fun e' he' hm H3 w3 k3 => ?_⟩⟩
          · rw [ec] at he'
            obtain rfl := Option.some.inj he'
            have hO3 := s3 _ _ hO2
            walk_at "go"
            refine ⟨tj, _, _, _, rfl, rfl, SqL.of (s3 _ _ hcell2), atI_nat (j := 0) rfl, ?_⟩
            walk_at "go"
            refine ⟨(by show 2 ≤ sizeLine; decide), fun tq xq => ?_⟩
            have s4 : Same H3 (upd H3 tq (.tup [.int (m + lag), .str nm])) := same_up xq
            have h4 : (upd H3 tq (.tup [.int (m + lag), .str nm])) tq = some (.tup [.int (m + lag), .str nm]) := upd_same
            generalize upd H3 tq (.tup [.int (m + lag), .str nm]) = H4 at s4 h4
            walk_at "go"
            refine ⟨.inl ⟨_, .inl (s4 _ _ hO3)⟩, ?_⟩
            walk_at "go"
            refine ⟨Nat.zero_le _, fun z5 x5 => ?_⟩
            have s5 : Same H4 (upd H4 z5 (.lst [])) := same_up x5
            have h5 : (upd H4 z5 (.lst [])) z5 = some (.lst []) := upd_same
            generalize upd H4 z5 (.lst []) = H5 at s5 h5
            walk_at "go"
            have s35 := s4.trans s5
            have hO5 := s35 _ _ hO3
            refine ⟨some (.ref a), (by have := DGet.k (k := Sum.inr car) hO5; rw [hva] at this; exact this), ?_⟩
            have okL := seenL_ok (ss := e.ss) (fun y hy => (nmok y hy).2.1)
            refine ⟨seenD1 (m + lag, nm), e.ss.map seenD1, .tup (SqT.of (s5 _ _ h4)) (.cons (.int _) (.cons (.str _) .nil)), dp_seen (SqL.of (s35 _ _ (s3 _ _ ha2))) (seen_same s35 (seen_same s3 hpa2)), (seenOk (q := (m + lag, nm)) hnm).shaped (by decide), okL.shaped (by decide), ?_⟩
            rw [seen_any, decide_eq_true hm]
            walk_at "go"
            exact stay _ _ (s1.trans (s2.trans (s3.trans s35)))
          · rw [ec] at he'
            obtain rfl := Option.some.inj he'
            have dm : e.d ∈ wfoot sd W := List.mem_cons_of_mem _ (List.mem_map.mpr ⟨e, hem, rfl⟩)
            have hdS : ∀ x ∈ [e.d], IsDic H2 x ∧ x ≠ g ∧ x ≠ o := fun x hx => by
              rw [List.mem_singleton] at hx
              rw [hx]
              exact ⟨t2.wfDic _ dm, fun z => t.wfg.1 (by rw [← z]; exact dm), fun z => t.wfg.2 (by rw [← z]; exact dm)⟩
            have hO3 := k3 _ _ hO2 (fun z => (hdS o z).2.2 rfl)
            have hcell3 := k3 _ _ hcell2 (fun z => (hdS _ z).1.noL _ hcell2)
            have ha3 := k3 _ _ ha2 (fun z => (hdS _ z).1.noL _ ha2)
            have hpa3 : Paired (SeenV H3) us e.ss := L2.Paired.mapP hpa2 fun _ _ ⟨x, ex, hx⟩ => ⟨x, ex, k3 _ _ hx fun z => (hdS _ z).1.noT _ hx⟩
            have hP1 : Paired (OwnE H2) kvs W := own_keepM (M := LM r Kp Ll gts rts) (Keep.of_same (S := []) s2) (by simp) (by simp) hP1 hK
            have t1 := t2
            walk_at "go"
            refine ⟨tj, _, _, _, rfl, rfl, SqL.of hcell3, atI_nat (j := 0) rfl, ?_⟩
            walk_at "go"
            refine ⟨(by show 2 ≤ sizeLine; decide), fun tq xq => ?_⟩
            have s4 : Same H3 (upd H3 tq (.tup [.int (m + lag), .str nm])) := same_up xq
            have h4 : (upd H3 tq (.tup [.int (m + lag), .str nm])) tq = some (.tup [.int (m + lag), .str nm]) := upd_same
            generalize upd H3 tq (.tup [.int (m + lag), .str nm]) = H4 at s4 h4
            walk_at "go"
            refine ⟨.inl ⟨_, .inl (s4 _ _ hO3)⟩, ?_⟩
            walk_at "go"
            refine ⟨Nat.zero_le _, fun z5 x5 => ?_⟩
            have s5 : Same H4 (upd H4 z5 (.lst [])) := same_up x5
            have h5 : (upd H4 z5 (.lst [])) z5 = some (.lst []) := upd_same
            generalize upd H4 z5 (.lst []) = H5 at s5 h5
            walk_at "go"
            have s35 := s4.trans s5
            have hO5 := s35 _ _ hO3
            refine ⟨some (.ref a), (by have := DGet.k (k := Sum.inr car) hO5; rw [hva] at this; exact this), ?_⟩
            have okL := seenL_ok (ss := e.ss) (fun y hy => (nmok y hy).2.1)
            refine ⟨seenD1 ((m + lag), nm), e.ss.map seenD1, .tup (SqT.of (s5 _ _ h4)) (.cons (.int _) (.cons (.str _) .nil)), dp_seen (SqL.of (s35 _ _ ha3)) (seen_same s35 hpa3), (seenOk (q := ((m + lag), nm)) hnm).shaped (by decide), okL.shaped (by decide), ?_⟩
            rw [seen_any, decide_eq_false hm]
            walk_at "go"
            refine ⟨.inl ⟨_, .inl hO5⟩, ?_⟩
            walk_at "go"
            refine ⟨Nat.zero_le _, fun z6 x6 => ?_⟩
            have s6 : Same H5 (upd H5 z6 (.lst [])) := same_up x6
            have h6 : (upd H5 z6 (.lst [])) z6 = some (.lst []) := upd_same
            generalize upd H5 z6 (.lst []) = H6 at s6 h6
            walk_at "go"
            have hO6 := s6 _ _ hO5
            refine ⟨some (.ref a), (by have := DGet.k (k := Sum.inr car) hO6; rw [hva] at this; exact this), ?_⟩
            walk_at "go"
            refine ⟨tj, _, _, _, rfl, rfl, SqL.of ((s35.trans s6) _ _ hcell3), atI_nat (j := 0) rfl, ?_⟩
            walk_at "go"
            refine ⟨(by show 2 ≤ sizeLine; decide), fun t7 x7 => ?_⟩
            have s7 : Same H6 (upd H6 t7 (.tup [.int (m + lag), .str nm])) := same_up x7
            have h7 : (upd H6 t7 (.tup [.int (m + lag), .str nm])) t7 = some (.tup [.int (m + lag), .str nm]) := upd_same
            generalize upd H6 t7 (.tup [.int (m + lag), .str nm]) = H7 at s7 h7
            walk_at "go"
            refine ⟨(by show 1 ≤ sizeLine; decide), fun L8 x8 => ?_⟩
            have s8 : Same H7 (upd H7 L8 (.lst [.ref t7])) := same_up x8
            have h8 : (upd H7 L8 (.lst [.ref t7])) L8 = some (.lst [.ref t7]) := upd_same
            generalize upd H7 L8 (.lst [.ref t7]) = H8 at s8 h8
            walk_at "go"
            refine ⟨a, L8, _, _, rfl, rfl, s8 _ _ (s7 _ _ (s6 _ _ (s35 _ _ ha3))), h8, small1000 (show us.length ≤ 1000 by rw [paired_len hpa]; omega), fun R nR => ?_⟩
            have s9 : Same H8 (upd H8 R (.lst (us ++ [.ref t7]))) := same_up nR
            have hR9 : (upd H8 R (.lst (us ++ [.ref t7]))) R = some (.lst (us ++ [.ref t7])) := upd_same
            generalize upd H8 R (.lst (us ++ [.ref t7])) = H9 at s9 hR9
            have s38 := s35.trans (s6.trans (s7.trans s8))
            have s39 := s38.trans s9
            have hO9 := s39 _ _ hO3
            have ht9 := s9 _ _ (s8 _ _ h7)
            walk_at "go"
            refine ⟨o, _, rfl, DPut.k (k := Sum.inr car) hO9 (small1000 (by rw [paired_len hP]; omega)), ?_⟩
            have hP9 : Paired (OwnE H9) kvs W := own_keepM (M := LM r Kp Ll gts rts) ((k3).trans (Keep.of_same s39)) (fun x hx => .inr (hdS x hx).1) (t1.noT fun x hx => .inr (hdS x hx).1) hP1 hK
            have hRL : ∀ x ∈ LM r Kp Ll gts rts, (V.ref R) ≠ .ref x := fun x hx z => by
              obtain ⟨xs, hx1⟩ := t1.lmL x hx
              have hx8 := s38 _ _ (k3 _ _ hx1 fun m => (hdS x m).1.noL _ hx1)
              rw [← V.ref.inj z, nR] at hx8
              cases hx8
            have hk' : ∀ kv ∈ putK kvs (Sum.inr car : Key) (.ref R), ∀ x ∈ LM r Kp Ll gts rts, kv.2 ≠ .ref x := fun kv hkv x hx => putK_vals (k := (Sum.inr car : Key)) (v := .ref R) (K := x) (fun kv hkv => hK kv hkv x hx) (hRL x hx) kv hkv
            have fin := t1.made (W' := setSs W car (e.ss ++ [(m + lag, nm)])) (nw' := nw + 1) w3 k3 hdS (fun x hx => by rw [List.mem_singleton] at hx; rw [hx]; exact t.fw e hem) s39 (own_set hP9 ec hR9 (paired_snoc ⟨t7, rfl, ht9⟩ (seen_same s39 hpa3))) hk' (fun e2 he2 => by
              obtain ⟨e1, h1, hd1, _⟩ := setSs_mem he2
              rw [hd1]
              exact t.fw e1 h1) (by unfold setSs; rw [List.length_map]; omega) (fun e2 he2 => by
              obtain ⟨e1, h1, _, _, ⟨_, h2⟩ | ⟨_, rfl⟩⟩ := setSs_mem he2
              · rw [h2]
                exact hsig.more hmem hmx hle (by show m ≤ m + lag; omega) (by show m + lag ≤ m + 8; omega) b4
              · exact t.ws _ h1)
            exact ⟨_, _, _, rfl, fin⟩
    · rintro σ' H' ⟨v7, v8, W', rfl, t'⟩
      walk_at "go"
      exact q _ H' W' t'
end
end Toll

set_option Elab.async false
set_option linter.all false
set_option maxRecDepth 100000
set_option maxHeartbeats 4000000
namespace Toll
open PySem L2
local macro_rules | `(tactic| walk_at "go1") => `(tactic| first
  | refine ⟨_, rfl, ?_⟩
  | refine ⟨rfl, ?_⟩
  | refine ⟨_, _, rfl, rfl, ?_⟩
  | refine ⟨_, _, rfl, ?_⟩
  | (with_reducible refine' ⟨log_small ?k1 ?k2, ?_⟩; (case k1 => omega); (case k2 => omega))
  | (refine' ⟨?k1, ?_⟩; (case k1 => ((with_reducible show (_ : Int) < _); omega)))
  | (refine' ⟨⟨?k1, ?k2⟩, ?_⟩; (case k1 => omega); (case k2 => omega))
  | (refine' ⟨⟨?k1, ?k2, ?k3, ?k4⟩, ?_⟩; (case k1 => omega); (case k2 => omega); (case k3 => omega); (case k4 => omega))
  | (refine' ⟨.inl ⟨?k1, ?k2⟩, ?_⟩; (case k1 => omega); (case k2 => omega))
  | (refine' ⟨.inr ⟨?k1, ?k2⟩, ?_⟩; (case k1 => omega); (case k2 => omega))
  | (refine' ⟨Evl.sz_of ?k1, ?_⟩; (case k1 => omega))
  | (refine' ⟨?k1, ?_⟩; (case k1 => ((with_reducible show (_ : Int) ≤ _); omega)))
  | refine ⟨⟨_, rfl⟩, ?_⟩
  | refine .inl ⟨_, rfl, ?_⟩ | refine .inr ⟨_, rfl, ?_⟩
  | refine iteT ?_ | refine iteF ?_)
local macro_rules | `(tactic| walk_at "go") => `(tactic| repeat (walk_at "go1"))
local macro_rules | `(tactic| walk_at "ans") => `(tactic| (intro Q' q'; walk_at "go"; (try rw [dec_int]); (try rw [dec_str]); exact q'))
local macro_rules | `(tactic| walk_at "hp") => `(tactic| first | assumption | exact upd_same | (refine' up_same ?e ?h; (case e => assumption); (case h => walk_at "hp")) | (refine' upd_at ?n ?h; (case n => walk_at "ne"); (case h => walk_at "hp")))
local macro_rules | `(tactic| walk_at "ne") => `(tactic| first | assumption | (apply Ne.symm; assumption))
local macro_rules | `(tactic| walk_at "at") => `(tactic| first | exact atI_nat (j := 0) rfl | exact atI_nat (j := 1) rfl | exact atI_nat (j := 2) rfl | exact atI_nat (j := 3) rfl | exact atI_nat (j := 4) rfl)
local macro_rules | `(tactic| walk_at "step1") => `(tactic| first
  | walk_at "go1"
  | (apply ixL_step; (case h => walk_at "hp"); (case a => walk_at "at"))
  | (apply ixT_step; (case h => walk_at "hp"); (case a => walk_at "at"))
  | (apply lenL_step; (case h => walk_at "hp")))
local macro_rules | `(tactic| walk_at "step") => `(tactic| repeat (walk_at "step1"))
section
variable {P : Program} {w : World} {K : PySem.W.Frag} {mg : Str → Option Value} {base : Heap} {A : Ads}
def spLaw (K : PySem.W.Frag) : Sp := fun vs H Q _ => ∃ (a : Addr) (ns : List Int), vs = [.ref a] ∧ SqL K H a (ns.map V.int) ∧ ns.length ≤ 63 ∧ ∀ H', Q (.bl true) H'
theorem ok_law {f : Addr} {fd : FuncData} (F : Fun K "law" "law" s_law f fd) (T : Txt K mg A) : FnOk P w K mg base CX0 10 f fd ["_law_script"] (spLaw K) := by
  obtain ⟨_, G_l_mixed, B_l_mixed, K_l_mixed⟩ := ok_l_mixed (P := P) (w := w) (base := base) T
  obtain ⟨_, G_l_cell_at, B_l_cell_at, K_l_cell_at⟩ := ok_l_cell_at (P := P) (w := w) (base := base) T
  obtain ⟨_, G_l_name, B_l_name, K_l_name⟩ := ok_l_name (P := P) (w := w) (base := base) T
  obtain ⟨_, G_l_line, B_l_line, K_l_line⟩ := ok_l_line (P := P) (w := w) (base := base) T
  obtain ⟨_, G_l_net, B_l_net, K_l_net⟩ := ok_l_net (P := P) (w := w) (base := base) T
  obtain ⟨_, G_W_init, B_W_init, K_W_init⟩ := ok_W_init (P := P) (w := w) (base := base) T
  obtain ⟨_, G_W_forget, B_W_forget, K_W_forget⟩ := ok_W_forget (P := P) (w := w) (base := base) T
  obtain ⟨_, G_l_sighted, B_l_sighted, K_l_sighted⟩ := ok_l_sighted (P := P) (w := w) (base := base) T
  obtain ⟨_, G_l_turned, B_l_turned, K_l_turned⟩ := ok_l_turned (P := P) (w := w) (base := base) T
  obtain ⟨_, G_l_stands, B_l_stands, K_l_stands⟩ := ok_l_stands (P := P) (w := w) (base := base) T
  obtain ⟨_, G_l_kept_well, B_l_kept_well, K_l_kept_well⟩ := ok_l_kept_well (P := P) (w := w) (base := base) T
  refine F.ok sc_law (fun vs H Q E h => ?_) (fun cdv A' outer s H vs Q E hr h => ?_)
  · obtain ⟨a, ns, rfl, _⟩ := h
    rfl
  · obtain ⟨a, ns, rfl, hS, hl, q⟩ := h
    have hu := hu_of hr
    refine ⟨_, (pss_cons (ps_set (i := 1) sc_law.nd rfl (by first | exact Or.inl rfl | exact Or.inr rfl) (pe_call G_l_mixed (hr.mono (by decide)) rfl T.m_l_mixed K_l_mixed B_l_mixed .nil pass0 (pa_cons (pv 0) (pa_cons pe_int pa_nil))))
      (pss_cons (ps_set (i := 2) sc_law.nd rfl (by first | exact Or.inl rfl | exact Or.inr rfl) (pe_lc (own := [("_law_turn", 12)]) rfl sc_law.nd (pi_range1 (by rfl) T.b_range (pa_cons (pe_op op_add pe_int (pe_op op_mod (pe_call G_l_cell_at (hr.mono (by decide)) rfl T.m_l_cell_at K_l_cell_at B_l_cell_at .nil pass0 (pa_cons (pv 0) (pa_cons pe_int pa_nil))) pe_int)) pa_nil)) (blkOk_by (own := [("_law_turn", 12)]) (N := n_law) (sc := defScope s_law) (by decide +kernel)) (fun _ _ _ _ _ => (pg_name (i := 12) sc_law.nd rfl (by first | exact Or.inl rfl | exact Or.inr rfl))) (fun _ _ _ _ _ => pts_nil) (fun _ _ _ _ _ => (pe_lst (pa_cons (pe_call G_l_name (hr.mono (by decide)) rfl T.m_l_name K_l_name B_l_name .nil pass0 (pa_cons (pv 1) (pa_cons (pv 12) pa_nil))) (pa_cons (pe_cmpR op_ne (pe_op op_mod (pv 12) pe_int) pe_int (nomark _)) pa_nil))))))
      (pss_cons (ps_setLc (i := 3) (own := [("_law_k", 9)]) rfl sc_law.nd rfl rfl (sw_true rfl rfl rfl (by decide +kernel)) (pi_range1 (by rfl) T.b_range (pa_cons (pe_op op_mod (pe_call G_l_mixed (hr.mono (by decide)) rfl T.m_l_mixed K_l_mixed B_l_mixed .nil pass0 (pa_cons (pv 0) (pa_cons pe_int pa_nil))) pe_int) pa_nil)) (blkOk_by (own := [("_law_k", 9)]) (N := n_law) (sc := defScope s_law) (by decide +kernel)) (fun _ _ _ _ _ => (pg_name (i := 9) sc_law.nd rfl (by first | exact Or.inl rfl | exact Or.inr rfl))) (fun _ _ _ _ _ => pts_nil) (fun _ _ _ _ _ => (pe_call G_l_line (hr.mono (by decide)) rfl T.m_l_line K_l_line B_l_line .nil pass0 (pa_cons (pe_call G_l_mixed (hr.mono (by decide)) rfl T.m_l_mixed K_l_mixed B_l_mixed .nil pass0 (pa_cons (pv 0) (pa_cons (pe_op op_add pe_int (pv 9)) pa_nil))) (pa_cons (pv 2) (pa_cons pe_int pa_nil))))))
      (pss_cons (ps_set (i := 4) sc_law.nd rfl (by first | exact Or.inl rfl | exact Or.inr rfl) (pe_call G_l_net (hr.mono (by decide)) rfl T.m_l_net K_l_net B_l_net .nil pass0 (pa_cons (pv 2) (pa_cons (pv 3) pa_nil))))
      (pss_cons (ps_set (i := 5) sc_law.nd rfl (by first | exact Or.inl rfl | exact Or.inr rfl) (pe_make T.M_Watch G_W_init (hr.mono (by decide)) rfl T.g_Watch B_W_init .nil pass0 (pa_cons (pv 4) pa_nil)))
      (pss_cons (ps_set (i := 6) sc_law.nd rfl (by first | exact Or.inl rfl | exact Or.inr rfl) pe_dnewK)
      (pss_cons (ps_setLc (i := 7) (own := [("_law_turn", 12)]) rfl sc_law.nd rfl rfl (sw_true rfl rfl rfl (by decide +kernel)) (pi_range1 (by rfl) T.b_range (pa_cons pe_int pa_nil)) (blkOk_by (own := [("_law_turn", 12)]) (N := n_law) (sc := defScope s_law) (by decide +kernel)) (fun _ _ _ _ _ => (pg_name (i := 12) sc_law.nd rfl (by first | exact Or.inl rfl | exact Or.inr rfl))) (fun _ _ _ _ _ => pts_nil) (fun _ _ _ _ _ => (pe_call G_l_name (hr.mono (by decide)) rfl T.m_l_name K_l_name B_l_name .nil pass0 (pa_cons (pe_op op_fdiv (pv 1) pe_int) (pa_cons (pv 12) pa_nil)))))
      (pss_cons (ps_set (i := 8) sc_law.nd rfl (by first | exact Or.inl rfl | exact Or.inr rfl) (pe_lst pa_nil))
      (pss_cons (ps_for PassesOwn.never rfl (pi_range1 (by rfl) T.b_range (pa_cons (pe_callB (call_min2 rfl) (by rfl) T.b_min (by decide +kernel) (pa_cons pe_int (pa_cons (pe_op op_fdiv (pe_callB call_len_seq (by rfl) T.b_len PySem.boot_len (pa_cons (pv 0) pa_nil)) pe_int) pa_nil))) pa_nil)) (pg_name (i := 9) sc_law.nd rfl (by first | exact Or.inl rfl | exact Or.inr rfl)) (pss_cons (ps_set (i := 10) sc_law.nd rfl (by first | exact Or.inl rfl | exact Or.inr rfl) (pe_call G_l_mixed (hr.mono (by decide)) rfl T.m_l_mixed K_l_mixed B_l_mixed .nil pass0 (pa_cons (pv 0) (pa_cons (pe_op op_mul pe_int (pv 9)) pa_nil))))
      (pss_cons (ps_set (i := 11) sc_law.nd rfl (by first | exact Or.inl rfl | exact Or.inr rfl) (pe_ix (r := rIxL K) ix_list (pv 7) (pe_op op_mod (pe_op op_fdiv (pv 10) pe_int) pe_int) (fun _ _ => rfl)))
      (C8.pss_cut (ps_if (pt_cmpR op_lt (pe_op op_mod (pv 10) pe_int) pe_int (nomark _)) (pss_one (ps_expr (pe_call G_l_sighted (hr.mono (by decide)) rfl T.m_l_sighted K_l_sighted B_l_sighted .nil pass0 (pa_cons (pv 5) (pa_cons (pv 6) (pa_cons (pv 11) (pa_cons (pv 2) (pa_cons (pe_op op_fdiv (pv 10) pe_int) (pa_cons (pe_op op_mod (pe_call G_l_mixed (hr.mono (by decide)) rfl T.m_l_mixed K_l_mixed B_l_mixed .nil pass0 (pa_cons (pv 0) (pa_cons (pe_op op_add (pe_op op_mul pe_int (pv 9)) pe_int) pa_nil))) pe_int) pa_nil))))))))) (pss_one (ps_if (PW.pt (pw_and (pt_cmpR op_eq (pe_op op_mod (pv 10) pe_int) pe_int (nomark _)) (pw_and1 (pt_cmp (pc_din hu (pv 11) (pv 6)))))) (pss_cons (ps_expr (pe_meth (pv 5) T.c_Watch T.M_W_forget G_W_forget (hr.mono (by decide)) B_W_forget .nil passF (pa_cons (pv 11) pa_nil)))
      (pss_one (ps_expr (pe_dpop1 (pv 6) (pv 11) ⟨rfl, by rfl, by rfl, rfl⟩)))) (pss_one (ps_expr (pe_call G_l_turned (hr.mono (by decide)) rfl T.m_l_turned K_l_turned B_l_turned .nil pass0 (pa_cons (pv 4) (pa_cons (pv 2) (pa_cons (pv 3) (pa_cons (pe_call G_l_mixed (hr.mono (by decide)) rfl T.m_l_mixed K_l_mixed B_l_mixed .nil pass0 (pa_cons (pv 0) (pa_cons (pe_op op_add (pe_op op_mul pe_int (pv 9)) pe_int) pa_nil))) pa_nil))))))))))
      (pss_one (ps_if (pt_not (pt_val (pe_call G_l_stands (hr.mono (by decide)) rfl T.m_l_stands K_l_stands B_l_stands .nil pass0 (pa_cons (pv 4) (pa_cons (pv 5) (pa_cons (pv 6) (pa_cons (pv 2) (pa_cons (pv 3) (pa_cons (pv 8) pa_nil))))))))) (pss_one (ps_ret pe_bl)) pss_nil))))))
      (pss_one (ps_ret (pe_call G_l_kept_well (hr.mono (by decide)) rfl T.m_l_kept_well K_l_kept_well B_l_kept_well .nil pass0 (pa_cons (pv 8) pa_nil))))))))))))), ?_⟩
    walk_at "go"
    refine ⟨a, ns, 3, rfl, hS, by decide, by decide, ?_⟩
    have m3 := mixed_pos ns 3
    generalize mixed ns 3 = b at m3
    walk_at "go"
    refine ⟨a, ns, 0, rfl, hS, by decide, ?_⟩
    generalize cellAt ns 0 = c0
    obtain ⟨n, en, n2, n6⟩ : ∃ n : Nat, (2 + c0 % 5).toNat = n ∧ 2 ≤ n ∧ n ≤ 6 := ⟨_, rfl, by omega, by omega⟩
    have gok := gates12_ok m3.1 n2 n6
    walk_at "go"
    intro Lg nLg
    refine lc_range (lo := 0) (n := _) (fun i H' => Same H H' ∧ ∃ gts : List Addr, H' Lg = some (.lst (gts.map V.ref)) ∧ GL H' gts (gates12 b i) ∧ (∀ t ∈ gts, H t = none) ∧ (Lg :: gts).Nodup)
      ⟨same_up nLg, [], upd_same, .nil, by simp, by simp⟩ ?_ ?_
    · rintro i H1 hi ⟨s1, gts, hL1, hG1, hf1, hn1⟩
      refine ⟨rfl, ?_⟩
      have gl1 := paired_len hG1
      have gl2 : (gates12 b i).length = i := by simp [gates12]
      walk_at "go"
      intro H2 s2
      walk_at "go"
      refine ⟨(by show 2 ≤ sizeLine; decide), fun t nt => ?_⟩
      have hL2 := s2 _ _ hL1
      have s3 := s1.trans s2
      have htL : Lg ≠ t := ne_of_none hL2 nt
      have s4 : Same H2 (upd H2 t (.lst [.str (nameOf b (0 + (i : Int))), .bl (!decide (V.int ((0 + (i : Int)) % 3) = V.int 1))])) := same_up nt
      have hL3 := s4 _ _ hL2
      have nt1 := s3.free nt
      have tn : t ∉ Lg :: gts := fun m => by
        rcases List.mem_cons.mp m with e | m
        · exact htL e.symm
        · exact (hG1.same s2).fresh nt m
      refine ⟨_, hL3, Evl.sz_lt (by rw [List.length_map]; omega), same_new (s3.trans s4) nLg, gts ++ [t], by rw [upd_same, List.map_append]; rfl, ?_, fun x hx => ?_, ?_⟩
      · unfold gates12
        rw [List.range_succ, List.map_append]
        refine Paired.snoc (((hG1.same s2).same s4).upd (List.nodup_cons.mp hn1).1) ?_
        rw [upd_ne htL.symm, upd_same]
        show some (HO.lst [V.str (nameOf b (0 + (i : Int))), V.bl (!decide (V.int ((0 + (i : Int)) % 3) = V.int 1))]) = some (HO.lst [V.str (nameOf b (i : Int)), V.bl (decide ((i : Int) % 3 ≠ 1))])
        rw [dec_int, Int.zero_add]
        by_cases z : (i : Int) % 3 = 1 <;> simp [z]
      · rcases List.mem_append.mp hx with h | h
        · exact hf1 x h
        · rw [List.mem_singleton] at h
          rw [h]
          exact nt1
      · rw [← List.cons_append, List.nodup_append]
        exact ⟨hn1, by simp, fun x hx y hy e => tn (by rw [List.mem_singleton] at hy; rw [← hy, ← e]; exact hx)⟩
    rintro H1 ⟨s1, gts, hLg, hG, hfg, hng⟩
    rw [en] at hG
    have gl := paired_len hG
    walk_at "go"
    refine ⟨a, ns, 19, rfl, s1.seq hS, by decide, by decide, ?_⟩
    have m19 := mixed_pos ns 19
    generalize mixed ns 19 = m at m19
    obtain ⟨l, el, l7⟩ : ∃ l : Nat, (m % 7).toNat = l ∧ l ≤ 6 := ⟨_, rfl, by omega⟩
    walk_at "go"
    intro Ll nLl
    refine lc_range (lo := 0) (n := _) (fun i H' => Same H1 H' ∧ ∃ (rts : List Addr) (rs : List RoadD), H' Ll = some (.lst (rts.map V.ref)) ∧ RL H' rts rs ∧ (∀ t ∈ rts, H1 t = none) ∧ (Ll :: rts).Nodup ∧ rs.length = i ∧ ∀ r ∈ rs, LineOk (gates12 b n) 1 r)
      ⟨same_up nLl, [], [], upd_same, .nil, by simp, by simp, rfl, by simp⟩ ?_ ?_
    · rintro i H2 hi ⟨sH, rts, rs, hL1, hR, hfr, hnd, hlen, hok⟩
      have rl := paired_len hR
      have m1 := mixed_pos ns (40 + (0 + (i : Int)))
      refine ⟨rfl, ?_⟩
      walk_at "go"
      refine ⟨a, ns, _, rfl, (s1.trans sH).seq hS, by omega, by omega, ?_⟩
      walk_at "go"
      refine ⟨_, Lg, gts, gates12 b n, 1, rfl, sH _ _ hLg, hG.same sH, gok, m1.1, by decide, by decide, fun H3 t r s2 nt ht hr' => ?_⟩
      have hL2 := s2 _ _ hL1
      have htL : Ll ≠ t := fun z => by rw [← z, hL1] at nt; cases nt
      have tn : t ∉ Ll :: rts := fun m => by
        rcases List.mem_cons.mp m with e | m
        · exact htL e.symm
        · exact hR.fresh nt m
      refine ⟨_, hL2, Evl.sz_lt (by rw [List.length_map]; omega), same_new (sH.trans s2) nLl, rts ++ [t], rs ++ [r], by rw [upd_same, List.map_append]; rfl, ?_, fun x hx => ?_, ?_, by simp; omega, fun x hx => ?_⟩
      · refine Paired.snoc ((hR.same s2).upd (List.nodup_cons.mp hnd).1) ?_
        rw [upd_ne htL.symm]
        exact ht
      · rcases List.mem_append.mp hx with h | h
        · exact hfr x h
        · rw [List.mem_singleton] at h
          rw [h]
          exact sH.free nt
      · rw [← List.cons_append, List.nodup_append]
        exact ⟨hnd, by simp, fun x hx y hy e => tn (by rw [List.mem_singleton] at hy; rw [← hy, ← e]; exact hx)⟩
      · rcases List.mem_append.mp hx with h | h
        · exact hok x h
        · rw [List.mem_singleton] at h
          rw [h]
          exact hr'
    rintro H2 ⟨s2, rts, rs, hLl, hR, hfr, hnr, hrl, hok⟩
    have rl := paired_len hR
    walk_at "go"
    refine ⟨Lg, Ll, gts, rts, gates12 b n, rs, 1, rfl, s2 _ _ hLg, hG.same s2, gok, hLl, hR, (by omega), (by decide), (by decide), hok, fun H3 p g r s3 np ng nr hN => ?_⟩
    walk_at "go"
    intro wp dx nwp ndx ne
    refine ⟨wp, dx, p, rfl, upd_same, fun sd H4 nsd hW k4 => ⟨rfl, ?_⟩⟩
    have sa : Same H3 (upd (upd H3 dx (.own wp)) wp (.ins A.C_Watch dx [])) := same_new (same_up ndx) nwp
    have s4 : Same H3 H4 := same_keep sa k4 fun x hx => by rw [List.mem_singleton] at hx; rw [hx]; exact nwp
    replace nsd := sa.free nsd
    clear k4 sa
    walk_at "go"
    intro o no
    have s5 := same_up (o := HO.dK []) no
    have ho : (upd H4 o (.dK [])) o = some (.dK []) := upd_same
    generalize upd H4 o (.dK []) = H5 at s5 ho
    walk_at "go"
    intro Lc nLc
    refine lc_range (lo := 0) (n := 2) (fun i H' => Same H5 H' ∧ H' Lc = some (.lst ((List.range i).map fun k : Nat => V.str (nameOf (b / 5) (k : Int)))))
      ⟨same_up nLc, upd_same⟩ ?_ ?_
    · rintro i Hd hi ⟨sd', hLd⟩
      refine ⟨rfl, ?_⟩
      walk_at "go"
      intro He se
      refine ⟨_, se _ _ hLd, small1000' (by rw [List.length_map, List.length_range]; omega), same_new (sd'.trans se) nLc, ?_⟩
      rw [upd_same, List.range_succ, List.map_append, Int.zero_add]
      rfl
    rintro H6 ⟨s6, hLc⟩
    walk_at "go"
    refine ⟨Nat.zero_le _, fun Kp nKp => ?_⟩
    have s7 := same_up (o := HO.lst []) nKp
    have hKp : (upd H6 Kp (.lst [])) Kp = some (.lst []) := upd_same
    generalize upd H6 Kp (.lst []) = H7 at s7 hKp
    have hLc7 := s7 _ _ hLc
    have s45 := s4.trans s5
    have s36 := s45.trans s6
    have s37 := s36.trans s7
    have s47 := (s5.trans s6).trans s7
    have sH2 := s1.trans s2
    have sH3 := sH2.trans s3
    have sH5 := sH3.trans s45
    have sH6 := sH3.trans s36
    have sH7 := sH3.trans s37
    have s26 := s3.trans s36
    have nLcH := sH5.free nLc
    have s0 : Same (upd H Lc (.lst ((List.range 2).map fun k : Nat => V.str (nameOf (b / 5) (k : Int))))) H7 := fun x v hx => by
      by_cases e : x = Lc
      · rw [e] at hx ⊢
        rw [upd_same] at hx
        rw [hLc7]
        exact hx
      · rw [upd_ne e] at hx
        exact sH7 _ _ hx
    have none0 : ∀ {x : Addr}, H x = none → x ≠ Lc → (upd H Lc (.lst ((List.range 2).map fun k : Nat => V.str (nameOf (b / 5) (k : Int))))) x = none := fun {x} h e => by
      rw [upd_ne e]
      exact h
    have hLc0 : (upd H Lc (.lst ((List.range 2).map fun k : Nat => V.str (nameOf (b / 5) (k : Int))))) Lc = some (.lst ((List.range 2).map fun k : Nat => V.str (nameOf (b / 5) (k : Int)))) := upd_same
    have sH0 : Same H (upd H Lc (.lst ((List.range 2).map fun k : Nat => V.str (nameOf (b / 5) (k : Int))))) := same_up nLcH
    generalize upd H Lc (.lst ((List.range 2).map fun k : Nat => V.str (nameOf (b / 5) (k : Int)))) = H0 at s0 none0 hLc0 sH0
    obtain ⟨us3, hr3, _⟩ := id hN.rt
    have n5 : ∀ {x : Addr} {v : HO}, H5 x = some v → x ≠ Lc := fun {x v} h => ne_of_none h nLc
    have n6 : ∀ {x : Addr} {v : HO}, H6 x = some v → x ≠ Kp := fun {x v} h => ne_of_none h nKp
    have hG2 := hG.same s2
    have hLg2 := s2 _ _ hLg
    have aG : ∀ x ∈ gts, ∃ v, H1 x = some v := fun x hx => by
      obtain ⟨i, hi⟩ := List.getElem?_of_mem hx
      obtain ⟨y, _, hy⟩ := paired_getL hG hi
      exact ⟨_, hy⟩
    have aR : ∀ x ∈ rts, ∃ v, H2 x = some v := fun x hx => by
      obtain ⟨i, hi⟩ := List.getElem?_of_mem hx
      obtain ⟨y, _, hy⟩ := paired_getL hR hi
      exact ⟨_, hy⟩
    have s25 := s3.trans s45
    have kf : H0 Kp = none := none0 (sH6.free nKp) (ne_of_none hLc nKp).symm
    have st : St12 A.C_Watch A.C_Net H0 H7 p g r wp sd o Kp Lg Ll gts rts ((gates12 b n).map (·.1)) (gates12 b n) rs [] [] 6 0 0 := by
      have hr6 := (s4.trans (s5.trans s6)) _ _ hr3
      have dKL : ∀ x, (∃ v, H6 x = some v) → x ≠ Kp := fun x ⟨v, h⟩ => ne_of_none h nKp
      have dCL : ∀ x, (∃ v, H5 x = some v) → x ≠ Lc := fun x ⟨v, h⟩ => ne_of_none h nLc
      have gts5 : ∀ x ∈ gts, ∃ v, H5 x = some v := fun x hx => by
        obtain ⟨v, h⟩ := aG x hx
        exact ⟨v, s25 _ _ (s2 _ _ h)⟩
      have rts5 : ∀ x ∈ rts, ∃ v, H5 x = some v := fun x hx => by
        obtain ⟨v, h⟩ := aR x hx
        exact ⟨v, s25 _ _ h⟩
      have nrK : r ≠ Kp := dKL r ⟨_, hr6⟩
      have nrL : r ≠ Ll := (ne_of_none hLl nr).symm
      have nKL : Kp ≠ Ll := (dKL Ll ⟨_, s26 _ _ hLl⟩).symm
      have hr5 := s45 _ _ hr3
      refine ⟨s0, ⟨ne_of_none hN.gt nsd, ne_of_none (s4 _ _ hN.gt) no, ne_of_none hW.sd no⟩, ?_, ?_, ⟨none0 (sH2.free ng) (dCL g ⟨_, s45 _ _ hN.gt⟩), none0 (sH3.free nsd) (dCL sd ⟨_, s5 _ _ hW.sd⟩), none0 ((sH3.trans s4).free no) (dCL o ⟨_, ho⟩)⟩, (by simp), hN.same s37, s37 _ _ (s3 _ _ hLg2), ?_, hG2.same (s3.trans s37), s37 _ _ (s3 _ _ hLl), hR.same (s3.trans s37), hW.same s47, ⟨[], (s6.trans s7) _ _ ho, .nil, by simp⟩, hKp, (by simp), gok, hok, rfl, (by omega), (by simp), (by simp), (by simp)⟩
      · unfold LM
        have c1 := List.nodup_cons.mp hng
        have c2 := List.nodup_cons.mp hnr
        refine List.nodup_cons.mpr ⟨?_, List.nodup_cons.mpr ⟨?_, List.nodup_cons.mpr ⟨?_, List.nodup_append.mpr ⟨c1.2, c2.2, fun x hx y hy e => ?_⟩⟩⟩⟩
        · simp only [List.mem_cons, List.mem_append, not_or]
          exact ⟨nrK, nrL, hG2.fresh nr, hR.fresh nr⟩
        · simp only [List.mem_cons, List.mem_append, not_or]
          exact ⟨nKL, (hG2.same s26).fresh nKp, (hR.same s26).fresh nKp⟩
        · simp only [List.mem_append, not_or]
          exact ⟨hG.fresh nLl, c2.1⟩
        · obtain ⟨v, h⟩ := aG x hx
          have := hfr y hy
          rw [← e, h] at this
          cases this
      · intro x hx
        unfold LM at hx
        simp only [List.mem_cons, List.mem_append] at hx
        rcases hx with rfl | rfl | rfl | hx | hx
        · exact none0 (sH2.free nr) (dCL _ ⟨_, hr5⟩)
        · exact kf
        · exact none0 (s1.free nLl) (dCL _ ⟨_, s25 _ _ hLl⟩)
        · exact none0 (hfg x hx) (dCL _ (gts5 x hx))
        · exact none0 (s1.free (hfr x hx)) (dCL _ (rts5 x hx))
      · intro m
        unfold LM at m
        simp only [List.mem_cons, List.mem_append] at m
        rcases m with m | m | m | m | m
        · exact ne_of_none hLg2 nr m
        · exact dKL Lg ⟨_, s26 _ _ hLg2⟩ m
        · exact ne_of_none hLg nLl m
        · exact (List.nodup_cons.mp hng).1 m
        · have := hfr _ m
          rw [hLg] at this
          cases this
    clear hLc7 s45 s36 s37 s47 none0 n5 n6 hG2 hLg2 aG aR s25
    walk_at "go"
    refine ⟨a, _, rfl, .inl (sH7.seq hS), ?_⟩
    walk_at "go"
    have n9 : ((if ((ns.map V.int).length : Int) / 2 < 9 then ((ns.map V.int).length : Int) / 2 else 9) : Int).toNat ≤ 9 := by split <;> omega
    have n62 : ((if ((ns.map V.int).length : Int) / 2 < 9 then ((ns.map V.int).length : Int) / 2 else 9) : Int) < 2 ^ 62 ∧ -2 ^ 62 ≤ ((if ((ns.map V.int).length : Int) / 2 < 9 then ((ns.map V.int).length : Int) / 2 else 9) : Int) := by split <;> omega
    generalize ((if ((ns.map V.int).length : Int) / 2 < 9 then ((ns.map V.int).length : Int) / 2 else 9) : Int) = cnt at n9 n62
    refine for_range (lo := 0) (n := _) (fun i σ' H' => (∃ v9 v10 v11, σ' = [some (.ref a), some (.int b), some (.ref Lg), some (.ref Ll), some (.ref p), some (.ref wp), some (.ref o), some (.ref Lc), some (.ref Kp), v9, v10, v11, none]) ∧ ∃ rts gs rs W ps, St12 A.C_Watch A.C_Net H0 H' p g r wp sd o Kp Lg Ll gts rts ((gates12 b n).map (·.1)) gs rs W ps (6 + i) i (20 * i))
      ⟨⟨_, _, _, rfl⟩, rts, _, rs, [], [], st⟩ ?_ ?_
    · rintro i σ' H8 hi ⟨⟨v9, v10, v11, rfl⟩, rts, gs, rs, W, ps, t⟩
      have hi : i < 9 := by omega
      have sH8 := sH0.trans t.s0
      walk_at "go"
      refine ⟨a, ns, _, rfl, sH8.seq hS, by omega, by omega, ?_⟩
      have mp := mixed_pos ns (2 * (0 + (i : Int)))
      generalize mixed ns (2 * (0 + (i : Int))) = num at mp
      have hLc8 := t.s0 _ _ hLc0
      obtain ⟨j, ej, hj⟩ := mod_nat (num / 11) (n := 2) (by decide)
      have ej : num / 11 % 2 = (j : Int) := ej
      walk_at "go"
      have cok := nameOk_of (b := b / 5) (t := (j : Int)) (by omega) (by omega)
      have hcv : ((List.range 2).map fun k : Nat => V.str (nameOf (b / 5) (k : Int)))[j]? = some (V.str (nameOf (b / 5) (j : Int))) := by
        rw [List.getElem?_map, List.getElem?_range hj]
        rfl
      generalize nameOf (b / 5) (j : Int) = c at cok hcv
      refine ⟨Lc, _, _, _, rfl, rfl, SqL.of hLc8, atI_of (j := j) (by omega) hcv, ?_⟩
      refine ⟨fun σ' H' => (∃ v9 v10 v11, σ' = [some (.ref a), some (.int b), some (.ref Lg), some (.ref Ll), some (.ref p), some (.ref wp), some (.ref o), some (.ref Lc), some (.ref Kp), v9, v10, v11, none]) ∧ ∃ rts gs rs W ps, St12 A.C_Watch A.C_Net H0 H' p g r wp sd o Kp Lg Ll gts rts ((gates12 b n).map (·.1)) gs rs W ps (6 + i + 1) (i + 1) (20 * i), ?_, ?_⟩
      · dsimp only [gName, List.set]
        refine do_if (decide (num % 11 < 6)) (fun Q' q' => ?_) (fun _ => ?_) (fun _ => ?_)
        · walk_at "go"
          exact q'
        · walk_at "go"
          refine ⟨a, ns, _, rfl, sH8.seq hS, by omega, by omega, ?_⟩
          have mp2 := mixed_pos ns (2 * (0 + (i : Int)) + 1)
          generalize mixed ns (2 * (0 + (i : Int)) + 1) = lag at mp2
          walk_at "go"
          refine ⟨H0, p, g, r, wp, sd, o, Kp, Lg, Ll, gts, rts, _, gs, rs, W, ps, 6 + i, i, 20 * i, num / 22, lag % 9, c, rfl, by omega, by omega, by omega, cok, by omega, t, fun v H9 W' t9 => ?_⟩
          exact ⟨⟨_, _, _, rfl⟩, rts, gs, rs, W', ps, t9.up (by omega) (by omega) (by omega)⟩
        · have turned : ∀ (σ : L2.St), True := fun _ => trivial
          obtain ⟨kvs, hO, hP, hK⟩ := id t.ow
          refine do_if (decide (num % 11 = 6) && (carOf W c).isSome) (an_and (fun Q' q' => ?_) (fun _ => fun Q' q' => ?_)) (fun hb => ?_) (fun _ => ?_)
          · walk_at "go"
            show Q' (decide (V.int (num % 11) = V.int 6)) _
            rw [dec_int]
            exact q'
          · walk_at "go"
            cases ec : carOf W c with
            | none =>
              refine ⟨o, none, rfl, (by have := DGet.k (k := Sum.inr c) hO; rw [own_none hP ec] at this; exact this), ?_⟩
              rw [ec] at q'
              exact ⟨_, rfl, q'⟩
            | some e =>
              obtain ⟨a1, us, hva, ha, hpa⟩ := own_some hP ec
              refine ⟨o, some (.ref a1), rfl, (by have := DGet.k (k := Sum.inr c) hO; rw [hva] at this; exact this), ?_⟩
              rw [ec] at q'
              exact ⟨_, rfl, q'⟩
          · cases ec : carOf W c with
            | none =>
              rw [ec] at hb
              simp at hb
            | some e =>
              obtain ⟨a1, us, hva, ha, hpa⟩ := own_some hP ec
              obtain ⟨i1, i2, i3, i4⟩ := t.dic
              obtain ⟨dx8, hob8⟩ := t.wt.ob
              walk_at "go"
              refine ⟨wp, dx8, _, rfl, hob8, watchF_no _ _ (by decide +kernel) (by decide +kernel), ?_⟩
              walk_at "go"
              refine ⟨wp, p, sd, W, c, rfl, t.wt, by have := cok.1; omega, cok.2.1, fun z => (by rw [ec] at z; cases z), fun e' _ H9 w9 k9 => ?_⟩
              have hO9 := k9 _ _ hO (by simpa using t.dk.2.2.symm)
              walk_at "go"
              refine ⟨.inl ⟨_, .inl hO9⟩, ?_⟩
              walk_at "go"
              refine ⟨kvs, Sum.inr c, _, hO9, rfl, hva, ?_⟩
              have hP9 := own_keepM (M := []) k9 (fun x hx => .inr (by rw [List.mem_singleton] at hx; rw [hx]; exact i2)) (fun x hx => t.noT (S := [sd]) (fun x hx => .inr (by rw [List.mem_singleton] at hx; rw [hx]; exact i2)) x hx) hP (by simp)
              refine ⟨⟨_, _, _, rfl⟩, rts, gs, rs, W.filter fun e => decide (e.car ≠ c), ps, ?_⟩
              refine (t.made (nw' := i + 1) w9 k9 (fun x hx => ?_) (fun x hx => ?_) (Same.refl _) (own_drop hP9 c) (fun kv hkv => ?_) (fun e he => t.fw e (List.mem_filter.mp he).1) (Nat.le_trans (List.length_filter_le _ _) (Nat.le_trans t.wn (by omega))) (fun e he => t.ws e (List.mem_filter.mp he).1)).up (by omega) (Nat.le_refl _) (Nat.le_refl _)
              · rw [List.mem_singleton] at hx
                rw [hx]
                exact ⟨i2, t.dk.1.symm, t.dk.2.2⟩
              · rw [List.mem_singleton] at hx
                rw [hx]
                exact t.fd.2.1
              · exact hK kv (List.mem_filter.mp hkv).1
          · walk_at "go"
            refine ⟨a, ns, _, rfl, sH8.seq hS, by omega, by omega, ?_⟩
            have mp2 := mixed_pos ns (2 * (0 + (i : Int)) + 1)
            generalize mixed ns (2 * (0 + (i : Int)) + 1) = lag at mp2
            walk_at "go"
            refine ⟨H0, p, g, r, wp, sd, o, Kp, Lg, Ll, gts, rts, _, gs, rs, W, ps, 6 + i, i, 20 * i, lag, rfl, mp2.1, by omega, by omega, t, fun v H9 rts' gs' rs' t9 => ?_⟩
            exact ⟨⟨_, _, _, rfl⟩, rts', gs', rs', W, ps, t9.up (by omega) (by omega) (by omega)⟩
      · rintro σ' H9 ⟨⟨v9, v10, v11, rfl⟩, rts, gs, rs, W, ps, t⟩
        walk_at "go"
        refine ⟨H0, p, g, r, wp, sd, o, Kp, Lg, Ll, gts, rts, _, gs, rs, W, ps, 6 + i + 1, i + 1, 20 * i, rfl, by omega, by omega, by omega, t, fun H10 ps' t10 => ?_⟩
        walk_at "go"
        exact ⟨⟨_, _, _, rfl⟩, rts, gs, rs, W, ps', t10.up (by omega) (by omega) (by omega)⟩
    · rintro σ' H8 ⟨⟨v9, v10, v11, rfl⟩, rts, gs, rs, W, ps, t⟩
      walk_at "go"
      exact ⟨Kp, ps, _, rfl, t.kp, t.kk, q _⟩
end
end Toll

set_option Elab.async false
set_option maxRecDepth 100000
set_option maxHeartbeats 4000000
namespace Toll
open PySem L2
theorem all_mk {l : PySem.W.OpenLaw} {w : World} {K : PySem.W.Frag} {h : Heap} {mg : Str → Option Value} {fa o_Net o_Watch o_NoName o_SameGate o_FullNet o_NoGate o_NoNumber o_NoRoad o_Already o_NoTime o_Blind o_NoCar o_NoSight f_wall f_rows_until f_least f_roads_to f_ways_by_gate f_go_on f_leg f_guess f_need_sightings f_passed_between f_bill f_total f_is_name f_N_init f_N_gate f_N_road f_N_blind f_N_mend f_N_close f_N_reopen f_N_gates f_N_roads f_N_leaving f_N_need_gate f_N__turn_gate f_N__turn_road f_W_init f_W_saw f_W_seen f_W_cars f_W_forget f_W__need_car f_l_cell_at f_l_whole f_l_mixed f_l_name f_l_line f_l_net f_l_costs f_l_least f_l_due f_l_turned f_l_sighted f_l_bill_stands f_l_leg_stands f_l_guesses_stand f_l_stands f_l_kept_well f_law : Addr} (X : K.In h) (G : h.Ns mainGlobals mg) (hfa : mg "law" = some (.ref fa))
    {od_wall an_wall od_rows_until an_rows_until od_least an_least od_roads_to an_roads_to od_ways_by_gate an_ways_by_gate od_go_on an_go_on od_leg an_leg od_guess an_guess od_need_sightings an_need_sightings od_passed_between an_passed_between od_bill an_bill od_total an_total od_is_name an_is_name od_N_init an_N_init od_N_gate an_N_gate od_N_road an_N_road od_N_blind an_N_blind od_N_mend an_N_mend od_N_close an_N_close od_N_reopen an_N_reopen od_N_gates an_N_gates od_N_roads an_N_roads od_N_leaving an_N_leaving od_N_need_gate an_N_need_gate od_N__turn_gate an_N__turn_gate od_N__turn_road an_N__turn_road od_W_init an_W_init od_W_saw an_W_saw od_W_seen an_W_seen od_W_cars an_W_cars od_W_forget an_W_forget od_W__need_car an_W__need_car od_l_cell_at an_l_cell_at od_l_whole an_l_whole od_l_mixed an_l_mixed od_l_name an_l_name od_l_line an_l_line od_l_net an_l_net od_l_costs an_l_costs od_l_least an_l_least od_l_due an_l_due od_l_turned an_l_turned od_l_sighted an_l_sighted od_l_bill_stands an_l_bill_stands od_l_leg_stands an_l_leg_stands od_l_guesses_stand an_l_guesses_stand od_l_stands an_l_stands od_l_kept_well an_l_kept_well od_law an_law : Option Addr} {sl_wall sl_rows_until sl_least sl_roads_to sl_ways_by_gate sl_go_on sl_leg sl_guess sl_need_sightings sl_passed_between sl_bill sl_total sl_is_name sl_N_init sl_N_gate sl_N_road sl_N_blind sl_N_mend sl_N_close sl_N_reopen sl_N_gates sl_N_roads sl_N_leaving sl_N_need_gate sl_N__turn_gate sl_N__turn_road sl_W_init sl_W_saw sl_W_seen sl_W_cars sl_W_forget sl_W__need_car sl_l_cell_at sl_l_whole sl_l_mixed sl_l_name sl_l_line sl_l_net sl_l_costs sl_l_least sl_l_due sl_l_turned sl_l_sighted sl_l_bill_stands sl_l_leg_stands sl_l_guesses_stand sl_l_stands sl_l_kept_well sl_law : Array (Option Value)} {oc_wall kV_wall dc_wall pm_wall cd_wall ct_wall oc_rows_until kV_rows_until dc_rows_until pm_rows_until cd_rows_until ct_rows_until oc_least kV_least dc_least pm_least cd_least ct_least oc_roads_to kV_roads_to dc_roads_to pm_roads_to cd_roads_to ct_roads_to oc_ways_by_gate kV_ways_by_gate dc_ways_by_gate pm_ways_by_gate cd_ways_by_gate ct_ways_by_gate oc_go_on kV_go_on dc_go_on pm_go_on cd_go_on ct_go_on oc_leg kV_leg dc_leg pm_leg cd_leg ct_leg oc_guess kV_guess dc_guess pm_guess cd_guess ct_guess oc_need_sightings kV_need_sightings dc_need_sightings pm_need_sightings cd_need_sightings ct_need_sightings oc_passed_between kV_passed_between dc_passed_between pm_passed_between cd_passed_between ct_passed_between oc_bill kV_bill dc_bill pm_bill cd_bill ct_bill oc_total kV_total dc_total pm_total cd_total ct_total oc_is_name kV_is_name dc_is_name pm_is_name cd_is_name ct_is_name oc_N_init kV_N_init dc_N_init pm_N_init cd_N_init ct_N_init oc_N_gate kV_N_gate dc_N_gate pm_N_gate cd_N_gate ct_N_gate oc_N_road kV_N_road dc_N_road pm_N_road cd_N_road ct_N_road oc_N_blind kV_N_blind dc_N_blind pm_N_blind cd_N_blind ct_N_blind oc_N_mend kV_N_mend dc_N_mend pm_N_mend cd_N_mend ct_N_mend oc_N_close kV_N_close dc_N_close pm_N_close cd_N_close ct_N_close oc_N_reopen kV_N_reopen dc_N_reopen pm_N_reopen cd_N_reopen ct_N_reopen oc_N_gates kV_N_gates dc_N_gates pm_N_gates cd_N_gates ct_N_gates oc_N_roads kV_N_roads dc_N_roads pm_N_roads cd_N_roads ct_N_roads oc_N_leaving kV_N_leaving dc_N_leaving pm_N_leaving cd_N_leaving ct_N_leaving oc_N_need_gate kV_N_need_gate dc_N_need_gate pm_N_need_gate cd_N_need_gate ct_N_need_gate oc_N__turn_gate kV_N__turn_gate dc_N__turn_gate pm_N__turn_gate cd_N__turn_gate ct_N__turn_gate oc_N__turn_road kV_N__turn_road dc_N__turn_road pm_N__turn_road cd_N__turn_road ct_N__turn_road oc_W_init kV_W_init dc_W_init pm_W_init cd_W_init ct_W_init oc_W_saw kV_W_saw dc_W_saw pm_W_saw cd_W_saw ct_W_saw oc_W_seen kV_W_seen dc_W_seen pm_W_seen cd_W_seen ct_W_seen oc_W_cars kV_W_cars dc_W_cars pm_W_cars cd_W_cars ct_W_cars oc_W_forget kV_W_forget dc_W_forget pm_W_forget cd_W_forget ct_W_forget oc_W__need_car kV_W__need_car dc_W__need_car pm_W__need_car cd_W__need_car ct_W__need_car oc_l_cell_at kV_l_cell_at dc_l_cell_at pm_l_cell_at cd_l_cell_at ct_l_cell_at oc_l_whole kV_l_whole dc_l_whole pm_l_whole cd_l_whole ct_l_whole oc_l_mixed kV_l_mixed dc_l_mixed pm_l_mixed cd_l_mixed ct_l_mixed oc_l_name kV_l_name dc_l_name pm_l_name cd_l_name ct_l_name oc_l_line kV_l_line dc_l_line pm_l_line cd_l_line ct_l_line oc_l_net kV_l_net dc_l_net pm_l_net cd_l_net ct_l_net oc_l_costs kV_l_costs dc_l_costs pm_l_costs cd_l_costs ct_l_costs oc_l_least kV_l_least dc_l_least pm_l_least cd_l_least ct_l_least oc_l_due kV_l_due dc_l_due pm_l_due cd_l_due ct_l_due oc_l_turned kV_l_turned dc_l_turned pm_l_turned cd_l_turned ct_l_turned oc_l_sighted kV_l_sighted dc_l_sighted pm_l_sighted cd_l_sighted ct_l_sighted oc_l_bill_stands kV_l_bill_stands dc_l_bill_stands pm_l_bill_stands cd_l_bill_stands ct_l_bill_stands oc_l_leg_stands kV_l_leg_stands dc_l_leg_stands pm_l_leg_stands cd_l_leg_stands ct_l_leg_stands oc_l_guesses_stand kV_l_guesses_stand dc_l_guesses_stand pm_l_guesses_stand cd_l_guesses_stand ct_l_guesses_stand oc_l_stands kV_l_stands dc_l_stands pm_l_stands cd_l_stands ct_l_stands oc_l_kept_well kV_l_kept_well dc_l_kept_well pm_l_kept_well cd_l_kept_well ct_l_kept_well oc_law kV_law dc_law pm_law cd_law ct_law : Value}
    {t_SMALL_SIGNS t_MOST_SIGNS t_NAME_SIGNS t_MOST_GATES t_MOST_ROADS t_MOST_MINUTES t_MOST_TOLL t_LAST_TIME : Tok}
    (a_Net : PySem.W.nsIn K mainGlobals "Net" = some (some (.ref o_Net)))
    (a_Watch : PySem.W.nsIn K mainGlobals "Watch" = some (some (.ref o_Watch)))
    (a_NoName : PySem.W.nsIn K mainGlobals "NoName" = some (some (.ref o_NoName)))
    (a_SameGate : PySem.W.nsIn K mainGlobals "SameGate" = some (some (.ref o_SameGate)))
    (a_FullNet : PySem.W.nsIn K mainGlobals "FullNet" = some (some (.ref o_FullNet)))
    (a_NoGate : PySem.W.nsIn K mainGlobals "NoGate" = some (some (.ref o_NoGate)))
    (a_NoNumber : PySem.W.nsIn K mainGlobals "NoNumber" = some (some (.ref o_NoNumber)))
    (a_NoRoad : PySem.W.nsIn K mainGlobals "NoRoad" = some (some (.ref o_NoRoad)))
    (a_Already : PySem.W.nsIn K mainGlobals "Already" = some (some (.ref o_Already)))
    (a_NoTime : PySem.W.nsIn K mainGlobals "NoTime" = some (some (.ref o_NoTime)))
    (a_Blind : PySem.W.nsIn K mainGlobals "Blind" = some (some (.ref o_Blind)))
    (a_NoCar : PySem.W.nsIn K mainGlobals "NoCar" = some (some (.ref o_NoCar)))
    (a_NoSight : PySem.W.nsIn K mainGlobals "NoSight" = some (some (.ref o_NoSight)))
    (a_wall : PySem.W.nsIn K mainGlobals "_wall" = some (some (.ref f_wall)))
    (l_wall : K.lookup f_wall = some ⟨oc_wall, od_wall, .func (PySem.W.fnOf "_wall" "_wall" (defArgs s_wall) (defBody s_wall) (defScope s_wall) .none kV_wall dc_wall pm_wall an_wall cd_wall ct_wall), sl_wall⟩) (c_wall : PySem.W.codeIn K cd_wall "_wall" = true) (k_wall : PySem.W.keepIn K (.ref f_wall) = true)
    (a_rows_until : PySem.W.nsIn K mainGlobals "rows_until" = some (some (.ref f_rows_until)))
    (l_rows_until : K.lookup f_rows_until = some ⟨oc_rows_until, od_rows_until, .func (PySem.W.fnOf "rows_until" "rows_until" (defArgs s_rows_until) (defBody s_rows_until) (defScope s_rows_until) .none kV_rows_until dc_rows_until pm_rows_until an_rows_until cd_rows_until ct_rows_until), sl_rows_until⟩) (c_rows_until : PySem.W.codeIn K cd_rows_until "rows_until" = true) (k_rows_until : PySem.W.keepIn K (.ref f_rows_until) = true)
    (a_least : PySem.W.nsIn K mainGlobals "least" = some (some (.ref f_least)))
    (l_least : K.lookup f_least = some ⟨oc_least, od_least, .func (PySem.W.fnOf "least" "least" (defArgs s_least) (defBody s_least) (defScope s_least) .none kV_least dc_least pm_least an_least cd_least ct_least), sl_least⟩) (c_least : PySem.W.codeIn K cd_least "least" = true) (k_least : PySem.W.keepIn K (.ref f_least) = true)
    (a_roads_to : PySem.W.nsIn K mainGlobals "roads_to" = some (some (.ref f_roads_to)))
    (l_roads_to : K.lookup f_roads_to = some ⟨oc_roads_to, od_roads_to, .func (PySem.W.fnOf "roads_to" "roads_to" (defArgs s_roads_to) (defBody s_roads_to) (defScope s_roads_to) .none kV_roads_to dc_roads_to pm_roads_to an_roads_to cd_roads_to ct_roads_to), sl_roads_to⟩) (c_roads_to : PySem.W.codeIn K cd_roads_to "roads_to" = true) (k_roads_to : PySem.W.keepIn K (.ref f_roads_to) = true)
    (a_ways_by_gate : PySem.W.nsIn K mainGlobals "_ways_by_gate" = some (some (.ref f_ways_by_gate)))
    (l_ways_by_gate : K.lookup f_ways_by_gate = some ⟨oc_ways_by_gate, od_ways_by_gate, .func (PySem.W.fnOf "_ways_by_gate" "_ways_by_gate" (defArgs s_ways_by_gate) (defBody s_ways_by_gate) (defScope s_ways_by_gate) .none kV_ways_by_gate dc_ways_by_gate pm_ways_by_gate an_ways_by_gate cd_ways_by_gate ct_ways_by_gate), sl_ways_by_gate⟩) (c_ways_by_gate : PySem.W.codeIn K cd_ways_by_gate "_ways_by_gate" = true) (k_ways_by_gate : PySem.W.keepIn K (.ref f_ways_by_gate) = true)
    (a_go_on : PySem.W.nsIn K mainGlobals "_go_on" = some (some (.ref f_go_on)))
    (l_go_on : K.lookup f_go_on = some ⟨oc_go_on, od_go_on, .func (PySem.W.fnOf "_go_on" "_go_on" (defArgs s_go_on) (defBody s_go_on) (defScope s_go_on) .none kV_go_on dc_go_on pm_go_on an_go_on cd_go_on ct_go_on), sl_go_on⟩) (c_go_on : PySem.W.codeIn K cd_go_on "_go_on" = true) (k_go_on : PySem.W.keepIn K (.ref f_go_on) = true)
    (a_leg : PySem.W.nsIn K mainGlobals "leg" = some (some (.ref f_leg)))
    (l_leg : K.lookup f_leg = some ⟨oc_leg, od_leg, .func (PySem.W.fnOf "leg" "leg" (defArgs s_leg) (defBody s_leg) (defScope s_leg) .none kV_leg dc_leg pm_leg an_leg cd_leg ct_leg), sl_leg⟩) (c_leg : PySem.W.codeIn K cd_leg "leg" = true) (k_leg : PySem.W.keepIn K (.ref f_leg) = true)
    (a_guess : PySem.W.nsIn K mainGlobals "guess" = some (some (.ref f_guess)))
    (l_guess : K.lookup f_guess = some ⟨oc_guess, od_guess, .func (PySem.W.fnOf "guess" "guess" (defArgs s_guess) (defBody s_guess) (defScope s_guess) .none kV_guess dc_guess pm_guess an_guess cd_guess ct_guess), sl_guess⟩) (c_guess : PySem.W.codeIn K cd_guess "guess" = true) (k_guess : PySem.W.keepIn K (.ref f_guess) = true)
    (a_need_sightings : PySem.W.nsIn K mainGlobals "_need_sightings" = some (some (.ref f_need_sightings)))
    (l_need_sightings : K.lookup f_need_sightings = some ⟨oc_need_sightings, od_need_sightings, .func (PySem.W.fnOf "_need_sightings" "_need_sightings" (defArgs s_need_sightings) (defBody s_need_sightings) (defScope s_need_sightings) .none kV_need_sightings dc_need_sightings pm_need_sightings an_need_sightings cd_need_sightings ct_need_sightings), sl_need_sightings⟩) (c_need_sightings : PySem.W.codeIn K cd_need_sightings "_need_sightings" = true) (k_need_sightings : PySem.W.keepIn K (.ref f_need_sightings) = true)
    (a_passed_between : PySem.W.nsIn K mainGlobals "_passed_between" = some (some (.ref f_passed_between)))
    (l_passed_between : K.lookup f_passed_between = some ⟨oc_passed_between, od_passed_between, .func (PySem.W.fnOf "_passed_between" "_passed_between" (defArgs s_passed_between) (defBody s_passed_between) (defScope s_passed_between) .none kV_passed_between dc_passed_between pm_passed_between an_passed_between cd_passed_between ct_passed_between), sl_passed_between⟩) (c_passed_between : PySem.W.codeIn K cd_passed_between "_passed_between" = true) (k_passed_between : PySem.W.keepIn K (.ref f_passed_between) = true)
    (a_bill : PySem.W.nsIn K mainGlobals "bill" = some (some (.ref f_bill)))
    (l_bill : K.lookup f_bill = some ⟨oc_bill, od_bill, .func (PySem.W.fnOf "bill" "bill" (defArgs s_bill) (defBody s_bill) (defScope s_bill) .none kV_bill dc_bill pm_bill an_bill cd_bill ct_bill), sl_bill⟩) (c_bill : PySem.W.codeIn K cd_bill "bill" = true) (k_bill : PySem.W.keepIn K (.ref f_bill) = true)
    (a_total : PySem.W.nsIn K mainGlobals "total" = some (some (.ref f_total)))
    (l_total : K.lookup f_total = some ⟨oc_total, od_total, .func (PySem.W.fnOf "total" "total" (defArgs s_total) (defBody s_total) (defScope s_total) .none kV_total dc_total pm_total an_total cd_total ct_total), sl_total⟩) (c_total : PySem.W.codeIn K cd_total "total" = true) (k_total : PySem.W.keepIn K (.ref f_total) = true)
    (a_is_name : PySem.W.nsIn K mainGlobals "is_name" = some (some (.ref f_is_name)))
    (l_is_name : K.lookup f_is_name = some ⟨oc_is_name, od_is_name, .func (PySem.W.fnOf "is_name" "is_name" (defArgs s_is_name) (defBody s_is_name) (defScope s_is_name) .none kV_is_name dc_is_name pm_is_name an_is_name cd_is_name ct_is_name), sl_is_name⟩) (c_is_name : PySem.W.codeIn K cd_is_name "is_name" = true) (k_is_name : PySem.W.keepIn K (.ref f_is_name) = true)
    (a_N_init : PySem.W.findIn K (.ref o_Net) "__init__" = some (some (.ref f_N_init))) (i_N_init : PySem.W.isFn K (.ref f_N_init) = true)
    (l_N_init : K.lookup f_N_init = some ⟨oc_N_init, od_N_init, .func (PySem.W.fnOf "__init__" "Net.__init__" (defArgs s_N_init) (defBody s_N_init) (defScope s_N_init) .none kV_N_init dc_N_init pm_N_init an_N_init cd_N_init ct_N_init), sl_N_init⟩) (c_N_init : PySem.W.codeIn K cd_N_init "Net.__init__" = true) (k_N_init : PySem.W.keepIn K (.ref f_N_init) = true)
    (a_N_gate : PySem.W.findIn K (.ref o_Net) "gate" = some (some (.ref f_N_gate))) (i_N_gate : PySem.W.isFn K (.ref f_N_gate) = true)
    (l_N_gate : K.lookup f_N_gate = some ⟨oc_N_gate, od_N_gate, .func (PySem.W.fnOf "gate" "Net.gate" (defArgs s_N_gate) (defBody s_N_gate) (defScope s_N_gate) .none kV_N_gate dc_N_gate pm_N_gate an_N_gate cd_N_gate ct_N_gate), sl_N_gate⟩) (c_N_gate : PySem.W.codeIn K cd_N_gate "Net.gate" = true) (k_N_gate : PySem.W.keepIn K (.ref f_N_gate) = true)
    (a_N_road : PySem.W.findIn K (.ref o_Net) "road" = some (some (.ref f_N_road))) (i_N_road : PySem.W.isFn K (.ref f_N_road) = true)
    (l_N_road : K.lookup f_N_road = some ⟨oc_N_road, od_N_road, .func (PySem.W.fnOf "road" "Net.road" (defArgs s_N_road) (defBody s_N_road) (defScope s_N_road) .none kV_N_road dc_N_road pm_N_road an_N_road cd_N_road ct_N_road), sl_N_road⟩) (c_N_road : PySem.W.codeIn K cd_N_road "Net.road" = true) (k_N_road : PySem.W.keepIn K (.ref f_N_road) = true)
    (a_N_blind : PySem.W.findIn K (.ref o_Net) "blind" = some (some (.ref f_N_blind))) (i_N_blind : PySem.W.isFn K (.ref f_N_blind) = true)
    (l_N_blind : K.lookup f_N_blind = some ⟨oc_N_blind, od_N_blind, .func (PySem.W.fnOf "blind" "Net.blind" (defArgs s_N_blind) (defBody s_N_blind) (defScope s_N_blind) .none kV_N_blind dc_N_blind pm_N_blind an_N_blind cd_N_blind ct_N_blind), sl_N_blind⟩) (c_N_blind : PySem.W.codeIn K cd_N_blind "Net.blind" = true) (k_N_blind : PySem.W.keepIn K (.ref f_N_blind) = true)
    (a_N_mend : PySem.W.findIn K (.ref o_Net) "mend" = some (some (.ref f_N_mend))) (i_N_mend : PySem.W.isFn K (.ref f_N_mend) = true)
    (l_N_mend : K.lookup f_N_mend = some ⟨oc_N_mend, od_N_mend, .func (PySem.W.fnOf "mend" "Net.mend" (defArgs s_N_mend) (defBody s_N_mend) (defScope s_N_mend) .none kV_N_mend dc_N_mend pm_N_mend an_N_mend cd_N_mend ct_N_mend), sl_N_mend⟩) (c_N_mend : PySem.W.codeIn K cd_N_mend "Net.mend" = true) (k_N_mend : PySem.W.keepIn K (.ref f_N_mend) = true)
    (a_N_close : PySem.W.findIn K (.ref o_Net) "close" = some (some (.ref f_N_close))) (i_N_close : PySem.W.isFn K (.ref f_N_close) = true)
    (l_N_close : K.lookup f_N_close = some ⟨oc_N_close, od_N_close, .func (PySem.W.fnOf "close" "Net.close" (defArgs s_N_close) (defBody s_N_close) (defScope s_N_close) .none kV_N_close dc_N_close pm_N_close an_N_close cd_N_close ct_N_close), sl_N_close⟩) (c_N_close : PySem.W.codeIn K cd_N_close "Net.close" = true) (k_N_close : PySem.W.keepIn K (.ref f_N_close) = true)
    (a_N_reopen : PySem.W.findIn K (.ref o_Net) "reopen" = some (some (.ref f_N_reopen))) (i_N_reopen : PySem.W.isFn K (.ref f_N_reopen) = true)
    (l_N_reopen : K.lookup f_N_reopen = some ⟨oc_N_reopen, od_N_reopen, .func (PySem.W.fnOf "reopen" "Net.reopen" (defArgs s_N_reopen) (defBody s_N_reopen) (defScope s_N_reopen) .none kV_N_reopen dc_N_reopen pm_N_reopen an_N_reopen cd_N_reopen ct_N_reopen), sl_N_reopen⟩) (c_N_reopen : PySem.W.codeIn K cd_N_reopen "Net.reopen" = true) (k_N_reopen : PySem.W.keepIn K (.ref f_N_reopen) = true)
    (a_N_gates : PySem.W.findIn K (.ref o_Net) "gates" = some (some (.ref f_N_gates))) (i_N_gates : PySem.W.isFn K (.ref f_N_gates) = true)
    (l_N_gates : K.lookup f_N_gates = some ⟨oc_N_gates, od_N_gates, .func (PySem.W.fnOf "gates" "Net.gates" (defArgs s_N_gates) (defBody s_N_gates) (defScope s_N_gates) .none kV_N_gates dc_N_gates pm_N_gates an_N_gates cd_N_gates ct_N_gates), sl_N_gates⟩) (c_N_gates : PySem.W.codeIn K cd_N_gates "Net.gates" = true) (k_N_gates : PySem.W.keepIn K (.ref f_N_gates) = true)
    (a_N_roads : PySem.W.findIn K (.ref o_Net) "roads" = some (some (.ref f_N_roads))) (i_N_roads : PySem.W.isFn K (.ref f_N_roads) = true)
    (l_N_roads : K.lookup f_N_roads = some ⟨oc_N_roads, od_N_roads, .func (PySem.W.fnOf "roads" "Net.roads" (defArgs s_N_roads) (defBody s_N_roads) (defScope s_N_roads) .none kV_N_roads dc_N_roads pm_N_roads an_N_roads cd_N_roads ct_N_roads), sl_N_roads⟩) (c_N_roads : PySem.W.codeIn K cd_N_roads "Net.roads" = true) (k_N_roads : PySem.W.keepIn K (.ref f_N_roads) = true)
    (a_N_leaving : PySem.W.findIn K (.ref o_Net) "leaving" = some (some (.ref f_N_leaving))) (i_N_leaving : PySem.W.isFn K (.ref f_N_leaving) = true)
    (l_N_leaving : K.lookup f_N_leaving = some ⟨oc_N_leaving, od_N_leaving, .func (PySem.W.fnOf "leaving" "Net.leaving" (defArgs s_N_leaving) (defBody s_N_leaving) (defScope s_N_leaving) .none kV_N_leaving dc_N_leaving pm_N_leaving an_N_leaving cd_N_leaving ct_N_leaving), sl_N_leaving⟩) (c_N_leaving : PySem.W.codeIn K cd_N_leaving "Net.leaving" = true) (k_N_leaving : PySem.W.keepIn K (.ref f_N_leaving) = true)
    (a_N_need_gate : PySem.W.findIn K (.ref o_Net) "need_gate" = some (some (.ref f_N_need_gate))) (i_N_need_gate : PySem.W.isFn K (.ref f_N_need_gate) = true)
    (l_N_need_gate : K.lookup f_N_need_gate = some ⟨oc_N_need_gate, od_N_need_gate, .func (PySem.W.fnOf "need_gate" "Net.need_gate" (defArgs s_N_need_gate) (defBody s_N_need_gate) (defScope s_N_need_gate) .none kV_N_need_gate dc_N_need_gate pm_N_need_gate an_N_need_gate cd_N_need_gate ct_N_need_gate), sl_N_need_gate⟩) (c_N_need_gate : PySem.W.codeIn K cd_N_need_gate "Net.need_gate" = true) (k_N_need_gate : PySem.W.keepIn K (.ref f_N_need_gate) = true)
    (a_N__turn_gate : PySem.W.findIn K (.ref o_Net) "_turn_gate" = some (some (.ref f_N__turn_gate))) (i_N__turn_gate : PySem.W.isFn K (.ref f_N__turn_gate) = true)
    (l_N__turn_gate : K.lookup f_N__turn_gate = some ⟨oc_N__turn_gate, od_N__turn_gate, .func (PySem.W.fnOf "_turn_gate" "Net._turn_gate" (defArgs s_N__turn_gate) (defBody s_N__turn_gate) (defScope s_N__turn_gate) .none kV_N__turn_gate dc_N__turn_gate pm_N__turn_gate an_N__turn_gate cd_N__turn_gate ct_N__turn_gate), sl_N__turn_gate⟩) (c_N__turn_gate : PySem.W.codeIn K cd_N__turn_gate "Net._turn_gate" = true) (k_N__turn_gate : PySem.W.keepIn K (.ref f_N__turn_gate) = true)
    (a_N__turn_road : PySem.W.findIn K (.ref o_Net) "_turn_road" = some (some (.ref f_N__turn_road))) (i_N__turn_road : PySem.W.isFn K (.ref f_N__turn_road) = true)
    (l_N__turn_road : K.lookup f_N__turn_road = some ⟨oc_N__turn_road, od_N__turn_road, .func (PySem.W.fnOf "_turn_road" "Net._turn_road" (defArgs s_N__turn_road) (defBody s_N__turn_road) (defScope s_N__turn_road) .none kV_N__turn_road dc_N__turn_road pm_N__turn_road an_N__turn_road cd_N__turn_road ct_N__turn_road), sl_N__turn_road⟩) (c_N__turn_road : PySem.W.codeIn K cd_N__turn_road "Net._turn_road" = true) (k_N__turn_road : PySem.W.keepIn K (.ref f_N__turn_road) = true)
    (a_W_init : PySem.W.findIn K (.ref o_Watch) "__init__" = some (some (.ref f_W_init))) (i_W_init : PySem.W.isFn K (.ref f_W_init) = true)
    (l_W_init : K.lookup f_W_init = some ⟨oc_W_init, od_W_init, .func (PySem.W.fnOf "__init__" "Watch.__init__" (defArgs s_W_init) (defBody s_W_init) (defScope s_W_init) .none kV_W_init dc_W_init pm_W_init an_W_init cd_W_init ct_W_init), sl_W_init⟩) (c_W_init : PySem.W.codeIn K cd_W_init "Watch.__init__" = true) (k_W_init : PySem.W.keepIn K (.ref f_W_init) = true)
    (a_W_saw : PySem.W.findIn K (.ref o_Watch) "saw" = some (some (.ref f_W_saw))) (i_W_saw : PySem.W.isFn K (.ref f_W_saw) = true)
    (l_W_saw : K.lookup f_W_saw = some ⟨oc_W_saw, od_W_saw, .func (PySem.W.fnOf "saw" "Watch.saw" (defArgs s_W_saw) (defBody s_W_saw) (defScope s_W_saw) .none kV_W_saw dc_W_saw pm_W_saw an_W_saw cd_W_saw ct_W_saw), sl_W_saw⟩) (c_W_saw : PySem.W.codeIn K cd_W_saw "Watch.saw" = true) (k_W_saw : PySem.W.keepIn K (.ref f_W_saw) = true)
    (a_W_seen : PySem.W.findIn K (.ref o_Watch) "seen" = some (some (.ref f_W_seen))) (i_W_seen : PySem.W.isFn K (.ref f_W_seen) = true)
    (l_W_seen : K.lookup f_W_seen = some ⟨oc_W_seen, od_W_seen, .func (PySem.W.fnOf "seen" "Watch.seen" (defArgs s_W_seen) (defBody s_W_seen) (defScope s_W_seen) .none kV_W_seen dc_W_seen pm_W_seen an_W_seen cd_W_seen ct_W_seen), sl_W_seen⟩) (c_W_seen : PySem.W.codeIn K cd_W_seen "Watch.seen" = true) (k_W_seen : PySem.W.keepIn K (.ref f_W_seen) = true)
    (a_W_cars : PySem.W.findIn K (.ref o_Watch) "cars" = some (some (.ref f_W_cars))) (i_W_cars : PySem.W.isFn K (.ref f_W_cars) = true)
    (l_W_cars : K.lookup f_W_cars = some ⟨oc_W_cars, od_W_cars, .func (PySem.W.fnOf "cars" "Watch.cars" (defArgs s_W_cars) (defBody s_W_cars) (defScope s_W_cars) .none kV_W_cars dc_W_cars pm_W_cars an_W_cars cd_W_cars ct_W_cars), sl_W_cars⟩) (c_W_cars : PySem.W.codeIn K cd_W_cars "Watch.cars" = true) (k_W_cars : PySem.W.keepIn K (.ref f_W_cars) = true)
    (a_W_forget : PySem.W.findIn K (.ref o_Watch) "forget" = some (some (.ref f_W_forget))) (i_W_forget : PySem.W.isFn K (.ref f_W_forget) = true)
    (l_W_forget : K.lookup f_W_forget = some ⟨oc_W_forget, od_W_forget, .func (PySem.W.fnOf "forget" "Watch.forget" (defArgs s_W_forget) (defBody s_W_forget) (defScope s_W_forget) .none kV_W_forget dc_W_forget pm_W_forget an_W_forget cd_W_forget ct_W_forget), sl_W_forget⟩) (c_W_forget : PySem.W.codeIn K cd_W_forget "Watch.forget" = true) (k_W_forget : PySem.W.keepIn K (.ref f_W_forget) = true)
    (a_W__need_car : PySem.W.findIn K (.ref o_Watch) "_need_car" = some (some (.ref f_W__need_car))) (i_W__need_car : PySem.W.isFn K (.ref f_W__need_car) = true)
    (l_W__need_car : K.lookup f_W__need_car = some ⟨oc_W__need_car, od_W__need_car, .func (PySem.W.fnOf "_need_car" "Watch._need_car" (defArgs s_W__need_car) (defBody s_W__need_car) (defScope s_W__need_car) .none kV_W__need_car dc_W__need_car pm_W__need_car an_W__need_car cd_W__need_car ct_W__need_car), sl_W__need_car⟩) (c_W__need_car : PySem.W.codeIn K cd_W__need_car "Watch._need_car" = true) (k_W__need_car : PySem.W.keepIn K (.ref f_W__need_car) = true)
    (a_l_cell_at : PySem.W.nsIn K mainGlobals "_law_cell_at" = some (some (.ref f_l_cell_at)))
    (l_l_cell_at : K.lookup f_l_cell_at = some ⟨oc_l_cell_at, od_l_cell_at, .func (PySem.W.fnOf "_law_cell_at" "_law_cell_at" (defArgs s_l_cell_at) (defBody s_l_cell_at) (defScope s_l_cell_at) .none kV_l_cell_at dc_l_cell_at pm_l_cell_at an_l_cell_at cd_l_cell_at ct_l_cell_at), sl_l_cell_at⟩) (c_l_cell_at : PySem.W.codeIn K cd_l_cell_at "_law_cell_at" = true) (k_l_cell_at : PySem.W.keepIn K (.ref f_l_cell_at) = true)
    (a_l_whole : PySem.W.nsIn K mainGlobals "_law_whole" = some (some (.ref f_l_whole)))
    (l_l_whole : K.lookup f_l_whole = some ⟨oc_l_whole, od_l_whole, .func (PySem.W.fnOf "_law_whole" "_law_whole" (defArgs s_l_whole) (defBody s_l_whole) (defScope s_l_whole) .none kV_l_whole dc_l_whole pm_l_whole an_l_whole cd_l_whole ct_l_whole), sl_l_whole⟩) (c_l_whole : PySem.W.codeIn K cd_l_whole "_law_whole" = true) (k_l_whole : PySem.W.keepIn K (.ref f_l_whole) = true)
    (a_l_mixed : PySem.W.nsIn K mainGlobals "_law_mixed" = some (some (.ref f_l_mixed)))
    (l_l_mixed : K.lookup f_l_mixed = some ⟨oc_l_mixed, od_l_mixed, .func (PySem.W.fnOf "_law_mixed" "_law_mixed" (defArgs s_l_mixed) (defBody s_l_mixed) (defScope s_l_mixed) .none kV_l_mixed dc_l_mixed pm_l_mixed an_l_mixed cd_l_mixed ct_l_mixed), sl_l_mixed⟩) (c_l_mixed : PySem.W.codeIn K cd_l_mixed "_law_mixed" = true) (k_l_mixed : PySem.W.keepIn K (.ref f_l_mixed) = true)
    (a_l_name : PySem.W.nsIn K mainGlobals "_law_name" = some (some (.ref f_l_name)))
    (l_l_name : K.lookup f_l_name = some ⟨oc_l_name, od_l_name, .func (PySem.W.fnOf "_law_name" "_law_name" (defArgs s_l_name) (defBody s_l_name) (defScope s_l_name) .none kV_l_name dc_l_name pm_l_name an_l_name cd_l_name ct_l_name), sl_l_name⟩) (c_l_name : PySem.W.codeIn K cd_l_name "_law_name" = true) (k_l_name : PySem.W.keepIn K (.ref f_l_name) = true)
    (a_l_line : PySem.W.nsIn K mainGlobals "_law_line" = some (some (.ref f_l_line)))
    (l_l_line : K.lookup f_l_line = some ⟨oc_l_line, od_l_line, .func (PySem.W.fnOf "_law_line" "_law_line" (defArgs s_l_line) (defBody s_l_line) (defScope s_l_line) .none kV_l_line dc_l_line pm_l_line an_l_line cd_l_line ct_l_line), sl_l_line⟩) (c_l_line : PySem.W.codeIn K cd_l_line "_law_line" = true) (k_l_line : PySem.W.keepIn K (.ref f_l_line) = true)
    (a_l_net : PySem.W.nsIn K mainGlobals "_law_net" = some (some (.ref f_l_net)))
    (l_l_net : K.lookup f_l_net = some ⟨oc_l_net, od_l_net, .func (PySem.W.fnOf "_law_net" "_law_net" (defArgs s_l_net) (defBody s_l_net) (defScope s_l_net) .none kV_l_net dc_l_net pm_l_net an_l_net cd_l_net ct_l_net), sl_l_net⟩) (c_l_net : PySem.W.codeIn K cd_l_net "_law_net" = true) (k_l_net : PySem.W.keepIn K (.ref f_l_net) = true)
    (a_l_costs : PySem.W.nsIn K mainGlobals "_law_costs" = some (some (.ref f_l_costs)))
    (l_l_costs : K.lookup f_l_costs = some ⟨oc_l_costs, od_l_costs, .func (PySem.W.fnOf "_law_costs" "_law_costs" (defArgs s_l_costs) (defBody s_l_costs) (defScope s_l_costs) .none kV_l_costs dc_l_costs pm_l_costs an_l_costs cd_l_costs ct_l_costs), sl_l_costs⟩) (c_l_costs : PySem.W.codeIn K cd_l_costs "_law_costs" = true) (k_l_costs : PySem.W.keepIn K (.ref f_l_costs) = true)
    (a_l_least : PySem.W.nsIn K mainGlobals "_law_least" = some (some (.ref f_l_least)))
    (l_l_least : K.lookup f_l_least = some ⟨oc_l_least, od_l_least, .func (PySem.W.fnOf "_law_least" "_law_least" (defArgs s_l_least) (defBody s_l_least) (defScope s_l_least) .none kV_l_least dc_l_least pm_l_least an_l_least cd_l_least ct_l_least), sl_l_least⟩) (c_l_least : PySem.W.codeIn K cd_l_least "_law_least" = true) (k_l_least : PySem.W.keepIn K (.ref f_l_least) = true)
    (a_l_due : PySem.W.nsIn K mainGlobals "_law_due" = some (some (.ref f_l_due)))
    (l_l_due : K.lookup f_l_due = some ⟨oc_l_due, od_l_due, .func (PySem.W.fnOf "_law_due" "_law_due" (defArgs s_l_due) (defBody s_l_due) (defScope s_l_due) .none kV_l_due dc_l_due pm_l_due an_l_due cd_l_due ct_l_due), sl_l_due⟩) (c_l_due : PySem.W.codeIn K cd_l_due "_law_due" = true) (k_l_due : PySem.W.keepIn K (.ref f_l_due) = true)
    (a_l_turned : PySem.W.nsIn K mainGlobals "_law_turned" = some (some (.ref f_l_turned)))
    (l_l_turned : K.lookup f_l_turned = some ⟨oc_l_turned, od_l_turned, .func (PySem.W.fnOf "_law_turned" "_law_turned" (defArgs s_l_turned) (defBody s_l_turned) (defScope s_l_turned) .none kV_l_turned dc_l_turned pm_l_turned an_l_turned cd_l_turned ct_l_turned), sl_l_turned⟩) (c_l_turned : PySem.W.codeIn K cd_l_turned "_law_turned" = true) (k_l_turned : PySem.W.keepIn K (.ref f_l_turned) = true)
    (a_l_sighted : PySem.W.nsIn K mainGlobals "_law_sighted" = some (some (.ref f_l_sighted)))
    (l_l_sighted : K.lookup f_l_sighted = some ⟨oc_l_sighted, od_l_sighted, .func (PySem.W.fnOf "_law_sighted" "_law_sighted" (defArgs s_l_sighted) (defBody s_l_sighted) (defScope s_l_sighted) .none kV_l_sighted dc_l_sighted pm_l_sighted an_l_sighted cd_l_sighted ct_l_sighted), sl_l_sighted⟩) (c_l_sighted : PySem.W.codeIn K cd_l_sighted "_law_sighted" = true) (k_l_sighted : PySem.W.keepIn K (.ref f_l_sighted) = true)
    (a_l_bill_stands : PySem.W.nsIn K mainGlobals "_law_bill_stands" = some (some (.ref f_l_bill_stands)))
    (l_l_bill_stands : K.lookup f_l_bill_stands = some ⟨oc_l_bill_stands, od_l_bill_stands, .func (PySem.W.fnOf "_law_bill_stands" "_law_bill_stands" (defArgs s_l_bill_stands) (defBody s_l_bill_stands) (defScope s_l_bill_stands) .none kV_l_bill_stands dc_l_bill_stands pm_l_bill_stands an_l_bill_stands cd_l_bill_stands ct_l_bill_stands), sl_l_bill_stands⟩) (c_l_bill_stands : PySem.W.codeIn K cd_l_bill_stands "_law_bill_stands" = true) (k_l_bill_stands : PySem.W.keepIn K (.ref f_l_bill_stands) = true)
    (a_l_leg_stands : PySem.W.nsIn K mainGlobals "_law_leg_stands" = some (some (.ref f_l_leg_stands)))
    (l_l_leg_stands : K.lookup f_l_leg_stands = some ⟨oc_l_leg_stands, od_l_leg_stands, .func (PySem.W.fnOf "_law_leg_stands" "_law_leg_stands" (defArgs s_l_leg_stands) (defBody s_l_leg_stands) (defScope s_l_leg_stands) .none kV_l_leg_stands dc_l_leg_stands pm_l_leg_stands an_l_leg_stands cd_l_leg_stands ct_l_leg_stands), sl_l_leg_stands⟩) (c_l_leg_stands : PySem.W.codeIn K cd_l_leg_stands "_law_leg_stands" = true) (k_l_leg_stands : PySem.W.keepIn K (.ref f_l_leg_stands) = true)
    (a_l_guesses_stand : PySem.W.nsIn K mainGlobals "_law_guesses_stand" = some (some (.ref f_l_guesses_stand)))
    (l_l_guesses_stand : K.lookup f_l_guesses_stand = some ⟨oc_l_guesses_stand, od_l_guesses_stand, .func (PySem.W.fnOf "_law_guesses_stand" "_law_guesses_stand" (defArgs s_l_guesses_stand) (defBody s_l_guesses_stand) (defScope s_l_guesses_stand) .none kV_l_guesses_stand dc_l_guesses_stand pm_l_guesses_stand an_l_guesses_stand cd_l_guesses_stand ct_l_guesses_stand), sl_l_guesses_stand⟩) (c_l_guesses_stand : PySem.W.codeIn K cd_l_guesses_stand "_law_guesses_stand" = true) (k_l_guesses_stand : PySem.W.keepIn K (.ref f_l_guesses_stand) = true)
    (a_l_stands : PySem.W.nsIn K mainGlobals "_law_stands" = some (some (.ref f_l_stands)))
    (l_l_stands : K.lookup f_l_stands = some ⟨oc_l_stands, od_l_stands, .func (PySem.W.fnOf "_law_stands" "_law_stands" (defArgs s_l_stands) (defBody s_l_stands) (defScope s_l_stands) .none kV_l_stands dc_l_stands pm_l_stands an_l_stands cd_l_stands ct_l_stands), sl_l_stands⟩) (c_l_stands : PySem.W.codeIn K cd_l_stands "_law_stands" = true) (k_l_stands : PySem.W.keepIn K (.ref f_l_stands) = true)
    (a_l_kept_well : PySem.W.nsIn K mainGlobals "_law_kept_well" = some (some (.ref f_l_kept_well)))
    (l_l_kept_well : K.lookup f_l_kept_well = some ⟨oc_l_kept_well, od_l_kept_well, .func (PySem.W.fnOf "_law_kept_well" "_law_kept_well" (defArgs s_l_kept_well) (defBody s_l_kept_well) (defScope s_l_kept_well) .none kV_l_kept_well dc_l_kept_well pm_l_kept_well an_l_kept_well cd_l_kept_well ct_l_kept_well), sl_l_kept_well⟩) (c_l_kept_well : PySem.W.codeIn K cd_l_kept_well "_law_kept_well" = true) (k_l_kept_well : PySem.W.keepIn K (.ref f_l_kept_well) = true)
    (a_law : PySem.W.nsIn K mainGlobals "law" = some (some (.ref f_law)))
    (l_law : K.lookup f_law = some ⟨oc_law, od_law, .func (PySem.W.fnOf "law" "law" (defArgs s_law) (defBody s_law) (defScope s_law) .none kV_law dc_law pm_law an_law cd_law ct_law), sl_law⟩) (c_law : PySem.W.codeIn K cd_law "law" = true) (k_law : PySem.W.keepIn K (.ref f_law) = true)
    (pg_Net : PySem.W.plainGet K o_Net Str.empty = true) (hd_Net : PySem.W.hasDictIn K o_Net = true) (po_Net : PySem.W.plainOver K o_Net = true) (sa_Net : PySem.W.findIn K (.ref o_Net) "__setattr__" = some (some (.builtin "object.__setattr__"))) (mk_Net : PySem.W.makesIn K o_Net = true) (kc_Net : PySem.W.keepIn K (.ref o_Net) = true)
    (na_Net__gates : PySem.W.findIn K (.ref o_Net) "_gates" = some none)
    (na_Net__roads : PySem.W.findIn K (.ref o_Net) "_roads" = some none)
    (pg_Watch : PySem.W.plainGet K o_Watch Str.empty = true) (hd_Watch : PySem.W.hasDictIn K o_Watch = true) (po_Watch : PySem.W.plainOver K o_Watch = true) (sa_Watch : PySem.W.findIn K (.ref o_Watch) "__setattr__" = some (some (.builtin "object.__setattr__"))) (mk_Watch : PySem.W.makesIn K o_Watch = true) (kc_Watch : PySem.W.keepIn K (.ref o_Watch) = true)
    (na_Watch__sightings : PySem.W.findIn K (.ref o_Watch) "_sightings" = some none)
    (na_Watch_net : PySem.W.findIn K (.ref o_Watch) "net" = some none)
    (xi_NoName : PySem.W.excIn K o_NoName [.type "ValueError", .type "Exception", .type "BaseException", .type "object"] "ValueError.__new__" = true) (ke_NoName : PySem.W.keepIn K (.ref o_NoName) = true) (be_NoName : PySem.W.subIn K (.ref o_NoName) (.type "BaseException") = some true) (te_NoName : PySem.W.typeIn K (.ref o_NoName) = some (.type "type")) (he_NoName : PySem.W.hasDictIn K o_NoName = true) (ie_NoName : PySem.W.isClsIn K o_NoName = true)
    (xi_SameGate : PySem.W.excIn K o_SameGate [.type "ValueError", .type "Exception", .type "BaseException", .type "object"] "ValueError.__new__" = true) (ke_SameGate : PySem.W.keepIn K (.ref o_SameGate) = true) (be_SameGate : PySem.W.subIn K (.ref o_SameGate) (.type "BaseException") = some true) (te_SameGate : PySem.W.typeIn K (.ref o_SameGate) = some (.type "type")) (he_SameGate : PySem.W.hasDictIn K o_SameGate = true) (ie_SameGate : PySem.W.isClsIn K o_SameGate = true)
    (xi_FullNet : PySem.W.excIn K o_FullNet [.type "ValueError", .type "Exception", .type "BaseException", .type "object"] "ValueError.__new__" = true) (ke_FullNet : PySem.W.keepIn K (.ref o_FullNet) = true) (be_FullNet : PySem.W.subIn K (.ref o_FullNet) (.type "BaseException") = some true) (te_FullNet : PySem.W.typeIn K (.ref o_FullNet) = some (.type "type")) (he_FullNet : PySem.W.hasDictIn K o_FullNet = true) (ie_FullNet : PySem.W.isClsIn K o_FullNet = true)
    (xi_NoGate : PySem.W.excIn K o_NoGate [.type "ValueError", .type "Exception", .type "BaseException", .type "object"] "ValueError.__new__" = true) (ke_NoGate : PySem.W.keepIn K (.ref o_NoGate) = true) (be_NoGate : PySem.W.subIn K (.ref o_NoGate) (.type "BaseException") = some true) (te_NoGate : PySem.W.typeIn K (.ref o_NoGate) = some (.type "type")) (he_NoGate : PySem.W.hasDictIn K o_NoGate = true) (ie_NoGate : PySem.W.isClsIn K o_NoGate = true)
    (xi_NoNumber : PySem.W.excIn K o_NoNumber [.type "ValueError", .type "Exception", .type "BaseException", .type "object"] "ValueError.__new__" = true) (ke_NoNumber : PySem.W.keepIn K (.ref o_NoNumber) = true) (be_NoNumber : PySem.W.subIn K (.ref o_NoNumber) (.type "BaseException") = some true) (te_NoNumber : PySem.W.typeIn K (.ref o_NoNumber) = some (.type "type")) (he_NoNumber : PySem.W.hasDictIn K o_NoNumber = true) (ie_NoNumber : PySem.W.isClsIn K o_NoNumber = true)
    (xi_NoRoad : PySem.W.excIn K o_NoRoad [.type "ValueError", .type "Exception", .type "BaseException", .type "object"] "ValueError.__new__" = true) (ke_NoRoad : PySem.W.keepIn K (.ref o_NoRoad) = true) (be_NoRoad : PySem.W.subIn K (.ref o_NoRoad) (.type "BaseException") = some true) (te_NoRoad : PySem.W.typeIn K (.ref o_NoRoad) = some (.type "type")) (he_NoRoad : PySem.W.hasDictIn K o_NoRoad = true) (ie_NoRoad : PySem.W.isClsIn K o_NoRoad = true)
    (xi_Already : PySem.W.excIn K o_Already [.type "ValueError", .type "Exception", .type "BaseException", .type "object"] "ValueError.__new__" = true) (ke_Already : PySem.W.keepIn K (.ref o_Already) = true) (be_Already : PySem.W.subIn K (.ref o_Already) (.type "BaseException") = some true) (te_Already : PySem.W.typeIn K (.ref o_Already) = some (.type "type")) (he_Already : PySem.W.hasDictIn K o_Already = true) (ie_Already : PySem.W.isClsIn K o_Already = true)
    (xi_NoTime : PySem.W.excIn K o_NoTime [.type "ValueError", .type "Exception", .type "BaseException", .type "object"] "ValueError.__new__" = true) (ke_NoTime : PySem.W.keepIn K (.ref o_NoTime) = true) (be_NoTime : PySem.W.subIn K (.ref o_NoTime) (.type "BaseException") = some true) (te_NoTime : PySem.W.typeIn K (.ref o_NoTime) = some (.type "type")) (he_NoTime : PySem.W.hasDictIn K o_NoTime = true) (ie_NoTime : PySem.W.isClsIn K o_NoTime = true)
    (xi_Blind : PySem.W.excIn K o_Blind [.type "ValueError", .type "Exception", .type "BaseException", .type "object"] "ValueError.__new__" = true) (ke_Blind : PySem.W.keepIn K (.ref o_Blind) = true) (be_Blind : PySem.W.subIn K (.ref o_Blind) (.type "BaseException") = some true) (te_Blind : PySem.W.typeIn K (.ref o_Blind) = some (.type "type")) (he_Blind : PySem.W.hasDictIn K o_Blind = true) (ie_Blind : PySem.W.isClsIn K o_Blind = true)
    (xi_NoCar : PySem.W.excIn K o_NoCar [.type "ValueError", .type "Exception", .type "BaseException", .type "object"] "ValueError.__new__" = true) (ke_NoCar : PySem.W.keepIn K (.ref o_NoCar) = true) (be_NoCar : PySem.W.subIn K (.ref o_NoCar) (.type "BaseException") = some true) (te_NoCar : PySem.W.typeIn K (.ref o_NoCar) = some (.type "type")) (he_NoCar : PySem.W.hasDictIn K o_NoCar = true) (ie_NoCar : PySem.W.isClsIn K o_NoCar = true)
    (xi_NoSight : PySem.W.excIn K o_NoSight [.type "ValueError", .type "Exception", .type "BaseException", .type "object"] "ValueError.__new__" = true) (ke_NoSight : PySem.W.keepIn K (.ref o_NoSight) = true) (be_NoSight : PySem.W.subIn K (.ref o_NoSight) (.type "BaseException") = some true) (te_NoSight : PySem.W.typeIn K (.ref o_NoSight) = some (.type "type")) (he_NoSight : PySem.W.hasDictIn K o_NoSight = true) (ie_NoSight : PySem.W.isClsIn K o_NoSight = true)
    (v_NoName_NoName : PySem.W.subIn K (.ref o_NoName) (.ref o_NoName) = some true)
    (v_NoName_SameGate : PySem.W.subIn K (.ref o_NoName) (.ref o_SameGate) = some false)
    (v_NoName_FullNet : PySem.W.subIn K (.ref o_NoName) (.ref o_FullNet) = some false)
    (v_NoName_NoGate : PySem.W.subIn K (.ref o_NoName) (.ref o_NoGate) = some false)
    (v_NoName_NoNumber : PySem.W.subIn K (.ref o_NoName) (.ref o_NoNumber) = some false)
    (v_NoName_NoRoad : PySem.W.subIn K (.ref o_NoName) (.ref o_NoRoad) = some false)
    (v_NoName_Already : PySem.W.subIn K (.ref o_NoName) (.ref o_Already) = some false)
    (v_NoName_NoTime : PySem.W.subIn K (.ref o_NoName) (.ref o_NoTime) = some false)
    (v_NoName_Blind : PySem.W.subIn K (.ref o_NoName) (.ref o_Blind) = some false)
    (v_NoName_NoCar : PySem.W.subIn K (.ref o_NoName) (.ref o_NoCar) = some false)
    (v_NoName_NoSight : PySem.W.subIn K (.ref o_NoName) (.ref o_NoSight) = some false)
    (v_SameGate_NoName : PySem.W.subIn K (.ref o_SameGate) (.ref o_NoName) = some false)
    (v_SameGate_SameGate : PySem.W.subIn K (.ref o_SameGate) (.ref o_SameGate) = some true)
    (v_SameGate_FullNet : PySem.W.subIn K (.ref o_SameGate) (.ref o_FullNet) = some false)
    (v_SameGate_NoGate : PySem.W.subIn K (.ref o_SameGate) (.ref o_NoGate) = some false)
    (v_SameGate_NoNumber : PySem.W.subIn K (.ref o_SameGate) (.ref o_NoNumber) = some false)
    (v_SameGate_NoRoad : PySem.W.subIn K (.ref o_SameGate) (.ref o_NoRoad) = some false)
    (v_SameGate_Already : PySem.W.subIn K (.ref o_SameGate) (.ref o_Already) = some false)
    (v_SameGate_NoTime : PySem.W.subIn K (.ref o_SameGate) (.ref o_NoTime) = some false)
    (v_SameGate_Blind : PySem.W.subIn K (.ref o_SameGate) (.ref o_Blind) = some false)
    (v_SameGate_NoCar : PySem.W.subIn K (.ref o_SameGate) (.ref o_NoCar) = some false)
    (v_SameGate_NoSight : PySem.W.subIn K (.ref o_SameGate) (.ref o_NoSight) = some false)
    (v_FullNet_NoName : PySem.W.subIn K (.ref o_FullNet) (.ref o_NoName) = some false)
    (v_FullNet_SameGate : PySem.W.subIn K (.ref o_FullNet) (.ref o_SameGate) = some false)
    (v_FullNet_FullNet : PySem.W.subIn K (.ref o_FullNet) (.ref o_FullNet) = some true)
    (v_FullNet_NoGate : PySem.W.subIn K (.ref o_FullNet) (.ref o_NoGate) = some false)
    (v_FullNet_NoNumber : PySem.W.subIn K (.ref o_FullNet) (.ref o_NoNumber) = some false)
    (v_FullNet_NoRoad : PySem.W.subIn K (.ref o_FullNet) (.ref o_NoRoad) = some false)
    (v_FullNet_Already : PySem.W.subIn K (.ref o_FullNet) (.ref o_Already) = some false)
    (v_FullNet_NoTime : PySem.W.subIn K (.ref o_FullNet) (.ref o_NoTime) = some false)
    (v_FullNet_Blind : PySem.W.subIn K (.ref o_FullNet) (.ref o_Blind) = some false)
    (v_FullNet_NoCar : PySem.W.subIn K (.ref o_FullNet) (.ref o_NoCar) = some false)
    (v_FullNet_NoSight : PySem.W.subIn K (.ref o_FullNet) (.ref o_NoSight) = some false)
    (v_NoGate_NoName : PySem.W.subIn K (.ref o_NoGate) (.ref o_NoName) = some false)
    (v_NoGate_SameGate : PySem.W.subIn K (.ref o_NoGate) (.ref o_SameGate) = some false)
    (v_NoGate_FullNet : PySem.W.subIn K (.ref o_NoGate) (.ref o_FullNet) = some false)
    (v_NoGate_NoGate : PySem.W.subIn K (.ref o_NoGate) (.ref o_NoGate) = some true)
    (v_NoGate_NoNumber : PySem.W.subIn K (.ref o_NoGate) (.ref o_NoNumber) = some false)
    (v_NoGate_NoRoad : PySem.W.subIn K (.ref o_NoGate) (.ref o_NoRoad) = some false)
    (v_NoGate_Already : PySem.W.subIn K (.ref o_NoGate) (.ref o_Already) = some false)
    (v_NoGate_NoTime : PySem.W.subIn K (.ref o_NoGate) (.ref o_NoTime) = some false)
    (v_NoGate_Blind : PySem.W.subIn K (.ref o_NoGate) (.ref o_Blind) = some false)
    (v_NoGate_NoCar : PySem.W.subIn K (.ref o_NoGate) (.ref o_NoCar) = some false)
    (v_NoGate_NoSight : PySem.W.subIn K (.ref o_NoGate) (.ref o_NoSight) = some false)
    (v_NoNumber_NoName : PySem.W.subIn K (.ref o_NoNumber) (.ref o_NoName) = some false)
    (v_NoNumber_SameGate : PySem.W.subIn K (.ref o_NoNumber) (.ref o_SameGate) = some false)
    (v_NoNumber_FullNet : PySem.W.subIn K (.ref o_NoNumber) (.ref o_FullNet) = some false)
    (v_NoNumber_NoGate : PySem.W.subIn K (.ref o_NoNumber) (.ref o_NoGate) = some false)
    (v_NoNumber_NoNumber : PySem.W.subIn K (.ref o_NoNumber) (.ref o_NoNumber) = some true)
    (v_NoNumber_NoRoad : PySem.W.subIn K (.ref o_NoNumber) (.ref o_NoRoad) = some false)
    (v_NoNumber_Already : PySem.W.subIn K (.ref o_NoNumber) (.ref o_Already) = some false)
    (v_NoNumber_NoTime : PySem.W.subIn K (.ref o_NoNumber) (.ref o_NoTime) = some false)
    (v_NoNumber_Blind : PySem.W.subIn K (.ref o_NoNumber) (.ref o_Blind) = some false)
    (v_NoNumber_NoCar : PySem.W.subIn K (.ref o_NoNumber) (.ref o_NoCar) = some false)
    (v_NoNumber_NoSight : PySem.W.subIn K (.ref o_NoNumber) (.ref o_NoSight) = some false)
    (v_NoRoad_NoName : PySem.W.subIn K (.ref o_NoRoad) (.ref o_NoName) = some false)
    (v_NoRoad_SameGate : PySem.W.subIn K (.ref o_NoRoad) (.ref o_SameGate) = some false)
    (v_NoRoad_FullNet : PySem.W.subIn K (.ref o_NoRoad) (.ref o_FullNet) = some false)
    (v_NoRoad_NoGate : PySem.W.subIn K (.ref o_NoRoad) (.ref o_NoGate) = some false)
    (v_NoRoad_NoNumber : PySem.W.subIn K (.ref o_NoRoad) (.ref o_NoNumber) = some false)
    (v_NoRoad_NoRoad : PySem.W.subIn K (.ref o_NoRoad) (.ref o_NoRoad) = some true)
    (v_NoRoad_Already : PySem.W.subIn K (.ref o_NoRoad) (.ref o_Already) = some false)
    (v_NoRoad_NoTime : PySem.W.subIn K (.ref o_NoRoad) (.ref o_NoTime) = some false)
    (v_NoRoad_Blind : PySem.W.subIn K (.ref o_NoRoad) (.ref o_Blind) = some false)
    (v_NoRoad_NoCar : PySem.W.subIn K (.ref o_NoRoad) (.ref o_NoCar) = some false)
    (v_NoRoad_NoSight : PySem.W.subIn K (.ref o_NoRoad) (.ref o_NoSight) = some false)
    (v_Already_NoName : PySem.W.subIn K (.ref o_Already) (.ref o_NoName) = some false)
    (v_Already_SameGate : PySem.W.subIn K (.ref o_Already) (.ref o_SameGate) = some false)
    (v_Already_FullNet : PySem.W.subIn K (.ref o_Already) (.ref o_FullNet) = some false)
    (v_Already_NoGate : PySem.W.subIn K (.ref o_Already) (.ref o_NoGate) = some false)
    (v_Already_NoNumber : PySem.W.subIn K (.ref o_Already) (.ref o_NoNumber) = some false)
    (v_Already_NoRoad : PySem.W.subIn K (.ref o_Already) (.ref o_NoRoad) = some false)
    (v_Already_Already : PySem.W.subIn K (.ref o_Already) (.ref o_Already) = some true)
    (v_Already_NoTime : PySem.W.subIn K (.ref o_Already) (.ref o_NoTime) = some false)
    (v_Already_Blind : PySem.W.subIn K (.ref o_Already) (.ref o_Blind) = some false)
    (v_Already_NoCar : PySem.W.subIn K (.ref o_Already) (.ref o_NoCar) = some false)
    (v_Already_NoSight : PySem.W.subIn K (.ref o_Already) (.ref o_NoSight) = some false)
    (v_NoTime_NoName : PySem.W.subIn K (.ref o_NoTime) (.ref o_NoName) = some false)
    (v_NoTime_SameGate : PySem.W.subIn K (.ref o_NoTime) (.ref o_SameGate) = some false)
    (v_NoTime_FullNet : PySem.W.subIn K (.ref o_NoTime) (.ref o_FullNet) = some false)
    (v_NoTime_NoGate : PySem.W.subIn K (.ref o_NoTime) (.ref o_NoGate) = some false)
    (v_NoTime_NoNumber : PySem.W.subIn K (.ref o_NoTime) (.ref o_NoNumber) = some false)
    (v_NoTime_NoRoad : PySem.W.subIn K (.ref o_NoTime) (.ref o_NoRoad) = some false)
    (v_NoTime_Already : PySem.W.subIn K (.ref o_NoTime) (.ref o_Already) = some false)
    (v_NoTime_NoTime : PySem.W.subIn K (.ref o_NoTime) (.ref o_NoTime) = some true)
    (v_NoTime_Blind : PySem.W.subIn K (.ref o_NoTime) (.ref o_Blind) = some false)
    (v_NoTime_NoCar : PySem.W.subIn K (.ref o_NoTime) (.ref o_NoCar) = some false)
    (v_NoTime_NoSight : PySem.W.subIn K (.ref o_NoTime) (.ref o_NoSight) = some false)
    (v_Blind_NoName : PySem.W.subIn K (.ref o_Blind) (.ref o_NoName) = some false)
    (v_Blind_SameGate : PySem.W.subIn K (.ref o_Blind) (.ref o_SameGate) = some false)
    (v_Blind_FullNet : PySem.W.subIn K (.ref o_Blind) (.ref o_FullNet) = some false)
    (v_Blind_NoGate : PySem.W.subIn K (.ref o_Blind) (.ref o_NoGate) = some false)
    (v_Blind_NoNumber : PySem.W.subIn K (.ref o_Blind) (.ref o_NoNumber) = some false)
    (v_Blind_NoRoad : PySem.W.subIn K (.ref o_Blind) (.ref o_NoRoad) = some false)
    (v_Blind_Already : PySem.W.subIn K (.ref o_Blind) (.ref o_Already) = some false)
    (v_Blind_NoTime : PySem.W.subIn K (.ref o_Blind) (.ref o_NoTime) = some false)
    (v_Blind_Blind : PySem.W.subIn K (.ref o_Blind) (.ref o_Blind) = some true)
    (v_Blind_NoCar : PySem.W.subIn K (.ref o_Blind) (.ref o_NoCar) = some false)
    (v_Blind_NoSight : PySem.W.subIn K (.ref o_Blind) (.ref o_NoSight) = some false)
    (v_NoCar_NoName : PySem.W.subIn K (.ref o_NoCar) (.ref o_NoName) = some false)
    (v_NoCar_SameGate : PySem.W.subIn K (.ref o_NoCar) (.ref o_SameGate) = some false)
    (v_NoCar_FullNet : PySem.W.subIn K (.ref o_NoCar) (.ref o_FullNet) = some false)
    (v_NoCar_NoGate : PySem.W.subIn K (.ref o_NoCar) (.ref o_NoGate) = some false)
    (v_NoCar_NoNumber : PySem.W.subIn K (.ref o_NoCar) (.ref o_NoNumber) = some false)
    (v_NoCar_NoRoad : PySem.W.subIn K (.ref o_NoCar) (.ref o_NoRoad) = some false)
    (v_NoCar_Already : PySem.W.subIn K (.ref o_NoCar) (.ref o_Already) = some false)
    (v_NoCar_NoTime : PySem.W.subIn K (.ref o_NoCar) (.ref o_NoTime) = some false)
    (v_NoCar_Blind : PySem.W.subIn K (.ref o_NoCar) (.ref o_Blind) = some false)
    (v_NoCar_NoCar : PySem.W.subIn K (.ref o_NoCar) (.ref o_NoCar) = some true)
    (v_NoCar_NoSight : PySem.W.subIn K (.ref o_NoCar) (.ref o_NoSight) = some false)
    (v_NoSight_NoName : PySem.W.subIn K (.ref o_NoSight) (.ref o_NoName) = some false)
    (v_NoSight_SameGate : PySem.W.subIn K (.ref o_NoSight) (.ref o_SameGate) = some false)
    (v_NoSight_FullNet : PySem.W.subIn K (.ref o_NoSight) (.ref o_FullNet) = some false)
    (v_NoSight_NoGate : PySem.W.subIn K (.ref o_NoSight) (.ref o_NoGate) = some false)
    (v_NoSight_NoNumber : PySem.W.subIn K (.ref o_NoSight) (.ref o_NoNumber) = some false)
    (v_NoSight_NoRoad : PySem.W.subIn K (.ref o_NoSight) (.ref o_NoRoad) = some false)
    (v_NoSight_Already : PySem.W.subIn K (.ref o_NoSight) (.ref o_Already) = some false)
    (v_NoSight_NoTime : PySem.W.subIn K (.ref o_NoSight) (.ref o_NoTime) = some false)
    (v_NoSight_Blind : PySem.W.subIn K (.ref o_NoSight) (.ref o_Blind) = some false)
    (v_NoSight_NoCar : PySem.W.subIn K (.ref o_NoSight) (.ref o_NoCar) = some false)
    (v_NoSight_NoSight : PySem.W.subIn K (.ref o_NoSight) (.ref o_NoSight) = some true)
    (u_SMALL_SIGNS : PySem.W.nsIn K mainGlobals "SMALL_SIGNS" = some (some (.str k_SMALL_SIGNS t_SMALL_SIGNS)))
    (u_MOST_SIGNS : PySem.W.nsIn K mainGlobals "MOST_SIGNS" = some (some (.int 8 t_MOST_SIGNS)))
    (u_NAME_SIGNS : PySem.W.nsIn K mainGlobals "NAME_SIGNS" = some (some (.str k_NAME_SIGNS t_NAME_SIGNS)))
    (u_MOST_GATES : PySem.W.nsIn K mainGlobals "MOST_GATES" = some (some (.int 60 t_MOST_GATES)))
    (u_MOST_ROADS : PySem.W.nsIn K mainGlobals "MOST_ROADS" = some (some (.int 200 t_MOST_ROADS)))
    (u_MOST_MINUTES : PySem.W.nsIn K mainGlobals "MOST_MINUTES" = some (some (.int 1000000 t_MOST_MINUTES)))
    (u_MOST_TOLL : PySem.W.nsIn K mainGlobals "MOST_TOLL" = some (some (.int 1000000 t_MOST_TOLL)))
    (u_LAST_TIME : PySem.W.nsIn K mainGlobals "LAST_TIME" = some (some (.int 1000000000 t_LAST_TIME)))
    (z_range : PySem.W.nsIn K mainGlobals "range" = some none)
    (z_len : PySem.W.nsIn K mainGlobals "len" = some none)
    (z_enumerate : PySem.W.nsIn K mainGlobals "enumerate" = some none)
    (z_sum : PySem.W.nsIn K mainGlobals "sum" = some none)
    (z_all : PySem.W.nsIn K mainGlobals "all" = some none)
    (z_list : PySem.W.nsIn K mainGlobals "list" = some none)
    (z_dict : PySem.W.nsIn K mainGlobals "dict" = some none)
    (z_sorted : PySem.W.nsIn K mainGlobals "sorted" = some none)
    (z_isinstance : PySem.W.nsIn K mainGlobals "isinstance" = some none)
    (z_int : PySem.W.nsIn K mainGlobals "int" = some none)
    (z_bool : PySem.W.nsIn K mainGlobals "bool" = some none)
    (z_str : PySem.W.nsIn K mainGlobals "str" = some none)
    (z_max : PySem.W.nsIn K mainGlobals "max" = some none)
    (z_tuple : PySem.W.nsIn K mainGlobals "tuple" = some none)
    (z_min : PySem.W.nsIn K mainGlobals "min" = some none)
    (y_heappop : PySem.W.nsIn K mainGlobals "heappop" = some (some (.builtin "_heapq.heappop")))
    (y_heappush : PySem.W.nsIn K mainGlobals "heappush" = some (some (.builtin "_heapq.heappush"))) :
    ∃ fd : FuncData, (∀ (s : Shared) (v : Value), BindsTo s fd ⟨[v], []⟩ [("_law_script", v)]) ∧ ∀ base : Heap, K.In base → base.Ns mainGlobals mg → FnOk l.prog w K mg base CX0 10 fa fd ["_law_script"] (spLaw K) := by
  have e := hfa.symm.trans (PySem.W.mg_of X G a_law)
  cases e
  let A : Ads := { wall := f_wall, rows_until := f_rows_until, least := f_least, roads_to := f_roads_to, ways_by_gate := f_ways_by_gate, go_on := f_go_on, leg := f_leg, guess := f_guess, need_sightings := f_need_sightings, passed_between := f_passed_between, bill := f_bill, total := f_total, is_name := f_is_name, N_init := f_N_init, N_gate := f_N_gate, N_road := f_N_road, N_blind := f_N_blind, N_mend := f_N_mend, N_close := f_N_close, N_reopen := f_N_reopen, N_gates := f_N_gates, N_roads := f_N_roads, N_leaving := f_N_leaving, N_need_gate := f_N_need_gate, N__turn_gate := f_N__turn_gate, N__turn_road := f_N__turn_road, W_init := f_W_init, W_saw := f_W_saw, W_seen := f_W_seen, W_cars := f_W_cars, W_forget := f_W_forget, W__need_car := f_W__need_car, l_cell_at := f_l_cell_at, l_whole := f_l_whole, l_mixed := f_l_mixed, l_name := f_l_name, l_line := f_l_line, l_net := f_l_net, l_costs := f_l_costs, l_least := f_l_least, l_due := f_l_due, l_turned := f_l_turned, l_sighted := f_l_sighted, l_bill_stands := f_l_bill_stands, l_leg_stands := f_l_leg_stands, l_guesses_stand := f_l_guesses_stand, l_stands := f_l_stands, l_kept_well := f_l_kept_well, law := fa, C_Net := o_Net, C_Watch := o_Watch, C_NoName := o_NoName, C_SameGate := o_SameGate, C_FullNet := o_FullNet, C_NoGate := o_NoGate, C_NoNumber := o_NoNumber, C_NoRoad := o_NoRoad, C_Already := o_Already, C_NoTime := o_NoTime, C_Blind := o_Blind, C_NoCar := o_NoCar, C_NoSight := o_NoSight, tSMALL_SIGNS := t_SMALL_SIGNS, tMOST_SIGNS := t_MOST_SIGNS, tNAME_SIGNS := t_NAME_SIGNS, tMOST_GATES := t_MOST_GATES, tMOST_ROADS := t_MOST_ROADS, tMOST_MINUTES := t_MOST_MINUTES, tMOST_TOLL := t_MOST_TOLL, tLAST_TIME := t_LAST_TIME }
  have T : Txt K mg A :=
    { m_wall := PySem.W.mg_of X G a_wall
      F_wall := ⟨_, fun_mk (st := s_wall) l_wall c_wall k_wall⟩
      m_rows_until := PySem.W.mg_of X G a_rows_until
      F_rows_until := ⟨_, fun_mk (st := s_rows_until) l_rows_until c_rows_until k_rows_until⟩
      m_least := PySem.W.mg_of X G a_least
      F_least := ⟨_, fun_mk (st := s_least) l_least c_least k_least⟩
      m_roads_to := PySem.W.mg_of X G a_roads_to
      F_roads_to := ⟨_, fun_mk (st := s_roads_to) l_roads_to c_roads_to k_roads_to⟩
      m_ways_by_gate := PySem.W.mg_of X G a_ways_by_gate
      F_ways_by_gate := ⟨_, fun_mk (st := s_ways_by_gate) l_ways_by_gate c_ways_by_gate k_ways_by_gate⟩
      m_go_on := PySem.W.mg_of X G a_go_on
      F_go_on := ⟨_, fun_mk (st := s_go_on) l_go_on c_go_on k_go_on⟩
      m_leg := PySem.W.mg_of X G a_leg
      F_leg := ⟨_, fun_mk (st := s_leg) l_leg c_leg k_leg⟩
      m_guess := PySem.W.mg_of X G a_guess
      F_guess := ⟨_, fun_mk (st := s_guess) l_guess c_guess k_guess⟩
      m_need_sightings := PySem.W.mg_of X G a_need_sightings
      F_need_sightings := ⟨_, fun_mk (st := s_need_sightings) l_need_sightings c_need_sightings k_need_sightings⟩
      m_passed_between := PySem.W.mg_of X G a_passed_between
      F_passed_between := ⟨_, fun_mk (st := s_passed_between) l_passed_between c_passed_between k_passed_between⟩
      m_bill := PySem.W.mg_of X G a_bill
      F_bill := ⟨_, fun_mk (st := s_bill) l_bill c_bill k_bill⟩
      m_total := PySem.W.mg_of X G a_total
      F_total := ⟨_, fun_mk (st := s_total) l_total c_total k_total⟩
      m_is_name := PySem.W.mg_of X G a_is_name
      F_is_name := ⟨_, fun_mk (st := s_is_name) l_is_name c_is_name k_is_name⟩
      M_N_init := ⟨a_N_init, i_N_init, k_N_init⟩
      F_N_init := ⟨_, fun_mk (st := s_N_init) l_N_init c_N_init k_N_init⟩
      M_N_gate := ⟨a_N_gate, i_N_gate, k_N_gate⟩
      F_N_gate := ⟨_, fun_mk (st := s_N_gate) l_N_gate c_N_gate k_N_gate⟩
      M_N_road := ⟨a_N_road, i_N_road, k_N_road⟩
      F_N_road := ⟨_, fun_mk (st := s_N_road) l_N_road c_N_road k_N_road⟩
      M_N_blind := ⟨a_N_blind, i_N_blind, k_N_blind⟩
      F_N_blind := ⟨_, fun_mk (st := s_N_blind) l_N_blind c_N_blind k_N_blind⟩
      M_N_mend := ⟨a_N_mend, i_N_mend, k_N_mend⟩
      F_N_mend := ⟨_, fun_mk (st := s_N_mend) l_N_mend c_N_mend k_N_mend⟩
      M_N_close := ⟨a_N_close, i_N_close, k_N_close⟩
      F_N_close := ⟨_, fun_mk (st := s_N_close) l_N_close c_N_close k_N_close⟩
      M_N_reopen := ⟨a_N_reopen, i_N_reopen, k_N_reopen⟩
      F_N_reopen := ⟨_, fun_mk (st := s_N_reopen) l_N_reopen c_N_reopen k_N_reopen⟩
      M_N_gates := ⟨a_N_gates, i_N_gates, k_N_gates⟩
      F_N_gates := ⟨_, fun_mk (st := s_N_gates) l_N_gates c_N_gates k_N_gates⟩
      M_N_roads := ⟨a_N_roads, i_N_roads, k_N_roads⟩
      F_N_roads := ⟨_, fun_mk (st := s_N_roads) l_N_roads c_N_roads k_N_roads⟩
      M_N_leaving := ⟨a_N_leaving, i_N_leaving, k_N_leaving⟩
      F_N_leaving := ⟨_, fun_mk (st := s_N_leaving) l_N_leaving c_N_leaving k_N_leaving⟩
      M_N_need_gate := ⟨a_N_need_gate, i_N_need_gate, k_N_need_gate⟩
      F_N_need_gate := ⟨_, fun_mk (st := s_N_need_gate) l_N_need_gate c_N_need_gate k_N_need_gate⟩
      M_N__turn_gate := ⟨a_N__turn_gate, i_N__turn_gate, k_N__turn_gate⟩
      F_N__turn_gate := ⟨_, fun_mk (st := s_N__turn_gate) l_N__turn_gate c_N__turn_gate k_N__turn_gate⟩
      M_N__turn_road := ⟨a_N__turn_road, i_N__turn_road, k_N__turn_road⟩
      F_N__turn_road := ⟨_, fun_mk (st := s_N__turn_road) l_N__turn_road c_N__turn_road k_N__turn_road⟩
      M_W_init := ⟨a_W_init, i_W_init, k_W_init⟩
      F_W_init := ⟨_, fun_mk (st := s_W_init) l_W_init c_W_init k_W_init⟩
      M_W_saw := ⟨a_W_saw, i_W_saw, k_W_saw⟩
      F_W_saw := ⟨_, fun_mk (st := s_W_saw) l_W_saw c_W_saw k_W_saw⟩
      M_W_seen := ⟨a_W_seen, i_W_seen, k_W_seen⟩
      F_W_seen := ⟨_, fun_mk (st := s_W_seen) l_W_seen c_W_seen k_W_seen⟩
      M_W_cars := ⟨a_W_cars, i_W_cars, k_W_cars⟩
      F_W_cars := ⟨_, fun_mk (st := s_W_cars) l_W_cars c_W_cars k_W_cars⟩
      M_W_forget := ⟨a_W_forget, i_W_forget, k_W_forget⟩
      F_W_forget := ⟨_, fun_mk (st := s_W_forget) l_W_forget c_W_forget k_W_forget⟩
      M_W__need_car := ⟨a_W__need_car, i_W__need_car, k_W__need_car⟩
      F_W__need_car := ⟨_, fun_mk (st := s_W__need_car) l_W__need_car c_W__need_car k_W__need_car⟩
      m_l_cell_at := PySem.W.mg_of X G a_l_cell_at
      F_l_cell_at := ⟨_, fun_mk (st := s_l_cell_at) l_l_cell_at c_l_cell_at k_l_cell_at⟩
      m_l_whole := PySem.W.mg_of X G a_l_whole
      F_l_whole := ⟨_, fun_mk (st := s_l_whole) l_l_whole c_l_whole k_l_whole⟩
      m_l_mixed := PySem.W.mg_of X G a_l_mixed
      F_l_mixed := ⟨_, fun_mk (st := s_l_mixed) l_l_mixed c_l_mixed k_l_mixed⟩
      m_l_name := PySem.W.mg_of X G a_l_name
      F_l_name := ⟨_, fun_mk (st := s_l_name) l_l_name c_l_name k_l_name⟩
      m_l_line := PySem.W.mg_of X G a_l_line
      F_l_line := ⟨_, fun_mk (st := s_l_line) l_l_line c_l_line k_l_line⟩
      m_l_net := PySem.W.mg_of X G a_l_net
      F_l_net := ⟨_, fun_mk (st := s_l_net) l_l_net c_l_net k_l_net⟩
      m_l_costs := PySem.W.mg_of X G a_l_costs
      F_l_costs := ⟨_, fun_mk (st := s_l_costs) l_l_costs c_l_costs k_l_costs⟩
      m_l_least := PySem.W.mg_of X G a_l_least
      F_l_least := ⟨_, fun_mk (st := s_l_least) l_l_least c_l_least k_l_least⟩
      m_l_due := PySem.W.mg_of X G a_l_due
      F_l_due := ⟨_, fun_mk (st := s_l_due) l_l_due c_l_due k_l_due⟩
      m_l_turned := PySem.W.mg_of X G a_l_turned
      F_l_turned := ⟨_, fun_mk (st := s_l_turned) l_l_turned c_l_turned k_l_turned⟩
      m_l_sighted := PySem.W.mg_of X G a_l_sighted
      F_l_sighted := ⟨_, fun_mk (st := s_l_sighted) l_l_sighted c_l_sighted k_l_sighted⟩
      m_l_bill_stands := PySem.W.mg_of X G a_l_bill_stands
      F_l_bill_stands := ⟨_, fun_mk (st := s_l_bill_stands) l_l_bill_stands c_l_bill_stands k_l_bill_stands⟩
      m_l_leg_stands := PySem.W.mg_of X G a_l_leg_stands
      F_l_leg_stands := ⟨_, fun_mk (st := s_l_leg_stands) l_l_leg_stands c_l_leg_stands k_l_leg_stands⟩
      m_l_guesses_stand := PySem.W.mg_of X G a_l_guesses_stand
      F_l_guesses_stand := ⟨_, fun_mk (st := s_l_guesses_stand) l_l_guesses_stand c_l_guesses_stand k_l_guesses_stand⟩
      m_l_stands := PySem.W.mg_of X G a_l_stands
      F_l_stands := ⟨_, fun_mk (st := s_l_stands) l_l_stands c_l_stands k_l_stands⟩
      m_l_kept_well := PySem.W.mg_of X G a_l_kept_well
      F_l_kept_well := ⟨_, fun_mk (st := s_l_kept_well) l_l_kept_well c_l_kept_well k_l_kept_well⟩
      m_law := PySem.W.mg_of X G a_law
      F_law := ⟨_, fun_mk (st := s_law) l_law c_law k_law⟩
      g_Net := PySem.W.mg_of X G a_Net
      c_Net := ⟨pg_Net, hd_Net, po_Net, sa_Net⟩
      M_Net := ⟨mk_Net, a_N_init, i_N_init, kc_Net⟩
      na_Net__gates := na_Net__gates
      na_Net__roads := na_Net__roads
      g_Watch := PySem.W.mg_of X G a_Watch
      c_Watch := ⟨pg_Watch, hd_Watch, po_Watch, sa_Watch⟩
      M_Watch := ⟨mk_Watch, a_W_init, i_W_init, kc_Watch⟩
      na_Watch__sightings := na_Watch__sightings
      na_Watch_net := na_Watch_net
      e_NoName := ⟨PySem.W.mg_of X G a_NoName, xi_NoName, ke_NoName, be_NoName, te_NoName, he_NoName, ie_NoName⟩
      v_NoName_NoName := v_NoName_NoName
      v_NoName_SameGate := v_NoName_SameGate
      v_NoName_FullNet := v_NoName_FullNet
      v_NoName_NoGate := v_NoName_NoGate
      v_NoName_NoNumber := v_NoName_NoNumber
      v_NoName_NoRoad := v_NoName_NoRoad
      v_NoName_Already := v_NoName_Already
      v_NoName_NoTime := v_NoName_NoTime
      v_NoName_Blind := v_NoName_Blind
      v_NoName_NoCar := v_NoName_NoCar
      v_NoName_NoSight := v_NoName_NoSight
      e_SameGate := ⟨PySem.W.mg_of X G a_SameGate, xi_SameGate, ke_SameGate, be_SameGate, te_SameGate, he_SameGate, ie_SameGate⟩
      v_SameGate_NoName := v_SameGate_NoName
      v_SameGate_SameGate := v_SameGate_SameGate
      v_SameGate_FullNet := v_SameGate_FullNet
      v_SameGate_NoGate := v_SameGate_NoGate
      v_SameGate_NoNumber := v_SameGate_NoNumber
      v_SameGate_NoRoad := v_SameGate_NoRoad
      v_SameGate_Already := v_SameGate_Already
      v_SameGate_NoTime := v_SameGate_NoTime
      v_SameGate_Blind := v_SameGate_Blind
      v_SameGate_NoCar := v_SameGate_NoCar
      v_SameGate_NoSight := v_SameGate_NoSight
      e_FullNet := ⟨PySem.W.mg_of X G a_FullNet, xi_FullNet, ke_FullNet, be_FullNet, te_FullNet, he_FullNet, ie_FullNet⟩
      v_FullNet_NoName := v_FullNet_NoName
      v_FullNet_SameGate := v_FullNet_SameGate
      v_FullNet_FullNet := v_FullNet_FullNet
      v_FullNet_NoGate := v_FullNet_NoGate
      v_FullNet_NoNumber := v_FullNet_NoNumber
      v_FullNet_NoRoad := v_FullNet_NoRoad
      v_FullNet_Already := v_FullNet_Already
      v_FullNet_NoTime := v_FullNet_NoTime
      v_FullNet_Blind := v_FullNet_Blind
      v_FullNet_NoCar := v_FullNet_NoCar
      v_FullNet_NoSight := v_FullNet_NoSight
      e_NoGate := ⟨PySem.W.mg_of X G a_NoGate, xi_NoGate, ke_NoGate, be_NoGate, te_NoGate, he_NoGate, ie_NoGate⟩
      v_NoGate_NoName := v_NoGate_NoName
      v_NoGate_SameGate := v_NoGate_SameGate
      v_NoGate_FullNet := v_NoGate_FullNet
      v_NoGate_NoGate := v_NoGate_NoGate
      v_NoGate_NoNumber := v_NoGate_NoNumber
      v_NoGate_NoRoad := v_NoGate_NoRoad
      v_NoGate_Already := v_NoGate_Already
      v_NoGate_NoTime := v_NoGate_NoTime
      v_NoGate_Blind := v_NoGate_Blind
      v_NoGate_NoCar := v_NoGate_NoCar
      v_NoGate_NoSight := v_NoGate_NoSight
      e_NoNumber := ⟨PySem.W.mg_of X G a_NoNumber, xi_NoNumber, ke_NoNumber, be_NoNumber, te_NoNumber, he_NoNumber, ie_NoNumber⟩
      v_NoNumber_NoName := v_NoNumber_NoName
      v_NoNumber_SameGate := v_NoNumber_SameGate
      v_NoNumber_FullNet := v_NoNumber_FullNet
      v_NoNumber_NoGate := v_NoNumber_NoGate
      v_NoNumber_NoNumber := v_NoNumber_NoNumber
      v_NoNumber_NoRoad := v_NoNumber_NoRoad
      v_NoNumber_Already := v_NoNumber_Already
      v_NoNumber_NoTime := v_NoNumber_NoTime
      v_NoNumber_Blind := v_NoNumber_Blind
      v_NoNumber_NoCar := v_NoNumber_NoCar
      v_NoNumber_NoSight := v_NoNumber_NoSight
      e_NoRoad := ⟨PySem.W.mg_of X G a_NoRoad, xi_NoRoad, ke_NoRoad, be_NoRoad, te_NoRoad, he_NoRoad, ie_NoRoad⟩
      v_NoRoad_NoName := v_NoRoad_NoName
      v_NoRoad_SameGate := v_NoRoad_SameGate
      v_NoRoad_FullNet := v_NoRoad_FullNet
      v_NoRoad_NoGate := v_NoRoad_NoGate
      v_NoRoad_NoNumber := v_NoRoad_NoNumber
      v_NoRoad_NoRoad := v_NoRoad_NoRoad
      v_NoRoad_Already := v_NoRoad_Already
      v_NoRoad_NoTime := v_NoRoad_NoTime
      v_NoRoad_Blind := v_NoRoad_Blind
      v_NoRoad_NoCar := v_NoRoad_NoCar
      v_NoRoad_NoSight := v_NoRoad_NoSight
      e_Already := ⟨PySem.W.mg_of X G a_Already, xi_Already, ke_Already, be_Already, te_Already, he_Already, ie_Already⟩
      v_Already_NoName := v_Already_NoName
      v_Already_SameGate := v_Already_SameGate
      v_Already_FullNet := v_Already_FullNet
      v_Already_NoGate := v_Already_NoGate
      v_Already_NoNumber := v_Already_NoNumber
      v_Already_NoRoad := v_Already_NoRoad
      v_Already_Already := v_Already_Already
      v_Already_NoTime := v_Already_NoTime
      v_Already_Blind := v_Already_Blind
      v_Already_NoCar := v_Already_NoCar
      v_Already_NoSight := v_Already_NoSight
      e_NoTime := ⟨PySem.W.mg_of X G a_NoTime, xi_NoTime, ke_NoTime, be_NoTime, te_NoTime, he_NoTime, ie_NoTime⟩
      v_NoTime_NoName := v_NoTime_NoName
      v_NoTime_SameGate := v_NoTime_SameGate
      v_NoTime_FullNet := v_NoTime_FullNet
      v_NoTime_NoGate := v_NoTime_NoGate
      v_NoTime_NoNumber := v_NoTime_NoNumber
      v_NoTime_NoRoad := v_NoTime_NoRoad
      v_NoTime_Already := v_NoTime_Already
      v_NoTime_NoTime := v_NoTime_NoTime
      v_NoTime_Blind := v_NoTime_Blind
      v_NoTime_NoCar := v_NoTime_NoCar
      v_NoTime_NoSight := v_NoTime_NoSight
      e_Blind := ⟨PySem.W.mg_of X G a_Blind, xi_Blind, ke_Blind, be_Blind, te_Blind, he_Blind, ie_Blind⟩
      v_Blind_NoName := v_Blind_NoName
      v_Blind_SameGate := v_Blind_SameGate
      v_Blind_FullNet := v_Blind_FullNet
      v_Blind_NoGate := v_Blind_NoGate
      v_Blind_NoNumber := v_Blind_NoNumber
      v_Blind_NoRoad := v_Blind_NoRoad
      v_Blind_Already := v_Blind_Already
      v_Blind_NoTime := v_Blind_NoTime
      v_Blind_Blind := v_Blind_Blind
      v_Blind_NoCar := v_Blind_NoCar
      v_Blind_NoSight := v_Blind_NoSight
      e_NoCar := ⟨PySem.W.mg_of X G a_NoCar, xi_NoCar, ke_NoCar, be_NoCar, te_NoCar, he_NoCar, ie_NoCar⟩
      v_NoCar_NoName := v_NoCar_NoName
      v_NoCar_SameGate := v_NoCar_SameGate
      v_NoCar_FullNet := v_NoCar_FullNet
      v_NoCar_NoGate := v_NoCar_NoGate
      v_NoCar_NoNumber := v_NoCar_NoNumber
      v_NoCar_NoRoad := v_NoCar_NoRoad
      v_NoCar_Already := v_NoCar_Already
      v_NoCar_NoTime := v_NoCar_NoTime
      v_NoCar_Blind := v_NoCar_Blind
      v_NoCar_NoCar := v_NoCar_NoCar
      v_NoCar_NoSight := v_NoCar_NoSight
      e_NoSight := ⟨PySem.W.mg_of X G a_NoSight, xi_NoSight, ke_NoSight, be_NoSight, te_NoSight, he_NoSight, ie_NoSight⟩
      v_NoSight_NoName := v_NoSight_NoName
      v_NoSight_SameGate := v_NoSight_SameGate
      v_NoSight_FullNet := v_NoSight_FullNet
      v_NoSight_NoGate := v_NoSight_NoGate
      v_NoSight_NoNumber := v_NoSight_NoNumber
      v_NoSight_NoRoad := v_NoSight_NoRoad
      v_NoSight_Already := v_NoSight_Already
      v_NoSight_NoTime := v_NoSight_NoTime
      v_NoSight_Blind := v_NoSight_Blind
      v_NoSight_NoCar := v_NoSight_NoCar
      v_NoSight_NoSight := v_NoSight_NoSight
      m_SMALL_SIGNS := PySem.W.mg_of X G u_SMALL_SIGNS
      m_MOST_SIGNS := PySem.W.mg_of X G u_MOST_SIGNS
      m_NAME_SIGNS := PySem.W.mg_of X G u_NAME_SIGNS
      m_MOST_GATES := PySem.W.mg_of X G u_MOST_GATES
      m_MOST_ROADS := PySem.W.mg_of X G u_MOST_ROADS
      m_MOST_MINUTES := PySem.W.mg_of X G u_MOST_MINUTES
      m_MOST_TOLL := PySem.W.mg_of X G u_MOST_TOLL
      m_LAST_TIME := PySem.W.mg_of X G u_LAST_TIME
      b_range := PySem.W.mg_none_of X G z_range
      b_len := PySem.W.mg_none_of X G z_len
      b_enumerate := PySem.W.mg_none_of X G z_enumerate
      b_sum := PySem.W.mg_none_of X G z_sum
      b_all := PySem.W.mg_none_of X G z_all
      b_list := PySem.W.mg_none_of X G z_list
      b_dict := PySem.W.mg_none_of X G z_dict
      b_sorted := PySem.W.mg_none_of X G z_sorted
      b_isinstance := PySem.W.mg_none_of X G z_isinstance
      b_int := PySem.W.mg_none_of X G z_int
      b_bool := PySem.W.mg_none_of X G z_bool
      b_str := PySem.W.mg_none_of X G z_str
      b_max := PySem.W.mg_none_of X G z_max
      b_tuple := PySem.W.mg_none_of X G z_tuple
      b_min := PySem.W.mg_none_of X G z_min
      q_heappop := PySem.W.mg_of X G y_heappop
      q_heappush := PySem.W.mg_of X G y_heappush }
  exact ⟨PySem.W.fnOf "law" "law" (defArgs s_law) (defBody s_law) (defScope s_law) .none kV_law dc_law pm_law an_law cd_law ct_law, fun s v => .of_eq rfl, fun base _ _ => ok_law (fun_mk (st := s_law) l_law c_law k_law) T⟩
theorem walk {l : PySem.W.OpenLaw} {q : Program} {loose : List Str} {XP : (Str → Option Value) → Heap → Prop} {YP : World → Heap → Prop} {d : DefRec} {K : Params → PySem.W.Frag} (hn : l.most = some 63) (hdf : d.params.defaults = [])
    (hY : ∀ (w : World) (h : Heap), YP w h → (K w.params).In h)
    (F : ∀ (w : World) (mg : Str → Option Value) (fa : Addr) (h : Heap), (K w.params).In h → h.Ns mainGlobals mg → mg d.name = some (.ref fa) →
      ∃ fd : FuncData, (∀ (s : Shared) (u : Value), BindsTo s fd ⟨[u], []⟩ [("_law_script", u)]) ∧ ∀ base : Heap, (K w.params).In base → base.Ns mainGlobals mg → FnOk l.prog w (K w.params) mg base CX0 10 fa fd ["_law_script"] (spLaw (K w.params))) :
    PySem.W.WalkO q loose XP YP l.row.toRowW d [] (fun f vs => PySem.call f vs) :=
  L2.walk_of (n := 63) (k := 10) (x := "_law_script") (CX := fun _ => CX0) (sp := fun w => spLaw (K w.params)) hn (by decide) hdf ⟨rfl, by decide, by decide⟩ hY F (fun _ _ a ns hl _ hS => ⟨a, ns, rfl, hS, hl, fun _ => rfl⟩) fun _ _ _ _ _ z => z
end Toll
open PySem PySem.W PyProof.Rows
set_option maxRecDepth 100000 in
set_option maxHeartbeats 0 in
theorem PySem.Challenge.cw_tollguess_k12_whole_as_it_is_now_holds : PySem.Challenge.rw_tollguess_k12_whole_as_it_is_now.Holds := by
  w_on; o_law; k_head; (case hw => w_witness2)
  k_fill
  refine Toll.walk (l := PySem.Challenge.rw_tollguess_k12_whole_as_it_is_now) rfl rfl (fun w h Y => PySem.W.kIn_of Y) ?F
  case F =>
    intro w mg fa h KX G hmg
    refine' Toll.all_mk KX G hmg ?a_Net ?a_Watch ?a_NoName ?a_SameGate ?a_FullNet ?a_NoGate ?a_NoNumber ?a_NoRoad ?a_Already ?a_NoTime ?a_Blind ?a_NoCar ?a_NoSight ?a_wall ?l_wall ?c_wall ?k_wall ?a_rows_until ?l_rows_until ?c_rows_until ?k_rows_until ?a_least ?l_least ?c_least ?k_least ?a_roads_to ?l_roads_to ?c_roads_to ?k_roads_to ?a_ways_by_gate ?l_ways_by_gate ?c_ways_by_gate ?k_ways_by_gate ?a_go_on ?l_go_on ?c_go_on ?k_go_on ?a_leg ?l_leg ?c_leg ?k_leg ?a_guess ?l_guess ?c_guess ?k_guess ?a_need_sightings ?l_need_sightings ?c_need_sightings ?k_need_sightings ?a_passed_between ?l_passed_between ?c_passed_between ?k_passed_between ?a_bill ?l_bill ?c_bill ?k_bill ?a_total ?l_total ?c_total ?k_total ?a_is_name ?l_is_name ?c_is_name ?k_is_name ?a_N_init ?i_N_init ?l_N_init ?c_N_init ?k_N_init ?a_N_gate ?i_N_gate ?l_N_gate ?c_N_gate ?k_N_gate ?a_N_road ?i_N_road ?l_N_road ?c_N_road ?k_N_road ?a_N_blind ?i_N_blind ?l_N_blind ?c_N_blind ?k_N_blind ?a_N_mend ?i_N_mend ?l_N_mend ?c_N_mend ?k_N_mend ?a_N_close ?i_N_close ?l_N_close ?c_N_close ?k_N_close ?a_N_reopen ?i_N_reopen ?l_N_reopen ?c_N_reopen ?k_N_reopen ?a_N_gates ?i_N_gates ?l_N_gates ?c_N_gates ?k_N_gates ?a_N_roads ?i_N_roads ?l_N_roads ?c_N_roads ?k_N_roads ?a_N_leaving ?i_N_leaving ?l_N_leaving ?c_N_leaving ?k_N_leaving ?a_N_need_gate ?i_N_need_gate ?l_N_need_gate ?c_N_need_gate ?k_N_need_gate ?a_N__turn_gate ?i_N__turn_gate ?l_N__turn_gate ?c_N__turn_gate ?k_N__turn_gate ?a_N__turn_road ?i_N__turn_road ?l_N__turn_road ?c_N__turn_road ?k_N__turn_road ?a_W_init ?i_W_init ?l_W_init ?c_W_init ?k_W_init ?a_W_saw ?i_W_saw ?l_W_saw ?c_W_saw ?k_W_saw ?a_W_seen ?i_W_seen ?l_W_seen ?c_W_seen ?k_W_seen ?a_W_cars ?i_W_cars ?l_W_cars ?c_W_cars ?k_W_cars ?a_W_forget ?i_W_forget ?l_W_forget ?c_W_forget ?k_W_forget ?a_W__need_car ?i_W__need_car ?l_W__need_car ?c_W__need_car ?k_W__need_car ?a_l_cell_at ?l_l_cell_at ?c_l_cell_at ?k_l_cell_at ?a_l_whole ?l_l_whole ?c_l_whole ?k_l_whole ?a_l_mixed ?l_l_mixed ?c_l_mixed ?k_l_mixed ?a_l_name ?l_l_name ?c_l_name ?k_l_name ?a_l_line ?l_l_line ?c_l_line ?k_l_line ?a_l_net ?l_l_net ?c_l_net ?k_l_net ?a_l_costs ?l_l_costs ?c_l_costs ?k_l_costs ?a_l_least ?l_l_least ?c_l_least ?k_l_least ?a_l_due ?l_l_due ?c_l_due ?k_l_due ?a_l_turned ?l_l_turned ?c_l_turned ?k_l_turned ?a_l_sighted ?l_l_sighted ?c_l_sighted ?k_l_sighted ?a_l_bill_stands ?l_l_bill_stands ?c_l_bill_stands ?k_l_bill_stands ?a_l_leg_stands ?l_l_leg_stands ?c_l_leg_stands ?k_l_leg_stands ?a_l_guesses_stand ?l_l_guesses_stand ?c_l_guesses_stand ?k_l_guesses_stand ?a_l_stands ?l_l_stands ?c_l_stands ?k_l_stands ?a_l_kept_well ?l_l_kept_well ?c_l_kept_well ?k_l_kept_well ?a_law ?l_law ?c_law ?k_law ?pg_Net ?hd_Net ?po_Net ?sa_Net ?mk_Net ?kc_Net ?na_Net__gates ?na_Net__roads ?pg_Watch ?hd_Watch ?po_Watch ?sa_Watch ?mk_Watch ?kc_Watch ?na_Watch__sightings ?na_Watch_net ?xi_NoName ?ke_NoName ?be_NoName ?te_NoName ?he_NoName ?ie_NoName ?xi_SameGate ?ke_SameGate ?be_SameGate ?te_SameGate ?he_SameGate ?ie_SameGate ?xi_FullNet ?ke_FullNet ?be_FullNet ?te_FullNet ?he_FullNet ?ie_FullNet ?xi_NoGate ?ke_NoGate ?be_NoGate ?te_NoGate ?he_NoGate ?ie_NoGate ?xi_NoNumber ?ke_NoNumber ?be_NoNumber ?te_NoNumber ?he_NoNumber ?ie_NoNumber ?xi_NoRoad ?ke_NoRoad ?be_NoRoad ?te_NoRoad ?he_NoRoad ?ie_NoRoad ?xi_Already ?ke_Already ?be_Already ?te_Already ?he_Already ?ie_Already ?xi_NoTime ?ke_NoTime ?be_NoTime ?te_NoTime ?he_NoTime ?ie_NoTime ?xi_Blind ?ke_Blind ?be_Blind ?te_Blind ?he_Blind ?ie_Blind ?xi_NoCar ?ke_NoCar ?be_NoCar ?te_NoCar ?he_NoCar ?ie_NoCar ?xi_NoSight ?ke_NoSight ?be_NoSight ?te_NoSight ?he_NoSight ?ie_NoSight ?v_NoName_NoName ?v_NoName_SameGate ?v_NoName_FullNet ?v_NoName_NoGate ?v_NoName_NoNumber ?v_NoName_NoRoad ?v_NoName_Already ?v_NoName_NoTime ?v_NoName_Blind ?v_NoName_NoCar ?v_NoName_NoSight ?v_SameGate_NoName ?v_SameGate_SameGate ?v_SameGate_FullNet ?v_SameGate_NoGate ?v_SameGate_NoNumber ?v_SameGate_NoRoad ?v_SameGate_Already ?v_SameGate_NoTime ?v_SameGate_Blind ?v_SameGate_NoCar ?v_SameGate_NoSight ?v_FullNet_NoName ?v_FullNet_SameGate ?v_FullNet_FullNet ?v_FullNet_NoGate ?v_FullNet_NoNumber ?v_FullNet_NoRoad ?v_FullNet_Already ?v_FullNet_NoTime ?v_FullNet_Blind ?v_FullNet_NoCar ?v_FullNet_NoSight ?v_NoGate_NoName ?v_NoGate_SameGate ?v_NoGate_FullNet ?v_NoGate_NoGate ?v_NoGate_NoNumber ?v_NoGate_NoRoad ?v_NoGate_Already ?v_NoGate_NoTime ?v_NoGate_Blind ?v_NoGate_NoCar ?v_NoGate_NoSight ?v_NoNumber_NoName ?v_NoNumber_SameGate ?v_NoNumber_FullNet ?v_NoNumber_NoGate ?v_NoNumber_NoNumber ?v_NoNumber_NoRoad ?v_NoNumber_Already ?v_NoNumber_NoTime ?v_NoNumber_Blind ?v_NoNumber_NoCar ?v_NoNumber_NoSight ?v_NoRoad_NoName ?v_NoRoad_SameGate ?v_NoRoad_FullNet ?v_NoRoad_NoGate ?v_NoRoad_NoNumber ?v_NoRoad_NoRoad ?v_NoRoad_Already ?v_NoRoad_NoTime ?v_NoRoad_Blind ?v_NoRoad_NoCar ?v_NoRoad_NoSight ?v_Already_NoName ?v_Already_SameGate ?v_Already_FullNet ?v_Already_NoGate ?v_Already_NoNumber ?v_Already_NoRoad ?v_Already_Already ?v_Already_NoTime ?v_Already_Blind ?v_Already_NoCar ?v_Already_NoSight ?v_NoTime_NoName ?v_NoTime_SameGate ?v_NoTime_FullNet ?v_NoTime_NoGate ?v_NoTime_NoNumber ?v_NoTime_NoRoad ?v_NoTime_Already ?v_NoTime_NoTime ?v_NoTime_Blind ?v_NoTime_NoCar ?v_NoTime_NoSight ?v_Blind_NoName ?v_Blind_SameGate ?v_Blind_FullNet ?v_Blind_NoGate ?v_Blind_NoNumber ?v_Blind_NoRoad ?v_Blind_Already ?v_Blind_NoTime ?v_Blind_Blind ?v_Blind_NoCar ?v_Blind_NoSight ?v_NoCar_NoName ?v_NoCar_SameGate ?v_NoCar_FullNet ?v_NoCar_NoGate ?v_NoCar_NoNumber ?v_NoCar_NoRoad ?v_NoCar_Already ?v_NoCar_NoTime ?v_NoCar_Blind ?v_NoCar_NoCar ?v_NoCar_NoSight ?v_NoSight_NoName ?v_NoSight_SameGate ?v_NoSight_FullNet ?v_NoSight_NoGate ?v_NoSight_NoNumber ?v_NoSight_NoRoad ?v_NoSight_Already ?v_NoSight_NoTime ?v_NoSight_Blind ?v_NoSight_NoCar ?v_NoSight_NoSight ?u_SMALL_SIGNS ?u_MOST_SIGNS ?u_NAME_SIGNS ?u_MOST_GATES ?u_MOST_ROADS ?u_MOST_MINUTES ?u_MOST_TOLL ?u_LAST_TIME ?z_range ?z_len ?z_enumerate ?z_sum ?z_all ?z_list ?z_dict ?z_sorted ?z_isinstance ?z_int ?z_bool ?z_str ?z_max ?z_tuple ?z_min ?y_heappop ?y_heappush
    (case a_Net => k_is); (case a_Watch => k_is); (case a_NoName => k_is); (case a_SameGate => k_is); (case a_FullNet => k_is); (case a_NoGate => k_is); (case a_NoNumber => k_is); (case a_NoRoad => k_is); (case a_Already => k_is); (case a_NoTime => k_is); (case a_Blind => k_is); (case a_NoCar => k_is); (case a_NoSight => k_is); (case a_wall => k_is); (case l_wall => k_is); (case c_wall => k_is); (case k_wall => k_is); (case a_rows_until => k_is); (case l_rows_until => k_is); (case c_rows_until => k_is); (case k_rows_until => k_is); (case a_least => k_is); (case l_least => k_is); (case c_least => k_is); (case k_least => k_is); (case a_roads_to => k_is); (case l_roads_to => k_is); (case c_roads_to => k_is); (case k_roads_to => k_is); (case a_ways_by_gate => k_is); (case l_ways_by_gate => k_is); (case c_ways_by_gate => k_is); (case k_ways_by_gate => k_is); (case a_go_on => k_is); (case l_go_on => k_is); (case c_go_on => k_is); (case k_go_on => k_is); (case a_leg => k_is); (case l_leg => k_is); (case c_leg => k_is); (case k_leg => k_is); (case a_guess => k_is); (case l_guess => k_is); (case c_guess => k_is); (case k_guess => k_is); (case a_need_sightings => k_is); (case l_need_sightings => k_is); (case c_need_sightings => k_is); (case k_need_sightings => k_is); (case a_passed_between => k_is); (case l_passed_between => k_is); (case c_passed_between => k_is); (case k_passed_between => k_is); (case a_bill => k_is); (case l_bill => k_is); (case c_bill => k_is); (case k_bill => k_is); (case a_total => k_is); (case l_total => k_is); (case c_total => k_is); (case k_total => k_is); (case a_is_name => k_is); (case l_is_name => k_is); (case c_is_name => k_is); (case k_is_name => k_is); (case a_N_init => k_is); (case i_N_init => k_is); (case l_N_init => k_is); (case c_N_init => k_is); (case k_N_init => k_is); (case a_N_gate => k_is); (case i_N_gate => k_is); (case l_N_gate => k_is); (case c_N_gate => k_is); (case k_N_gate => k_is); (case a_N_road => k_is); (case i_N_road => k_is); (case l_N_road => k_is); (case c_N_road => k_is); (case k_N_road => k_is); (case a_N_blind => k_is); (case i_N_blind => k_is); (case l_N_blind => k_is); (case c_N_blind => k_is); (case k_N_blind => k_is); (case a_N_mend => k_is); (case i_N_mend => k_is); (case l_N_mend => k_is); (case c_N_mend => k_is); (case k_N_mend => k_is); (case a_N_close => k_is); (case i_N_close => k_is); (case l_N_close => k_is); (case c_N_close => k_is); (case k_N_close => k_is); (case a_N_reopen => k_is); (case i_N_reopen => k_is); (case l_N_reopen => k_is); (case c_N_reopen => k_is); (case k_N_reopen => k_is); (case a_N_gates => k_is); (case i_N_gates => k_is); (case l_N_gates => k_is); (case c_N_gates => k_is); (case k_N_gates => k_is); (case a_N_roads => k_is); (case i_N_roads => k_is); (case l_N_roads => k_is); (case c_N_roads => k_is); (case k_N_roads => k_is); (case a_N_leaving => k_is); (case i_N_leaving => k_is); (case l_N_leaving => k_is); (case c_N_leaving => k_is); (case k_N_leaving => k_is); (case a_N_need_gate => k_is); (case i_N_need_gate => k_is); (case l_N_need_gate => k_is); (case c_N_need_gate => k_is); (case k_N_need_gate => k_is); (case a_N__turn_gate => k_is); (case i_N__turn_gate => k_is); (case l_N__turn_gate => k_is); (case c_N__turn_gate => k_is); (case k_N__turn_gate => k_is); (case a_N__turn_road => k_is); (case i_N__turn_road => k_is); (case l_N__turn_road => k_is); (case c_N__turn_road => k_is); (case k_N__turn_road => k_is); (case a_W_init => k_is); (case i_W_init => k_is); (case l_W_init => k_is); (case c_W_init => k_is); (case k_W_init => k_is); (case a_W_saw => k_is); (case i_W_saw => k_is); (case l_W_saw => k_is); (case c_W_saw => k_is); (case k_W_saw => k_is); (case a_W_seen => k_is); (case i_W_seen => k_is); (case l_W_seen => k_is); (case c_W_seen => k_is); (case k_W_seen => k_is); (case a_W_cars => k_is); (case i_W_cars => k_is); (case l_W_cars => k_is); (case c_W_cars => k_is); (case k_W_cars => k_is); (case a_W_forget => k_is); (case i_W_forget => k_is); (case l_W_forget => k_is); (case c_W_forget => k_is); (case k_W_forget => k_is); (case a_W__need_car => k_is); (case i_W__need_car => k_is); (case l_W__need_car => k_is); (case c_W__need_car => k_is); (case k_W__need_car => k_is); (case a_l_cell_at => k_is); (case l_l_cell_at => k_is); (case c_l_cell_at => k_is); (case k_l_cell_at => k_is); (case a_l_whole => k_is); (case l_l_whole => k_is); (case c_l_whole => k_is); (case k_l_whole => k_is); (case a_l_mixed => k_is); (case l_l_mixed => k_is); (case c_l_mixed => k_is); (case k_l_mixed => k_is); (case a_l_name => k_is); (case l_l_name => k_is); (case c_l_name => k_is); (case k_l_name => k_is); (case a_l_line => k_is); (case l_l_line => k_is); (case c_l_line => k_is); (case k_l_line => k_is); (case a_l_net => k_is); (case l_l_net => k_is); (case c_l_net => k_is); (case k_l_net => k_is); (case a_l_costs => k_is); (case l_l_costs => k_is); (case c_l_costs => k_is); (case k_l_costs => k_is); (case a_l_least => k_is); (case l_l_least => k_is); (case c_l_least => k_is); (case k_l_least => k_is); (case a_l_due => k_is); (case l_l_due => k_is); (case c_l_due => k_is); (case k_l_due => k_is); (case a_l_turned => k_is); (case l_l_turned => k_is); (case c_l_turned => k_is); (case k_l_turned => k_is); (case a_l_sighted => k_is); (case l_l_sighted => k_is); (case c_l_sighted => k_is); (case k_l_sighted => k_is); (case a_l_bill_stands => k_is); (case l_l_bill_stands => k_is); (case c_l_bill_stands => k_is); (case k_l_bill_stands => k_is); (case a_l_leg_stands => k_is); (case l_l_leg_stands => k_is); (case c_l_leg_stands => k_is); (case k_l_leg_stands => k_is); (case a_l_guesses_stand => k_is); (case l_l_guesses_stand => k_is); (case c_l_guesses_stand => k_is); (case k_l_guesses_stand => k_is); (case a_l_stands => k_is); (case l_l_stands => k_is); (case c_l_stands => k_is); (case k_l_stands => k_is); (case a_l_kept_well => k_is); (case l_l_kept_well => k_is); (case c_l_kept_well => k_is); (case k_l_kept_well => k_is); (case a_law => k_is); (case l_law => k_is); (case c_law => k_is); (case k_law => k_is); (case pg_Net => k_is); (case hd_Net => k_is); (case po_Net => k_is); (case sa_Net => k_is); (case mk_Net => k_is); (case kc_Net => k_is); (case na_Net__gates => k_is); (case na_Net__roads => k_is); (case pg_Watch => k_is); (case hd_Watch => k_is); (case po_Watch => k_is); (case sa_Watch => k_is); (case mk_Watch => k_is); (case kc_Watch => k_is); (case na_Watch__sightings => k_is); (case na_Watch_net => k_is); (case xi_NoName => k_exc); (case ke_NoName => k_is); (case be_NoName => k_is); (case te_NoName => k_is); (case he_NoName => k_is); (case ie_NoName => k_is); (case xi_SameGate => k_exc); (case ke_SameGate => k_is); (case be_SameGate => k_is); (case te_SameGate => k_is); (case he_SameGate => k_is); (case ie_SameGate => k_is); (case xi_FullNet => k_exc); (case ke_FullNet => k_is); (case be_FullNet => k_is); (case te_FullNet => k_is); (case he_FullNet => k_is); (case ie_FullNet => k_is); (case xi_NoGate => k_exc); (case ke_NoGate => k_is); (case be_NoGate => k_is); (case te_NoGate => k_is); (case he_NoGate => k_is); (case ie_NoGate => k_is); (case xi_NoNumber => k_exc); (case ke_NoNumber => k_is); (case be_NoNumber => k_is); (case te_NoNumber => k_is); (case he_NoNumber => k_is); (case ie_NoNumber => k_is); (case xi_NoRoad => k_exc); (case ke_NoRoad => k_is); (case be_NoRoad => k_is); (case te_NoRoad => k_is); (case he_NoRoad => k_is); (case ie_NoRoad => k_is); (case xi_Already => k_exc); (case ke_Already => k_is); (case be_Already => k_is); (case te_Already => k_is); (case he_Already => k_is); (case ie_Already => k_is); (case xi_NoTime => k_exc); (case ke_NoTime => k_is); (case be_NoTime => k_is); (case te_NoTime => k_is); (case he_NoTime => k_is); (case ie_NoTime => k_is); (case xi_Blind => k_exc); (case ke_Blind => k_is); (case be_Blind => k_is); (case te_Blind => k_is); (case he_Blind => k_is); (case ie_Blind => k_is); (case xi_NoCar => k_exc); (case ke_NoCar => k_is); (case be_NoCar => k_is); (case te_NoCar => k_is); (case he_NoCar => k_is); (case ie_NoCar => k_is); (case xi_NoSight => k_exc); (case ke_NoSight => k_is); (case be_NoSight => k_is); (case te_NoSight => k_is); (case he_NoSight => k_is); (case ie_NoSight => k_is); (case v_NoName_NoName => k_is); (case v_NoName_SameGate => k_is); (case v_NoName_FullNet => k_is); (case v_NoName_NoGate => k_is); (case v_NoName_NoNumber => k_is); (case v_NoName_NoRoad => k_is); (case v_NoName_Already => k_is); (case v_NoName_NoTime => k_is); (case v_NoName_Blind => k_is); (case v_NoName_NoCar => k_is); (case v_NoName_NoSight => k_is); (case v_SameGate_NoName => k_is); (case v_SameGate_SameGate => k_is); (case v_SameGate_FullNet => k_is); (case v_SameGate_NoGate => k_is); (case v_SameGate_NoNumber => k_is); (case v_SameGate_NoRoad => k_is); (case v_SameGate_Already => k_is); (case v_SameGate_NoTime => k_is); (case v_SameGate_Blind => k_is); (case v_SameGate_NoCar => k_is); (case v_SameGate_NoSight => k_is); (case v_FullNet_NoName => k_is); (case v_FullNet_SameGate => k_is); (case v_FullNet_FullNet => k_is); (case v_FullNet_NoGate => k_is); (case v_FullNet_NoNumber => k_is); (case v_FullNet_NoRoad => k_is); (case v_FullNet_Already => k_is); (case v_FullNet_NoTime => k_is); (case v_FullNet_Blind => k_is); (case v_FullNet_NoCar => k_is); (case v_FullNet_NoSight => k_is); (case v_NoGate_NoName => k_is); (case v_NoGate_SameGate => k_is); (case v_NoGate_FullNet => k_is); (case v_NoGate_NoGate => k_is); (case v_NoGate_NoNumber => k_is); (case v_NoGate_NoRoad => k_is); (case v_NoGate_Already => k_is); (case v_NoGate_NoTime => k_is); (case v_NoGate_Blind => k_is); (case v_NoGate_NoCar => k_is); (case v_NoGate_NoSight => k_is); (case v_NoNumber_NoName => k_is); (case v_NoNumber_SameGate => k_is); (case v_NoNumber_FullNet => k_is); (case v_NoNumber_NoGate => k_is); (case v_NoNumber_NoNumber => k_is); (case v_NoNumber_NoRoad => k_is); (case v_NoNumber_Already => k_is); (case v_NoNumber_NoTime => k_is); (case v_NoNumber_Blind => k_is); (case v_NoNumber_NoCar => k_is); (case v_NoNumber_NoSight => k_is); (case v_NoRoad_NoName => k_is); (case v_NoRoad_SameGate => k_is); (case v_NoRoad_FullNet => k_is); (case v_NoRoad_NoGate => k_is); (case v_NoRoad_NoNumber => k_is); (case v_NoRoad_NoRoad => k_is); (case v_NoRoad_Already => k_is); (case v_NoRoad_NoTime => k_is); (case v_NoRoad_Blind => k_is); (case v_NoRoad_NoCar => k_is); (case v_NoRoad_NoSight => k_is); (case v_Already_NoName => k_is); (case v_Already_SameGate => k_is); (case v_Already_FullNet => k_is); (case v_Already_NoGate => k_is); (case v_Already_NoNumber => k_is); (case v_Already_NoRoad => k_is); (case v_Already_Already => k_is); (case v_Already_NoTime => k_is); (case v_Already_Blind => k_is); (case v_Already_NoCar => k_is); (case v_Already_NoSight => k_is); (case v_NoTime_NoName => k_is); (case v_NoTime_SameGate => k_is); (case v_NoTime_FullNet => k_is); (case v_NoTime_NoGate => k_is); (case v_NoTime_NoNumber => k_is); (case v_NoTime_NoRoad => k_is); (case v_NoTime_Already => k_is); (case v_NoTime_NoTime => k_is); (case v_NoTime_Blind => k_is); (case v_NoTime_NoCar => k_is); (case v_NoTime_NoSight => k_is); (case v_Blind_NoName => k_is); (case v_Blind_SameGate => k_is); (case v_Blind_FullNet => k_is); (case v_Blind_NoGate => k_is); (case v_Blind_NoNumber => k_is); (case v_Blind_NoRoad => k_is); (case v_Blind_Already => k_is); (case v_Blind_NoTime => k_is); (case v_Blind_Blind => k_is); (case v_Blind_NoCar => k_is); (case v_Blind_NoSight => k_is); (case v_NoCar_NoName => k_is); (case v_NoCar_SameGate => k_is); (case v_NoCar_FullNet => k_is); (case v_NoCar_NoGate => k_is); (case v_NoCar_NoNumber => k_is); (case v_NoCar_NoRoad => k_is); (case v_NoCar_Already => k_is); (case v_NoCar_NoTime => k_is); (case v_NoCar_Blind => k_is); (case v_NoCar_NoCar => k_is); (case v_NoCar_NoSight => k_is); (case v_NoSight_NoName => k_is); (case v_NoSight_SameGate => k_is); (case v_NoSight_FullNet => k_is); (case v_NoSight_NoGate => k_is); (case v_NoSight_NoNumber => k_is); (case v_NoSight_NoRoad => k_is); (case v_NoSight_Already => k_is); (case v_NoSight_NoTime => k_is); (case v_NoSight_Blind => k_is); (case v_NoSight_NoCar => k_is); (case v_NoSight_NoSight => k_is); (case u_SMALL_SIGNS => k_is); (case u_MOST_SIGNS => k_is); (case u_NAME_SIGNS => k_is); (case u_MOST_GATES => k_is); (case u_MOST_ROADS => k_is); (case u_MOST_MINUTES => k_is); (case u_MOST_TOLL => k_is); (case u_LAST_TIME => k_is); (case z_range => k_is); (case z_len => k_is); (case z_enumerate => k_is); (case z_sum => k_is); (case z_all => k_is); (case z_list => k_is); (case z_dict => k_is); (case z_sorted => k_is); (case z_isinstance => k_is); (case z_int => k_is); (case z_bool => k_is); (case z_str => k_is); (case z_max => k_is); (case z_tuple => k_is); (case z_min => k_is); (case y_heappop => k_is); (case y_heappush => k_is)
