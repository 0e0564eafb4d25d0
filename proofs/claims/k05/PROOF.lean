import PyProof.Rows.All
import Wide.All
import OpenK.AllK
import Wide.FinOn
import HandS.ForMost
import HandS.IsInst
import HandS.Walk
import HandS.Evl
import HandS.Codes
import HandS.Steps
import PySem.Challenge.RW_tollguess_k05_rows_read
set_option Elab.async false
set_option maxRecDepth 100000
set_option maxHeartbeats 4000000
namespace Toll
open PySem L2
def DefOk (P : Program) (w : World) (K : PySem.W.Frag) (mg : Str → Option Value) (base : Heap) (CX : CXT) (k : Nat) (f : Addr) (ps : List Str) (sp : Sp) : Prop :=
  ∃ fd : FuncData, FnOk P w K mg base CX k f fd ps sp ∧ Binds K fd ps [] ∧ PySem.W.keepIn K (.ref f) = true
theorem same_new {H H' : Hp} {p : Addr} {o : HO} (s : Same H H') (h : H p = none) : Same H (upd H' p o) := fun b u e => by
  rw [upd_ne (ne_of_none e h)]
  exact s b u e
theorem same_up {H : Hp} {p : Addr} {o : HO} (h : H p = none) : Same H (upd H p o) := same_new (Same.refl H) h
/-! ### the script's cells -/
def cellAt (ns : List Int) (k : Int) : Int := if k < (ns.length : Int) then ns.getD k.toNat 0 else 0
theorem map_int_get {ns : List Int} {i : Nat} (h : i < ns.length) : (ns.map V.int)[i]? = some (V.int (ns.getD i 0)) := by
  rw [List.getElem?_map, List.getElem?_eq_getElem h, List.getD_eq_getElem?_getD, List.getElem?_eq_getElem h]
  rfl
def mixCell (ns : List Int) (k : Int) : Int := if 0 < ns.length then ns.getD (k % (ns.length : Int)).toNat 0 else 0
@[irreducible] def mixed (ns : List Int) (k : Int) : Int :=
  let m := (mixCell ns k + 7919 * k) * 48271 % 2147483647
  (m * m + 16807 * m) % 2147483629
theorem mixed_def (ns : List Int) (k : Int) : mixed ns k = ((mixCell ns k + 7919 * k) * 48271 % 2147483647 * ((mixCell ns k + 7919 * k) * 48271 % 2147483647) + 16807 * ((mixCell ns k + 7919 * k) * 48271 % 2147483647)) % 2147483629 := by unfold mixed; rfl
theorem mixed_pos (ns : List Int) (k : Int) : 0 ≤ mixed ns k ∧ mixed ns k < 2147483629 :=
  by rw [mixed_def]; exact ⟨Int.emod_nonneg _ (by decide), Int.emod_lt_of_pos _ (by decide)⟩
/-! ### texts -/
def sx (cs : List Nat) : Str := ⟨cs.toArray⟩
theorem sx_len (cs : List Nat) : (sx cs).length = cs.length := by
  show cs.toArray.size = _
  simp
theorem sx_tl (cs : List Nat) : (sx cs).cps.toList = cs := by simp [sx]
theorem sx_inj {a b : List Nat} (h : sx a = sx b) : a = b := by
  have := congrArg (fun x : Str => x.cps.toList) h
  simpa [sx_tl] using this
theorem sx_app (a b : List Nat) : sx a ++ sx b = sx (a ++ b) := by
  show (⟨a.toArray ++ b.toArray⟩ : Str) = ⟨(a ++ b).toArray⟩
  simp
theorem sx_of (z : Str) : sx z.cps.toList = z := by
  cases z; simp [sx]
theorem joinL_len : ∀ l : List (List Nat), (TL.joinL [] l).length = (l.map List.length).sum
  | [] => rfl
  | [p] => by simp [TL.joinL]
  | p :: q :: r => by
    have ih := joinL_len (q :: r)
    rw [TL.joinL, List.length_append, List.length_append, ih]
    simp
theorem joinL_ones : ∀ cs : List Nat, TL.joinL [] (cs.map fun c => [c]) = cs
  | [] => rfl
  | [p] => rfl
  | p :: q :: r => by
    have ih := joinL_ones (q :: r)
    rw [List.map_cons] at ih
    rw [List.map_cons, List.map_cons, TL.joinL, ih]
    rfl
def one (c : Nat) : Str := ⟨#[c]⟩
theorem join_ones (cs : List Nat) : PySem.Txt.join (Str.ofString "") (cs.map one) = sx cs := by
  rw [TL.join_eq]
  have h : TL.tl (Str.join (Str.ofString "") (cs.map one)) = cs := by
    rw [TL.tl_join, List.map_map]
    exact joinL_ones cs
  rw [← sx_of (Str.join (Str.ofString "") (cs.map one))]
  exact congrArg sx h
theorem sum_ones (cs : List Nat) : ((cs.map one).map (·.length)).sum = cs.length := by
  induction cs with
  | nil => rfl
  | cons c cs ih =>
    rw [List.map_cons, List.map_cons, List.sum_cons, ih]
    show 1 + _ = _
    simp; omega
theorem ix_mod (z : Str) (n : Int) {L : Nat} (hL : z.cps.toList.length = L) (h0 : 0 < L) : atI z.cps.toList (n % (L : Int)) = some (z.cps.toList.getD (n % (L : Int)).toNat 0) := by
  have h1 := Int.emod_nonneg n (b := (L : Int)) (by omega)
  have h2 := Int.emod_lt_of_pos n (b := (L : Int)) (by omega)
  have h3 : (n % (L : Int)).toNat < z.cps.toList.length := by omega
  refine Eq.trans (congrArg _ (Int.toNat_of_nonneg h1).symm) (atI_nat ?_)
  rw [List.getD_eq_getElem?_getD, List.getElem?_eq_getElem h3]
  rfl
theorem ix_le (z : Str) (n : Int) (h1 : 0 ≤ n) (h2 : n < (z.cps.toList.length : Int)) : atI z.cps.toList n = some (z.cps.toList.getD n.toNat 0) := by
  have h3 : n.toNat < z.cps.toList.length := by omega
  refine Eq.trans (congrArg _ (Int.toNat_of_nonneg h1).symm) (atI_nat ?_)
  rw [List.getD_eq_getElem?_getD, List.getElem?_eq_getElem h3]
  rfl
theorem ixN_of {n : Nat} {i : Int} {j : Nat} (e : i = (j : Int)) (h : j < n) : ixN n i = some j := by
  subst e
  unfold ixN
  rw [if_pos (by omega), if_pos (by omega), Int.toNat_natCast]
theorem log_small {i : Int} (h0 : -1000000000 ≤ i) (h1 : i ≤ 1000000000) : i.natAbs.log2 < 1920 := by
  by_cases h : i.natAbs = 0
  · rw [h]; decide
  · refine Nat.lt_of_lt_of_le ((Nat.log2_lt h).mpr (show i.natAbs < 2 ^ 30 by omega)) (by decide)
theorem seq_if {c : TT} {t1 t2 r : TS} {D : Ends} {σ : L2.St} {H : Hp} (b : Bool) (hc : Ans c σ H b) (hT : b = true → t1 { D with nx := r D } σ H) (hF : b = false → t2 { D with nx := r D } σ H) : tSeq (tIfS c t1 t2) r D σ H := by
  refine hc _ ?_
  cases b with
  | true => exact hT rfl
  | false => exact hF rfl
theorem seq_if1 {c : TT} {t1 r : TS} {D : Ends} {σ : L2.St} {H : Hp} (b : Bool) (hc : Ans c σ H b) (hT : b = true → t1 { D with nx := r D } σ H) (hF : b = false → r D σ H) : tSeq (tIfS c t1 tNext) r D σ H := by
  refine hc _ ?_
  cases b with
  | true => exact hT rfl
  | false => exact hF rfl
theorem do_if1 {c : TT} {t1 : TS} {D : Ends} {σ : L2.St} {H : Hp} (b : Bool) (hc : Ans c σ H b) (hT : b = true → t1 D σ H) (hF : b = false → D.nx σ H) : tIfS c t1 tNext D σ H := by
  refine hc _ ?_
  cases b with
  | true => exact hT rfl
  | false => exact hF rfl
theorem do_if {c : TT} {t1 t2 : TS} {D : Ends} {σ : L2.St} {H : Hp} (b : Bool) (hc : Ans c σ H b) (hT : b = true → t1 D σ H) (hF : b = false → t2 D σ H) : tIfS c t1 t2 D σ H := by
  refine hc _ ?_
  cases b with
  | true => exact hT rfl
  | false => exact hF rfl
theorem an_or {t u : TT} {σ : L2.St} {H : Hp} {a b : Bool} (h1 : Ans t σ H a) (h2 : a = false → Ans u σ H b) : Ans (tOr t u) σ H (a || b) := fun Q q => by
  refine h1 _ ?_
  cases a with
  | true => exact q
  | false => exact h2 rfl _ q
theorem an_and {t u : TT} {σ : L2.St} {H : Hp} {a b : Bool} (h1 : Ans t σ H a) (h2 : a = true → Ans u σ H b) : Ans (tAnd t u) σ H (a && b) := fun Q q => by
  refine h1 _ ?_
  cases a with
  | true => exact h2 rfl _ q
  | false => exact q
theorem dec_int {i j : Int} : decide (V.int i = V.int j) = decide (i = j) := decide_eq_decide.mpr ⟨fun h => by injection h, fun h => by rw [h]⟩
theorem dec_str {i j : Str} : decide (V.str i = V.str j) = decide (i = j) := decide_eq_decide.mpr ⟨fun h => by injection h, fun h => by rw [h]⟩
theorem dec_bl {i j : Bool} : decide (V.bl i = V.bl j) = decide (i = j) := decide_eq_decide.mpr ⟨fun h => by injection h, fun h => by rw [h]⟩
theorem or_test {t u : TT} {σ : L2.St} {H : Hp} {Q : Bool → Hp → Prop} (a b : Bool) (h1 : ∀ Q' : Bool → Hp → Prop, Q' a H → t σ H Q') (h2 : a = false → ∀ Q' : Bool → Hp → Prop, Q' b H → u σ H Q') (h : Q (a || b) H) : tOr t u σ H Q := by
  refine h1 _ ?_
  cases a with
  | true => exact h
  | false => exact h2 rfl _ h
theorem and_test {t u : TT} {σ : L2.St} {H : Hp} {Q : Bool → Hp → Prop} (a b : Bool) (h1 : ∀ Q' : Bool → Hp → Prop, Q' a H → t σ H Q') (h2 : a = true → ∀ Q' : Bool → Hp → Prop, Q' b H → u σ H Q') (h : Q (a && b) H) : tAnd t u σ H Q := by
  refine h1 _ ?_
  cases a with
  | true => exact h2 rfl _ h
  | false => exact h
theorem atI_of {α : Type} {xs : List α} {z : Int} {j : Nat} {v : α} (e : z = (j : Int)) (h : xs[j]? = some v) : atI xs z = some v := by
  rw [e]
  exact atI_nat h
theorem cut_to (xs : List V) {n : Int} (h : 0 ≤ n) : cutV xs none (some n) = xs.take n.toNat := by
  unfold cutV
  obtain ⟨k, rfl⟩ := Int.eq_ofNat_of_zero_le h
  rw [HT.sIx_nat, HT.sIx_none, Nat.sub_zero, List.drop_zero, Int.toNat_natCast, List.take_eq_take_iff]
  omega
theorem cut_from (xs : List V) {n : Int} (h : 0 ≤ n) : cutV xs (some n) none = xs.drop n.toNat := by
  unfold cutV
  obtain ⟨k, rfl⟩ := Int.eq_ofNat_of_zero_le h
  rw [HT.sIx_nat, HT.sIx_none, Int.toNat_natCast]
  by_cases hk : k ≤ xs.length
  · rw [Nat.min_eq_left hk, List.take_of_length_le (by simp)]
  · rw [Nat.min_eq_right (by omega)]
    simp
    omega
/-! ### names -/
@[irreducible] def someS : Str := "abcdefghijklmnopqrstuvwxyz0123456789"
theorem someS_def : someS = ("abcdefghijklmnopqrstuvwxyz0123456789" : Str) := by unfold someS; rfl
theorem someS_len : someS.cps.toList.length = 36 := by unfold someS; decide +kernel
@[irreducible] def sgn (i : Int) : Nat := someS.cps.toList.getD i.toNat 0
theorem sgn_def (i : Int) : sgn i = someS.cps.toList.getD i.toNat 0 := by unfold sgn; rfl
theorem ix36 (n : Int) : atI someS.cps.toList (n % 36) = some (sgn (n % 36)) := by
  rw [sgn_def]
  exact ix_mod someS n (L := 36) someS_len (by decide)
theorem ix26 (n : Int) : atI someS.cps.toList (n % 26) = some (sgn (n % 26)) := by
  rw [sgn_def]
  exact ix_le someS (n % 26) (by omega) (by have := someS_len; omega)
@[irreducible] def sg0 (b : Int) : List Nat := (List.range 8).map fun (k : Nat) => sgn ((b / 64 + 7 * (k : Int) + b / 99991 * (k : Int)) % 36)
theorem sg0_def (b : Int) : sg0 b = (List.range 8).map fun (k : Nat) => sgn ((b / 64 + 7 * (k : Int) + b / 99991 * (k : Int)) % 36) := by unfold sg0; rfl
@[irreducible] def sg (b : Int) : List Nat := (sg0 b).set 0 (sgn (b / 64 % 26))
theorem sg_def (b : Int) : sg b = (sg0 b).set 0 (sgn (b / 64 % 26)) := by unfold sg; rfl
@[irreducible] def digs (t : Int) : List Nat := TL.numL t.toNat
theorem digs_def (t : Int) : digs t = TL.numL t.toNat := by unfold digs; rfl
theorem digs_sx {t : Int} (h : 0 ≤ t) : Str.ofString (toString t) = sx (digs t) := by
  obtain ⟨n, rfl⟩ := Int.eq_ofNat_of_zero_le h
  rw [digs_def, Int.toNat_natCast]
  exact SX.num_S n
theorem digs_len {t : Int} (h1 : t ≤ 1000) : (digs t).length ≤ 4 := by
  rw [digs_def]
  exact TL.numL_len (by decide) (by omega)
def nameL (b t : Int) : List Nat :=
  if b % 3 = 0 ∧ t < 8 then (sg b).take (1 + t).toNat
  else if b % 3 < 2 ∨ 25 < t then (sg b).take (1 + b / 3 % 5).toNat ++ digs t
  else ((sg b).set (b / 24 % (1 + b / 3 % 8)).toNat (sgn ((b / 2311 + t) % (if b / 24 % (1 + b / 3 % 8) = 0 then 26 else 36)))).take (1 + b / 3 % 8).toNat
@[irreducible] def nameOf (b t : Int) : Str := sx (nameL b t)
theorem nameOf_def (b t : Int) : nameOf b t = sx (nameL b t) := by unfold nameOf; rfl
theorem sg0_len (b : Int) : (sg0 b).length = 8 := by simp [sg0_def]
theorem sg_len (b : Int) : (sg b).length = 8 := by simp [sg_def, sg0_len]
/-- the list of the signs of a text, as it stands in a list of texts -/
def onesV (cs : List Nat) : List V := (cs.map one).map V.str
theorem onesV_len (cs : List Nat) : (onesV cs).length = cs.length := by simp [onesV]
theorem onesV_take (cs : List Nat) (n : Nat) : (onesV cs).take n = onesV (cs.take n) := by simp [onesV, List.map_take]
theorem onesV_set (cs : List Nat) (n c : Nat) : (onesV cs).set n (V.str ⟨#[c]⟩) = onesV (cs.set n c) := by
  unfold onesV
  rw [List.map_set, List.map_set]
  rfl
theorem sgn_lt (i : Int) : sgn i < 128 := by
  have h : someS.cps.toList.all (fun c => decide (c < 128)) = true := by unfold someS; decide +kernel
  rw [sgn_def, List.getD_eq_getElem?_getD]
  cases e : someS.cps.toList[i.toNat]? with
  | none => decide
  | some c => exact of_decide_eq_true (List.all_eq_true.mp h c (List.mem_of_getElem? e))
theorem sg_lt (b : Int) : ∀ c ∈ sg b, c < 128 := by
  intro c hc
  rw [sg_def] at hc
  rcases List.mem_or_eq_of_mem_set hc with h | h
  · rw [sg0_def] at h
    obtain ⟨k, _, rfl⟩ := List.mem_map.mp h
    exact sgn_lt _
  · rw [h]
    exact sgn_lt _
theorem digs_lt (t : Int) : ∀ c ∈ digs t, c < 128 := by
  intro c hc
  rw [digs_def] at hc
  have := TL.numL_digits _ c hc
  omega
theorem nameL_lt (b t : Int) : ∀ c ∈ nameL b t, c < 128 := by
  intro c hc
  unfold nameL at hc
  split at hc
  · exact sg_lt b c (List.mem_of_mem_take hc)
  · split at hc
    · rcases List.mem_append.mp hc with h | h
      · exact sg_lt b c (List.mem_of_mem_take h)
      · exact digs_lt t c h
    · rcases List.mem_or_eq_of_mem_set (List.mem_of_mem_take hc) with h | h
      · exact sg_lt b c h
      · rw [h]
        exact sgn_lt _
theorem nameOf_ok (b t : Int) : PyData.strOk (nameOf b t) = true := by
  rw [nameOf_def]
  show (nameL b t).toArray.all (· < 0x110000) = true
  rw [List.all_toArray, List.all_eq_true]
  intro c hc
  exact decide_eq_true (Nat.lt_trans (nameL_lt b t c hc) (by decide))
end Toll

set_option Elab.async false
set_option maxRecDepth 100000
set_option maxHeartbeats 4000000
namespace Toll
open PySem L2
/-! ### data for == -/
def okD (k : Nat) (d : PyData) : Prop := d.canLay0 = true ∧ d.depth ≤ k
theorem okD_all {k : Nat} : ∀ {ds : List PyData}, (∀ d ∈ ds, okD k d) → PyData.canLayAll0 ds = true ∧ PyData.depthAll ds ≤ k
  | [], _ => ⟨by simp [PyData.canLayAll0], by simp [PyData.depthAll]⟩
  | d :: ds, h => by
    have ih := okD_all (ds := ds) fun x hx => h x (List.mem_cons_of_mem _ hx)
    have h1 := h d (List.mem_cons_self ..)
    refine ⟨by simp [PyData.canLayAll0, h1.1, ih.1], ?_⟩
    simp only [PyData.depthAll]
    have := h1.2
    have := ih.2
    omega
theorem okD_list {k : Nat} {ds : List PyData} (h : ∀ d ∈ ds, okD k d) : okD (k + 1) (.list ds) := by
  have := okD_all h
  refine ⟨by simp only [PyData.canLay0]; exact this.1, ?_⟩
  simp only [PyData.depth]
  omega
theorem okD_tup {k : Nat} {ds : List PyData} (h : ∀ d ∈ ds, okD k d) : okD (k + 1) (.tuple ds) := by
  have := okD_all h
  refine ⟨by simp only [PyData.canLay0]; exact this.1, ?_⟩
  simp only [PyData.depth]
  omega
theorem okD_int (i : Int) : okD 0 (.int i) := ⟨by simp [PyData.canLay0], by simp [PyData.depth]⟩
theorem okD_bool (i : Bool) : okD 0 (.bool i) := ⟨by simp [PyData.canLay0], by simp [PyData.depth]⟩
theorem okD_str {x : Str} (h : PyData.strOk x = true) : okD 0 (.str x) := ⟨by simp [PyData.canLay0, h], by simp [PyData.depth]⟩
theorem okD.shaped {k : Nat} {d : PyData} (h : okD k d) (hk : k ≤ 64) : SeqAt.shaped d = true := by
  show (d.canLay0 && decide (d.depth ≤ 64)) = true
  rw [Bool.and_eq_true]
  exact ⟨h.1, decide_eq_true (by have := h.2; omega)⟩
theorem okD.refl {k : Nat} {d : PyData} (h : okD k d) : PyData.eqv d d = true := SeqAt.eqv_refl d h.1
/-! ### lists of ints -/
def intsD (ns : List Int) : PyData := .list (ns.map PyData.int)
theorem intsD_ok (ns : List Int) : okD 1 (intsD ns) := okD_list fun d hd => by
  obtain ⟨i, _, rfl⟩ := List.mem_map.mp hd
  exact okD_int i
theorem dpAll_ints {K : PySem.W.Frag} {H : Hp} : ∀ ns : List Int, DpAll K H (ns.map V.int) (ns.map PyData.int)
  | [] => .nil
  | n :: ns => .cons (.int n) (dpAll_ints ns)
theorem dp_ints {K : PySem.W.Frag} {H : Hp} {a : Addr} {ns : List Int} (h : SqL K H a (ns.map V.int)) : Dp K H (.ref a) (intsD ns) := .lst h (dpAll_ints ns)
/-! ### a while by a number that falls -/
theorem while_m {c : TT} {tb : TS} {D : Ends} {σ : L2.St} {H : Hp} (W : Nat → L2.St → Hp → Prop) (m : Nat) (h0 : W m σ H)
    (hs : ∀ m σ H, W m σ H → ∃ b, Ans c σ H b ∧ (b = true → tb { D with nx := fun σ' H' => ∃ m', m' < m ∧ W m' σ' H', ct := fun σ' H' => ∃ m', m' < m ∧ W m' σ' H', bk := D.nx } σ H) ∧ (b = false → D.nx σ H)) : tWhile c tb D σ H := by
  refine ⟨W, ⟨m, h0⟩, fun m σ H w => ?_⟩
  obtain ⟨b, ha, hT, hF⟩ := hs m σ H w
  refine ha _ ?_
  cases b with
  | true => exact ⟨_, fun _ _ q => q, hT rfl⟩
  | false => exact hF rfl
theorem seq_while {c : TT} {tb r : TS} {D : Ends} {σ : L2.St} {H : Hp} (W : Nat → L2.St → Hp → Prop) (m : Nat) (h0 : W m σ H)
    (hs : ∀ m σ H, W m σ H → ∃ b, Ans c σ H b ∧ (b = true → tb { D with nx := fun σ' H' => ∃ m', m' < m ∧ W m' σ' H', ct := fun σ' H' => ∃ m', m' < m ∧ W m' σ' H', bk := r D } σ H) ∧ (b = false → r D σ H)) : tSeq (tWhile c tb) r D σ H :=
  while_m (D := { D with nx := r D }) W m h0 hs
/-! ### rows -/
structure Row where
  nm : Str
  mi : Int
  tl : Int
  rd : Int
  bk : Int
def rowVs (r : Row) : List V := [.str r.nm, .int r.mi, .int r.tl, .int r.rd, .int r.bk]
def RowV (H : Hp) (v : V) (r : Row) : Prop := ∃ t, v = .ref t ∧ H t = some (.tup (rowVs r))
theorem RowV.same {H H' : Hp} {v : V} {r : Row} (s : Same H H') (h : RowV H v r) : RowV H' v r := by
  obtain ⟨t, e, h⟩ := h
  exact ⟨t, e, s _ _ h⟩
theorem rows_same {H H' : Hp} {us : List V} {rows : List Row} (s : Same H H') (h : Paired (RowV H) us rows) : Paired (RowV H') us rows := L2.Paired.mapP h fun _ _ h => RowV.same s h
theorem paired_len {α β : Type} {F : α → β → Prop} : ∀ {l : List α} {m : List β}, Paired F l m → l.length = m.length
  | _, _, .nil => rfl
  | _, _, .cons _ t => by simp [paired_len t]
theorem paired_get {α β : Type} {F : α → β → Prop} : ∀ {l : List α} {m : List β} {i : Nat} {y : β}, Paired F l m → m[i]? = some y → ∃ x, l[i]? = some x ∧ F x y
  | _, _, _, _, .nil, e => by simp at e
  | _, _, 0, _, .cons r _, e => by simp at e; subst e; exact ⟨_, rfl, r⟩
  | _, _, i + 1, y, .cons _ t, e => by
    obtain ⟨x, h1, h2⟩ := paired_get (i := i) (y := y) t (by simpa using e)
    exact ⟨x, by simpa using h1, h2⟩
theorem paired_getL {α β : Type} {F : α → β → Prop} : ∀ {l : List α} {m : List β} {i : Nat} {x : α}, Paired F l m → l[i]? = some x → ∃ y, m[i]? = some y ∧ F x y
  | _, _, _, _, .nil, e => by simp at e
  | _, _, 0, _, .cons r _, e => by simp at e; subst e; exact ⟨_, rfl, r⟩
  | _, _, i + 1, y, .cons _ t, e => by
    obtain ⟨x, h1, h2⟩ := paired_getL (i := i) (x := y) t (by simpa using e)
    exact ⟨x, by simpa using h1, h2⟩
theorem paired_take {α β : Type} {F : α → β → Prop} : ∀ {l : List α} {m : List β} (n : Nat), Paired F l m → Paired F (l.take n) (m.take n)
  | _, _, 0, _ => .nil
  | _, _, _ + 1, .nil => .nil
  | _, _, n + 1, .cons r t => .cons r (paired_take n t)
theorem rows_upd {H : Hp} {L : Addr} {xs : List V} {o : HO} {us : List V} {rows : List Row} (hL : H L = some (.lst xs)) (h : Paired (RowV H) us rows) : Paired (RowV (upd H L o)) us rows := L2.Paired.mapP h fun _ _ ⟨t, e, ht⟩ => ⟨t, e, by rw [upd_ne (ne_of ht hL (by intro z; cases z))]; exact ht⟩
def rowsD (rows : List Row) : PyData := .list (rows.map fun r => .tuple [.str r.nm, .int r.mi, .int r.tl, .int r.rd, .int r.bk])
theorem rowsD_ok {rows : List Row} (h : ∀ r ∈ rows, PyData.strOk r.nm = true) : okD 2 (rowsD rows) := okD_list fun d hd => by
  obtain ⟨r, hr, rfl⟩ := List.mem_map.mp hd
  refine okD_tup fun e he => ?_
  simp only [List.mem_cons, List.not_mem_nil, or_false] at he
  rcases he with rfl | rfl | rfl | rfl | rfl
  · exact okD_str (h r hr)
  all_goals exact okD_int _
theorem dpAll_rows {K : PySem.W.Frag} {H : Hp} : ∀ {vs : List V} {rows : List Row}, Paired (RowV H) vs rows → DpAll K H vs (rows.map fun r => .tuple [.str r.nm, .int r.mi, .int r.tl, .int r.rd, .int r.bk])
  | _, _, .nil => .nil
  | _, _, .cons ⟨t, e, h⟩ r => by
    subst e
    exact .cons (.tup (SqT.of h) (.cons (.str _) (.cons (.int _) (.cons (.int _) (.cons (.int _) (.cons (.int _) .nil)))))) (dpAll_rows r)
theorem dp_rows {K : PySem.W.Frag} {H : Hp} {a : Addr} {vs : List V} {rows : List Row} (h : SqL K H a vs) (p : Paired (RowV H) vs rows) : Dp K H (.ref a) (rowsD rows) := .lst h (dpAll_rows p)
/-- the place of the least toll of a name among rows 1 .. i - 1 -/
def leastF (rows : List Row) (nm : Str) : Nat → Option Nat
  | 0 => none
  | i + 1 =>
    if i = 0 then none else
    match rows[i]? with
    | none => leastF rows nm i
    | some r => if r.nm = nm then
        match leastF rows nm i with
        | none => some i
        | some b => if r.tl < ((rows[b]?).map (·.tl)).getD 0 then some i else some b
      else leastF rows nm i
theorem leastF_lt {rows : List Row} {nm : Str} : ∀ {i b : Nat}, leastF rows nm i = some b → b < i
  | 0, b, h => by cases h
  | i + 1, b, h => by
    unfold leastF at h
    split at h
    · cases h
    · split at h
      · have := leastF_lt h
        omega
      · split at h
        · split at h
          · injection h with h; omega
          · rename_i c hc
            have := leastF_lt hc
            split at h <;> injection h with h <;> omega
        · have := leastF_lt h
          omega
def oV : Option Nat → V
  | none => .non
  | some i => .int (i : Int)
/-- the roads back from a row -/
def roadsF (rows : List Row) : Nat → Int → List Int
  | 0, _ => []
  | f + 1, p => if p ≤ 0 then [] else match rows[p.toNat]? with
    | none => []
    | some r => roadsF rows f r.bk ++ [r.rd]
def Backs (rows : List Row) : Prop := ∀ (i : Nat) (r : Row), rows[i]? = some r → r.bk < (i : Int) ∧ (i = 0 ∨ 0 ≤ r.bk)
/-- enough turns are enough -/
theorem roadsF_more {rows : List Row} (hb : Backs rows) : ∀ (f g : Nat) (p : Int), p ≤ (f : Int) → p ≤ (g : Int) → roadsF rows f p = roadsF rows g p
  | 0, 0, _, _, _ => rfl
  | 0, g + 1, p, h, _ => by
    unfold roadsF
    rw [if_pos (by omega)]
  | f + 1, 0, p, _, h => by
    unfold roadsF
    rw [if_pos (by omega)]
  | f + 1, g + 1, p, h1, h2 => by
    unfold roadsF
    by_cases hp : p ≤ 0
    · rw [if_pos hp, if_pos hp]
    · rw [if_neg hp, if_neg hp]
      cases e : rows[p.toNat]? with
      | none => rfl
      | some r =>
        have := (hb _ _ e).1
        show roadsF rows f r.bk ++ _ = roadsF rows g r.bk ++ _
        rw [roadsF_more hb f g r.bk (by omega) (by omega)]
def roadsOf (rows : List Row) (p : Int) : List Int := roadsF rows p.toNat p
theorem roadsOf_step {rows : List Row} (hb : Backs rows) {p : Int} (h : 0 < p) {r : Row} (hr : rows[p.toNat]? = some r) : roadsOf rows p = roadsOf rows r.bk ++ [r.rd] := by
  unfold roadsOf
  obtain ⟨n, rfl⟩ : ∃ n : Nat, p = ((n + 1 : Nat) : Int) := ⟨p.toNat - 1, by omega⟩
  rw [Int.toNat_natCast] at hr ⊢
  show roadsF rows (n + 1) _ = _
  conv => lhs; unfold roadsF
  rw [if_neg (by omega), Int.toNat_natCast, hr]
  show roadsF rows n r.bk ++ _ = _
  have := (hb _ _ hr).1
  rw [roadsF_more hb n r.bk.toNat r.bk (by omega) (by omega)]
theorem roadsOf_end (rows : List Row) {p : Int} (h : p ≤ 0) : roadsOf rows p = [] := by
  unfold roadsOf
  rw [show p.toNat = 0 by omega]
  rfl
theorem roadsF_len (rows : List Row) : ∀ f p, (roadsF rows f p).length ≤ f
  | 0, _ => by simp [roadsF]
  | f + 1, p => by
    unfold roadsF
    split
    · simp
    · split
      · simp
      · have := roadsF_len rows f
        simp [this]
/-- the law's rows -/
def nextRow (b : Int) (rows : List Row) (n : Int) : Row :=
  let back := n % (rows.length : Int)
  let r := rows.getD back.toNat ⟨nameOf 0 0, 0, 0, 0, 0⟩
  ⟨nameOf b (n / 7 % 6), r.mi + (1 + n / 1009 % 9), r.tl + n / 101 % 7 * (if n / 31 % 3 > 0 then 1 else 0), n / 10007 % 200, back⟩
def lawRows (ns : List Int) (b : Int) : Nat → List Row
  | 0 => [⟨nameOf b (cellAt ns 0 % 6), 0, 0, -1, -1⟩]
  | k + 1 => lawRows ns b k ++ [nextRow b (lawRows ns b k) (mixed ns (1 + (0 + (k : Int))))]
theorem lawRows_len (ns : List Int) (b : Int) : ∀ k, (lawRows ns b k).length = k + 1
  | 0 => rfl
  | k + 1 => by rw [lawRows, List.length_append, lawRows_len ns b k]; rfl
theorem lawRows_back (ns : List Int) (b : Int) : ∀ k, Backs (lawRows ns b k)
  | 0 => fun i r h => by
    cases i with
    | zero => simp [lawRows] at h; subst h; exact ⟨(by show (-1 : Int) < 0; decide), .inl rfl⟩
    | succ i => simp [lawRows] at h
  | k + 1 => fun i r h => by
    have hl := lawRows_len ns b k
    rw [lawRows, List.getElem?_append] at h
    split at h
    · exact lawRows_back ns b k i r h
    · have hi : i = k + 1 := by
        have := (List.getElem?_eq_some_iff.mp h).1
        simp at this
        omega
      subst hi
      rw [hl, Nat.sub_self] at h
      have e : nextRow b (lawRows ns b k) (mixed ns (1 + (0 + (k : Int)))) = r := by simpa using h
      rw [← e]
      unfold nextRow
      rw [hl]
      have h1 := Int.emod_nonneg (mixed ns (1 + (0 + (k : Int)))) (b := ((k + 1 : Nat) : Int)) (by omega)
      have h2 := Int.emod_lt_of_pos (mixed ns (1 + (0 + (k : Int)))) (b := ((k + 1 : Nat) : Int)) (by omega)
      exact ⟨h2, .inr h1⟩
theorem lawRows_nm (ns : List Int) (b : Int) : ∀ k r, r ∈ lawRows ns b k → ∃ t, 0 ≤ t ∧ t ≤ 1000 ∧ r.nm = nameOf b t
  | 0, r, h => by
    simp [lawRows] at h
    subst h
    exact ⟨cellAt ns 0 % 6, by omega, by omega, rfl⟩
  | k + 1, r, h => by
    rw [lawRows, List.mem_append] at h
    rcases h with h | h
    · exact lawRows_nm ns b k r h
    · rw [List.mem_singleton] at h
      subst h
      exact ⟨_, by omega, by omega, rfl⟩
end Toll

set_option Elab.async false
set_option maxRecDepth 100000
set_option maxHeartbeats 4000000
namespace Toll
open PySem L2
local macro_rules | `(tactic| walk_at "go1") => `(tactic| first
  | refine ⟨_, rfl, ?_⟩
  | refine ⟨rfl, ?_⟩
  | refine ⟨_, _, rfl, rfl, ?_⟩
  | refine ⟨_, _, rfl, ?_⟩
  | (with_reducible refine' ⟨log_small ?k1 ?k2, ?_⟩; (case k1 => omega); (case k2 => omega))
  | (refine' ⟨?k1, ?_⟩; (case k1 => ((with_reducible show (_ : Int) < _); omega)))
  | (refine' ⟨⟨?k1, ?k2⟩, ?_⟩; (case k1 => omega); (case k2 => omega))
  | (refine' ⟨⟨?k1, ?k2, ?k3, ?k4⟩, ?_⟩; (case k1 => omega); (case k2 => omega); (case k3 => omega); (case k4 => omega))
  | (refine' ⟨.inl ⟨?k1, ?k2⟩, ?_⟩; (case k1 => omega); (case k2 => omega))
  | (refine' ⟨.inr ⟨?k1, ?k2⟩, ?_⟩; (case k1 => omega); (case k2 => omega))
  | (refine' ⟨Evl.sz_of ?k1, ?_⟩; (case k1 => omega))
  | (refine' ⟨?k1, ?_⟩; (case k1 => ((with_reducible show (_ : Int) ≤ _); omega)))
  | refine ⟨⟨_, rfl⟩, ?_⟩
  | refine .inl ⟨_, rfl, ?_⟩ | refine .inr ⟨_, rfl, ?_⟩
  | refine iteT ?_ | refine iteF ?_)
local macro_rules | `(tactic| walk_at "go") => `(tactic| repeat (walk_at "go1"))
local macro_rules | `(tactic| walk_at "ans") => `(tactic| (intro Q' q'; walk_at "go"; (try rw [dec_int]); (try rw [dec_str]); exact q'))
def top (i : Nat) : Stmt := PySem.Challenge.pw_tollguess_k05_rows_read.main.body.getD i (.Pass ⟨0, 0, 0, 0⟩)
abbrev s_least : Stmt := top 1
abbrev n_least : List Str := ["rows", "name", "best", "place"]
theorem sc_least : FnScope n_least ["rows", "name"] (defScope s_least) := ⟨rfl, rfl, rfl, by decide +kernel, rfl, by decide +kernel, by decide +kernel⟩
abbrev s_roads_to : Stmt := top 2
abbrev n_roads_to : List Str := ["rows", "place", "roads", "name", "minutes", "toll", "road", "back"]
theorem sc_roads_to : FnScope n_roads_to ["rows", "place"] (defScope s_roads_to) := ⟨rfl, rfl, rfl, by decide +kernel, rfl, by decide +kernel, by decide +kernel⟩
abbrev s_l_cell_at : Stmt := top 4
abbrev n_l_cell_at : List Str := ["_law_script", "_law_k"]
theorem sc_l_cell_at : FnScope n_l_cell_at ["_law_script", "_law_k"] (defScope s_l_cell_at) := ⟨rfl, rfl, rfl, by decide +kernel, rfl, by decide +kernel, by decide +kernel⟩
abbrev s_l_whole : Stmt := top 5
abbrev n_l_whole : List Str := ["_law_found"]
theorem sc_l_whole : FnScope n_l_whole ["_law_found"] (defScope s_l_whole) := ⟨rfl, rfl, rfl, by decide +kernel, rfl, by decide +kernel, by decide +kernel⟩
abbrev s_l_mixed : Stmt := top 6
abbrev n_l_mixed : List Str := ["_law_script", "_law_k", "_law_cell", "_law_more"]
theorem sc_l_mixed : FnScope n_l_mixed ["_law_script", "_law_k"] (defScope s_l_mixed) := ⟨rfl, rfl, rfl, by decide +kernel, rfl, by decide +kernel, by decide +kernel⟩
abbrev s_l_name : Stmt := top 7
abbrev n_l_name : List Str := ["_law_base", "_law_turn", "_law_some", "_law_signs", "_law_size", "_law_at", "_law_k"]
theorem sc_l_name : FnScope n_l_name ["_law_base", "_law_turn"] (defScope s_l_name) := ⟨rfl, rfl, rfl, by decide +kernel, rfl, by decide +kernel, by decide +kernel⟩
abbrev s_l_rows : Stmt := top 8
abbrev n_l_rows : List Str := ["_law_script", "_law_base", "_law_rows_here", "_law_k", "_law_number", "_law_back", "_law_toll", "_law_minutes", "_law_name_here"]
theorem sc_l_rows : FnScope n_l_rows ["_law_script", "_law_base"] (defScope s_l_rows) := ⟨rfl, rfl, rfl, by decide +kernel, rfl, by decide +kernel, by decide +kernel⟩
abbrev s_l_least_of : Stmt := top 9
abbrev n_l_least_of : List Str := ["_law_rows_here", "_law_name_here", "_law_best", "_law_k"]
theorem sc_l_least_of : FnScope n_l_least_of ["_law_rows_here", "_law_name_here"] (defScope s_l_least_of) := ⟨rfl, rfl, rfl, by decide +kernel, rfl, by decide +kernel, by decide +kernel⟩
abbrev s_l_roads_of : Stmt := top 10
abbrev n_l_roads_of : List Str := ["_law_rows_here", "_law_place", "_law_found"]
theorem sc_l_roads_of : FnScope n_l_roads_of ["_law_rows_here", "_law_place"] (defScope s_l_roads_of) := ⟨rfl, rfl, rfl, by decide +kernel, rfl, by decide +kernel, by decide +kernel⟩
abbrev s_law : Stmt := top 11
abbrev n_law : List Str := ["_law_script", "_law_base", "_law_rows_here", "_law_handed", "_law_turn", "_law_due", "_law_found", "_law_place", "_law_roads", "_law_number"]
theorem sc_law : FnScope n_law ["_law_script"] (defScope s_law) := ⟨rfl, rfl, rfl, by decide +kernel, rfl, by decide +kernel, by decide +kernel⟩
structure Ads where
  least : Addr
  roads_to : Addr
  l_cell_at : Addr
  l_whole : Addr
  l_mixed : Addr
  l_name : Addr
  l_rows : Addr
  l_least_of : Addr
  l_roads_of : Addr
  law : Addr
structure Txt (K : PySem.W.Frag) (mg : Str → Option Value) (A : Ads) : Prop where
  m_least : mg "least" = some (.ref A.least)
  F_least : ∃ fd, Fun K "least" "least" s_least A.least fd
  m_roads_to : mg "roads_to" = some (.ref A.roads_to)
  F_roads_to : ∃ fd, Fun K "roads_to" "roads_to" s_roads_to A.roads_to fd
  m_l_cell_at : mg "_law_cell_at" = some (.ref A.l_cell_at)
  F_l_cell_at : ∃ fd, Fun K "_law_cell_at" "_law_cell_at" s_l_cell_at A.l_cell_at fd
  m_l_whole : mg "_law_whole" = some (.ref A.l_whole)
  F_l_whole : ∃ fd, Fun K "_law_whole" "_law_whole" s_l_whole A.l_whole fd
  m_l_mixed : mg "_law_mixed" = some (.ref A.l_mixed)
  F_l_mixed : ∃ fd, Fun K "_law_mixed" "_law_mixed" s_l_mixed A.l_mixed fd
  m_l_name : mg "_law_name" = some (.ref A.l_name)
  F_l_name : ∃ fd, Fun K "_law_name" "_law_name" s_l_name A.l_name fd
  m_l_rows : mg "_law_rows" = some (.ref A.l_rows)
  F_l_rows : ∃ fd, Fun K "_law_rows" "_law_rows" s_l_rows A.l_rows fd
  m_l_least_of : mg "_law_least_of" = some (.ref A.l_least_of)
  F_l_least_of : ∃ fd, Fun K "_law_least_of" "_law_least_of" s_l_least_of A.l_least_of fd
  m_l_roads_of : mg "_law_roads_of" = some (.ref A.l_roads_of)
  F_l_roads_of : ∃ fd, Fun K "_law_roads_of" "_law_roads_of" s_l_roads_of A.l_roads_of fd
  m_law : mg "law" = some (.ref A.law)
  F_law : ∃ fd, Fun K "law" "law" s_law A.law fd
  b_range : mg "range" = none
  b_len : mg "len" = none
  b_isinstance : mg "isinstance" = none
  b_int : mg "int" = none
  b_bool : mg "bool" = none
  b_str : mg "str" = none
  b_min : mg "min" = none
  b_max : mg "max" = none
  b_list : mg "list" = none
section
variable {P : Program} {w : World} {K : PySem.W.Frag} {mg : Str → Option Value} {base : Heap} {A : Ads}
def spCell (K : PySem.W.Frag) : Sp := fun vs H Q _ => ∃ (a : Addr) (ns : List Int) (k : Int), vs = [.ref a, .int k] ∧ SqL K H a (ns.map V.int) ∧ 0 ≤ k ∧ Q (.int (cellAt ns k)) H
theorem ok_l_cell_at (T : Txt K mg A) : DefOk P w K mg base CX0 1 A.l_cell_at ["_law_script", "_law_k"] (spCell K) := by
  obtain ⟨fd, F⟩ := T.F_l_cell_at
  refine ⟨fd, ?_, F.binds (ps := ["_law_script", "_law_k"]) fun _ _ _ _ _ _ us hl => match us, hl with | [_, _], _ => rfl, F.kp⟩
  refine F.ok sc_l_cell_at (fun vs H Q E h => ?_) (fun cdv A outer s H vs Q E hr h => ?_)
  · obtain ⟨a, ns, k, rfl, _⟩ := h
    rfl
  · obtain ⟨a, ns, k, rfl, hS, hk, q⟩ := h
    refine ⟨_, (pss_cons (ps_if (pt_cmpR op_lt (pv 1) (pe_callB call_len_seq (by rfl) T.b_len PySem.boot_len (pa_cons (pv 0) pa_nil)) (nomark _)) (pss_one (ps_ret (pe_ix ix_list (pv 0) (pv 1) (fun _ _ => rfl)))) pss_nil)
      (pss_one (ps_ret pe_int))), ?_⟩
    walk_at "go"
    refine ⟨_, _, rfl, .inl hS, ?_⟩
    walk_at "go"
    rw [List.length_map]
    unfold cellAt at q
    refine ite2 (fun h => ?_) (fun h => ?_)
    · have h1 : k < (ns.length : Int) := of_decide_eq_true h
      rw [if_pos h1] at q
      walk_at "go"
      refine ⟨_, _, _, _, rfl, rfl, hS, ?_, q⟩
      obtain ⟨j, rfl⟩ := Int.eq_ofNat_of_zero_le hk
      exact atI_nat (map_int_get (by omega))
    · have h1 : ¬ k < (ns.length : Int) := fun z => h (decide_eq_true z)
      rw [if_neg h1] at q
      exact q
def spMixed (K : PySem.W.Frag) : Sp := fun vs H Q _ => ∃ (a : Addr) (ns : List Int) (k : Int), vs = [.ref a, .int k] ∧ SqL K H a (ns.map V.int) ∧ 0 ≤ k ∧ k ≤ 1000000 ∧ Q (.int (mixed ns k)) H
theorem ok_l_mixed (T : Txt K mg A) : DefOk P w K mg base CX0 1 A.l_mixed ["_law_script", "_law_k"] (spMixed K) := by
  obtain ⟨fd, F⟩ := T.F_l_mixed
  refine ⟨fd, ?_, F.binds (ps := ["_law_script", "_law_k"]) fun _ _ _ _ _ _ us hl => match us, hl with | [_, _], _ => rfl, F.kp⟩
  refine F.ok sc_l_mixed (fun vs H Q E h => ?_) (fun cdv A outer s H vs Q E hr h => ?_)
  · obtain ⟨a, ns, k, rfl, _⟩ := h
    rfl
  · obtain ⟨a, ns, k, rfl, hS, hk, hk2, q⟩ := h
    refine ⟨_, (pss_cons (ps_set (i := 2) sc_l_mixed.nd rfl (by first | exact Or.inl rfl | exact Or.inr rfl) pe_int)
      (C8.pss_cut (ps_if (pt_cmpR op_gt (pe_callB call_len_seq (by rfl) T.b_len PySem.boot_len (pa_cons (pv 0) pa_nil)) pe_int (nomark _)) (pss_one (ps_set (i := 2) sc_l_mixed.nd rfl (by first | exact Or.inl rfl | exact Or.inr rfl) (pe_ix ix_list (pv 0) (pe_op op_mod (pv 1) (pe_callB call_len_seq (by rfl) T.b_len PySem.boot_len (pa_cons (pv 0) pa_nil))) (fun _ _ => rfl)))) pss_nil)
      (pss_cons (ps_set (i := 3) sc_l_mixed.nd rfl (by first | exact Or.inl rfl | exact Or.inr rfl) (pe_op op_mod (pe_op op_mul (pe_op op_add (pv 2) (pe_op op_mul pe_int (pv 1))) pe_int) pe_int))
      (pss_one (ps_ret (pe_op op_mod (pe_op op_add (pe_op op_mul (pv 3) (pv 3)) (pe_op op_mul pe_int (pv 3))) pe_int)))))), ?_⟩
    walk_at "go"
    refine ⟨fun σ' H' => σ' = [some (.ref a), some (.int k), some (.int (mixCell ns k)), none] ∧ H = H', ?_, ?_⟩
    · walk_at "go"
      refine ⟨_, _, rfl, .inl hS, ?_⟩
      walk_at "go"
      rw [List.length_map]
      refine ite2 (fun h => ?_) (fun h => ?_)
      · have h1 : (0 : Int) < (ns.length : Int) := of_decide_eq_true h
        walk_at "go"
        refine ⟨_, _, rfl, .inl hS, ?_⟩
        rw [List.length_map]
        walk_at "go"
        have h2 := Int.emod_nonneg k (b := (ns.length : Int)) (by omega)
        have h3 := Int.emod_lt_of_pos k (b := (ns.length : Int)) (by omega)
        refine ⟨_, _, _, _, rfl, rfl, hS, atI_of (j := (k % (ns.length : Int)).toNat) (by omega) (map_int_get (by omega)), ?_⟩
        refine ⟨?_, rfl⟩
        unfold mixCell
        rw [if_pos (by omega)]
        rfl
      · have h1 : ¬ (0 : Int) < (ns.length : Int) := fun z => h (decide_eq_true z)
        refine ⟨?_, rfl⟩
        unfold mixCell
        rw [if_neg (by omega)]
        rfl
    rintro σ' H' ⟨rfl, rfl⟩
    have m0 := Int.emod_nonneg ((mixCell ns k + 7919 * k) * 48271) (b := 2147483647) (by decide)
    have m1 := Int.emod_lt_of_pos ((mixCell ns k + 7919 * k) * 48271) (b := 2147483647) (by decide)
    walk_at "go"
    rw [mixed_def] at q
    exact q
end
end Toll

set_option Elab.async false
set_option maxRecDepth 100000
set_option maxHeartbeats 4000000
namespace Toll
open PySem L2
local macro_rules | `(tactic| walk_at "go1") => `(tactic| first
  | refine ⟨_, rfl, ?_⟩
  | refine ⟨rfl, ?_⟩
  | refine ⟨_, _, rfl, rfl, ?_⟩
  | refine ⟨_, _, rfl, ?_⟩
  | (with_reducible refine' ⟨log_small ?k1 ?k2, ?_⟩; (case k1 => omega); (case k2 => omega))
  | (refine' ⟨?k1, ?_⟩; (case k1 => ((with_reducible show (_ : Int) < _); omega)))
  | (refine' ⟨⟨?k1, ?k2⟩, ?_⟩; (case k1 => omega); (case k2 => omega))
  | (refine' ⟨⟨?k1, ?k2, ?k3, ?k4⟩, ?_⟩; (case k1 => omega); (case k2 => omega); (case k3 => omega); (case k4 => omega))
  | (refine' ⟨.inl ⟨?k1, ?k2⟩, ?_⟩; (case k1 => omega); (case k2 => omega))
  | (refine' ⟨.inr ⟨?k1, ?k2⟩, ?_⟩; (case k1 => omega); (case k2 => omega))
  | (refine' ⟨Evl.sz_of ?k1, ?_⟩; (case k1 => omega))
  | (refine' ⟨?k1, ?_⟩; (case k1 => ((with_reducible show (_ : Int) ≤ _); omega)))
  | refine ⟨⟨_, rfl⟩, ?_⟩
  | refine .inl ⟨_, rfl, ?_⟩ | refine .inr ⟨_, rfl, ?_⟩
  | refine iteT ?_ | refine iteF ?_)
local macro_rules | `(tactic| walk_at "go") => `(tactic| repeat (walk_at "go1"))
local macro_rules | `(tactic| walk_at "ans") => `(tactic| (intro Q' q'; walk_at "go"; (try rw [dec_int]); (try rw [dec_str]); exact q'))
section
variable {P : Program} {w : World} {K : PySem.W.Frag} {mg : Str → Option Value} {base : Heap} {A : Ads}
def spName : Sp := fun vs H Q _ => ∃ (b t : Int), vs = [.int b, .int t] ∧ 0 ≤ b ∧ 0 ≤ t ∧ t ≤ 1000 ∧ ∀ H', Same H H' → Q (.str (nameOf b t)) H'
theorem ok_l_name (T : Txt K mg A) : DefOk P w K mg base CX0 1 A.l_name ["_law_base", "_law_turn"] spName := by
  obtain ⟨fd, F⟩ := T.F_l_name
  refine ⟨fd, ?_, F.binds (ps := ["_law_base", "_law_turn"]) fun _ _ _ _ _ _ us hl => match us, hl with | [_, _], _ => rfl, F.kp⟩
  refine F.ok sc_l_name (fun vs H Q E h => ?_) (fun cdv A outer s H vs Q E hr h => ?_)
  · obtain ⟨b, t, rfl, _⟩ := h
    rfl
  · obtain ⟨b, t, rfl, hb, ht, ht2, q⟩ := h
    refine ⟨_, (pss_cons (ps_set (i := 2) sc_l_name.nd rfl (by first | exact Or.inl rfl | exact Or.inr rfl) pe_str)
      (pss_cons (ps_setLc (i := 3) (own := [("_law_k", 6)]) rfl sc_l_name.nd rfl rfl (sw_true rfl rfl rfl (by decide +kernel)) (pi_range1 (by rfl) T.b_range (pa_cons pe_int pa_nil)) (blkOk_by (own := [("_law_k", 6)]) (N := n_l_name) (sc := defScope s_l_name) (by decide +kernel)) (fun _ _ _ _ _ => (pg_name (i := 6) sc_l_name.nd rfl (by first | exact Or.inl rfl | exact Or.inr rfl))) (fun _ _ _ _ _ => pts_nil) (fun _ _ _ _ _ => (pe_ix ix_str (pv 2) (pe_op op_mod (pe_op op_add (pe_op op_add (pe_op op_fdiv (pv 0) pe_int) (pe_op op_mul pe_int (pv 6))) (pe_op op_mul (pe_op op_fdiv (pv 0) pe_int) (pv 6))) pe_int) (fun _ _ => rfl))))
      (pss_cons (ps_asg (pe_ix ix_str (pv 2) (pe_op op_mod (pe_op op_fdiv (pv 0) pe_int) pe_int) (fun _ _ => rfl)) (pg_sub (pv 3) pe_int set_list))
      (pss_cons (ps_if (PW.pt (pw_and (pt_cmpR op_eq (pe_op op_mod (pv 0) pe_int) pe_int (nomark _)) (pw_and1 (pt_cmpR op_lt (pv 1) pe_int (nomark _))))) (pss_one (ps_ret (pe_join pe_str (pe_slice sl_list (pv 3) po_none (po_some (pe_op op_add pe_int (pv 1))))))) pss_nil)
      (pss_cons (ps_if (PW.pt (pw_or (pt_cmpR op_lt (pe_op op_mod (pv 0) pe_int) pe_int (nomark _)) (pw_or1 (pt_cmpR op_gt (pv 1) pe_int (nomark _))))) (pss_one (ps_ret (pe_op op_add_str (pe_join pe_str (pe_slice sl_list (pv 3) po_none (po_some (pe_op op_add pe_int (pe_op op_mod (pe_op op_fdiv (pv 0) pe_int) pe_int))))) (pe_callTy call_str_int (by rfl) T.b_str (by decide +kernel) (pa_cons (pv 1) pa_nil))))) pss_nil)
      (pss_cons (ps_set (i := 4) sc_l_name.nd rfl (by first | exact Or.inl rfl | exact Or.inr rfl) (pe_op op_add pe_int (pe_op op_mod (pe_op op_fdiv (pv 0) pe_int) pe_int)))
      (pss_cons (ps_set (i := 5) sc_l_name.nd rfl (by first | exact Or.inl rfl | exact Or.inr rfl) (pe_op op_mod (pe_op op_fdiv (pv 0) pe_int) (pv 4)))
      (pss_cons (ps_asg (pe_ix ix_str (pv 2) (pe_op op_mod (pe_op op_add (pe_op op_fdiv (pv 0) pe_int) (pv 1)) (pe_ix ix_list (pe_lst (pa_cons pe_int (pa_cons pe_int pa_nil))) (pe_callTy call_int1 (by rfl) T.b_int (by decide +kernel) (pa_cons (pe_cmpR op_eq (pv 5) pe_int (nomark _)) pa_nil)) (fun _ _ => rfl))) (fun _ _ => rfl)) (pg_sub (pv 3) (pv 5) set_list))
      (pss_one (ps_ret (pe_join pe_str (pe_slice sl_list (pv 3) po_none (po_some (pv 4)))))))))))))), ?_⟩
    walk_at "go"
    intro D hD
    rw [← someS_def]
    refine lc_range (lo := 0) (n := 8) (fun i H' => Same H H' ∧ H' D = some (.lst (onesV ((List.range i).map fun (k : Nat) => sgn ((b / 64 + 7 * (k : Int) + b / 99991 * (k : Int)) % 36)))))
      ⟨same_up hD, upd_same⟩ ?_ ?_
    · rintro i H1 hi ⟨s1, hL⟩
      walk_at "go"
      refine ⟨someS, _, _, rfl, rfl, (by have := someS_len; exact Evl.sz_of (by show someS.cps.toList.length ≤ _; omega)), ix36 _, ?_⟩
      walk_at "go"
      refine ⟨_, hL, by rw [onesV_len]; simp; exact Evl.sz_lt (by omega), same_new s1 hD, ?_⟩
      rw [upd_same, List.range_succ, List.map_append, Int.zero_add]
      unfold onesV
      rw [List.map_append, List.map_append]
      rfl
    rintro H1 ⟨s1, hL⟩
    rw [← sg0_def] at hL
    walk_at "go"
    refine ⟨someS, _, _, rfl, rfl, (by have := someS_len; exact Evl.sz_of (by show someS.cps.toList.length ≤ _; omega)), ix26 _, ?_⟩
    walk_at "go"
    refine ⟨D, _, 0, 0, rfl, rfl, hL, ixN_of rfl (by rw [onesV_len, sg0_len]; decide), ?_⟩
    rw [onesV_set, ← sg_def]
    have s2 : Same H (upd H1 D (HO.lst (onesV (sg b)))) := same_new s1 hD
    have hL2 : (upd H1 D (HO.lst (onesV (sg b)))) D = some (.lst (onesV (sg b))) := upd_same
    generalize upd H1 D (HO.lst (onesV (sg b))) = H2 at s2 hL2
    have sl := sg_len b
    dsimp only
    refine seq_if1 (decide (b % 3 = 0) && decide (t < 8)) (an_and (by walk_at "ans") (fun _ => by walk_at "ans")) (fun h => ?_) (fun h => ?_)
    · simp only [Bool.and_eq_true, decide_eq_true_eq] at h
      have e : nameOf b t = sx ((sg b).take (1 + t).toNat) := by
        rw [nameOf_def, nameL, if_pos h]
      walk_at "go"
      refine ⟨D, _, rfl, SqL.of hL2, fun p hp => ?_⟩
      walk_at "go"
      rw [cut_to _ (by omega), onesV_take]
      refine ⟨_, p, ((sg b).take (1 + t).toNat).map one, rfl, rfl, .inl (SqL.of upd_same), ?_, ?_⟩
      · rw [sum_ones]
        show _ + _ * 0 ≤ _
        rw [List.length_take]
        omega
      rw [join_ones, ← e]
      exact q _ (same_new s2 (s2.free hp))
    have h3 : ¬ (b % 3 = 0 ∧ t < 8) := fun z => by simp [z.1, z.2] at h
    refine seq_if1 (decide (b % 3 < 2) || decide (25 < t)) (an_or (by walk_at "ans") (fun _ => by walk_at "ans")) (fun h => ?_) (fun h => ?_)
    · simp only [Bool.or_eq_true, decide_eq_true_eq] at h
      have e : nameOf b t = sx ((sg b).take (1 + b / 3 % 5).toNat) ++ sx (digs t) := by
        rw [nameOf_def, nameL, if_neg h3, if_pos h, sx_app]
      walk_at "go"
      refine ⟨D, _, rfl, SqL.of hL2, fun p hp => ?_⟩
      walk_at "go"
      rw [cut_to _ (by omega), onesV_take]
      refine ⟨_, p, ((sg b).take (1 + b / 3 % 5).toNat).map one, rfl, rfl, .inl (SqL.of upd_same), ?_, ?_⟩
      · rw [sum_ones]
        show _ + _ * 0 ≤ _
        rw [List.length_take]
        omega
      rw [join_ones]
      walk_at "go"
      rw [digs_sx ht]
      refine ⟨Evl.sz_of (by rw [sx_len, sx_len, List.length_take]; have := digs_len ht2; omega), ?_⟩
      rw [← e]
      exact q _ (same_new s2 (s2.free hp))
    · have h4 : ¬ (b % 3 < 2 ∨ 25 < t) := fun z => by rcases z with z | z <;> simp [z] at h
      have d0 := Int.emod_nonneg (b / 24) (b := 1 + b / 3 % 8) (by omega)
      have d1 := Int.emod_lt_of_pos (b / 24) (b := 1 + b / 3 % 8) (by omega)
      walk_at "go"
      refine ⟨by decide, fun p hp => ?_⟩
      walk_at "go"
      have e : nameOf b t = sx (((sg b).set (b / 24 % (1 + b / 3 % 8)).toNat (sgn ((b / 2311 + t) % (if b / 24 % (1 + b / 3 % 8) = 0 then 26 else 36)))).take (1 + b / 3 % 8).toNat) := by
        rw [nameOf_def, nameL, if_neg h3, if_neg h4]
      have hm : ∃ m : Int, (m = 26 ∨ m = 36) ∧ (if b / 24 % (1 + b / 3 % 8) = 0 then 26 else 36) = m ∧ atI [V.int 36, V.int 26] (if decide (V.int (b / 24 % (1 + b / 3 % 8)) = V.int 0) = true then 1 else 0) = some (V.int m) := by
        rw [dec_int]
        by_cases z : b / 24 % (1 + b / 3 % 8) = 0
        · rw [if_pos z, if_pos (decide_eq_true z)]
          exact ⟨26, .inl rfl, rfl, rfl⟩
        · rw [if_neg z, if_neg (by simpa using z)]
          exact ⟨36, .inr rfl, rfl, rfl⟩
      obtain ⟨m, hm1, hm2, hm3⟩ := hm
      rw [hm2] at e
      have c26 := someS_len
      have hx : atI someS.cps.toList ((b / 2311 + t) % m) = some (sgn ((b / 2311 + t) % m)) := by
        rcases hm1 with rfl | rfl
        · exact ix26 _
        · exact ix36 _
      refine ⟨p, _, _, _, rfl, rfl, SqL.of upd_same, hm3, ?_⟩
      walk_at "go"
      refine ⟨someS, _, _, rfl, rfl, Evl.sz_of (by show someS.cps.toList.length ≤ _; omega), hx, ?_⟩
      walk_at "go"
      have hpD : D ≠ p := ne_of_none hL2 hp
      refine ⟨D, _, _, (b / 24 % (1 + b / 3 % 8)).toNat, rfl, rfl, (by rw [upd_ne hpD]; exact hL2), ixN_of (by omega) (by rw [onesV_len, sl]; omega), ?_⟩
      rw [onesV_set]
      walk_at "go"
      refine ⟨D, _, rfl, SqL.of upd_same, fun r hr2 => ?_⟩
      walk_at "go"
      rw [cut_to _ (by omega), onesV_take]
      refine ⟨_, r, (((sg b).set (b / 24 % (1 + b / 3 % 8)).toNat (sgn ((b / 2311 + t) % m))).take (1 + b / 3 % 8).toNat).map one, rfl, rfl, .inl (SqL.of upd_same), ?_, ?_⟩
      · rw [sum_ones]
        show _ + _ * 0 ≤ _
        rw [List.length_take, List.length_set]
        omega
      rw [join_ones, ← e]
      have s3 : Same H (upd (upd H2 p (HO.lst [V.int 36, V.int 26])) D (HO.lst (onesV ((sg b).set (b / 24 % (1 + b / 3 % 8)).toNat (sgn ((b / 2311 + t) % m)))))) := same_new (same_new s2 (s2.free hp)) hD
      exact q _ (same_new s3 (s3.free hr2))
end
end Toll

set_option Elab.async false
set_option maxRecDepth 100000
set_option maxHeartbeats 4000000
namespace Toll
open PySem L2
local macro_rules | `(tactic| walk_at "go1") => `(tactic| first
  | refine ⟨_, rfl, ?_⟩
  | refine ⟨rfl, ?_⟩
  | refine ⟨_, _, rfl, rfl, ?_⟩
  | refine ⟨_, _, rfl, ?_⟩
  | (with_reducible refine' ⟨log_small ?k1 ?k2, ?_⟩; (case k1 => omega); (case k2 => omega))
  | (refine' ⟨?k1, ?_⟩; (case k1 => ((with_reducible show (_ : Int) < _); omega)))
  | (refine' ⟨⟨?k1, ?k2⟩, ?_⟩; (case k1 => omega); (case k2 => omega))
  | (refine' ⟨⟨?k1, ?k2, ?k3, ?k4⟩, ?_⟩; (case k1 => omega); (case k2 => omega); (case k3 => omega); (case k4 => omega))
  | (refine' ⟨.inl ⟨?k1, ?k2⟩, ?_⟩; (case k1 => omega); (case k2 => omega))
  | (refine' ⟨.inr ⟨?k1, ?k2⟩, ?_⟩; (case k1 => omega); (case k2 => omega))
  | (refine' ⟨Evl.sz_of ?k1, ?_⟩; (case k1 => omega))
  | (refine' ⟨?k1, ?_⟩; (case k1 => ((with_reducible show (_ : Int) ≤ _); omega)))
  | refine ⟨⟨_, rfl⟩, ?_⟩
  | refine .inl ⟨_, rfl, ?_⟩ | refine .inr ⟨_, rfl, ?_⟩
  | refine iteT ?_ | refine iteF ?_)
local macro_rules | `(tactic| walk_at "go") => `(tactic| repeat (walk_at "go1"))
local macro_rules | `(tactic| walk_at "ans") => `(tactic| (intro Q' q'; walk_at "go"; (try rw [dec_int]); (try rw [dec_str]); exact q'))
section
variable {P : Program} {w : World} {K : PySem.W.Frag} {mg : Str → Option Value} {base : Heap} {A : Ads}
def spWhole : Sp := fun vs H Q _ => ∃ i : Int, vs = [.int i] ∧ Q (.bl true) H
theorem ok_l_whole (T : Txt K mg A) : DefOk P w K mg base CX0 1 A.l_whole ["_law_found"] spWhole := by
  obtain ⟨fd, F⟩ := T.F_l_whole
  refine ⟨fd, ?_, F.binds (ps := ["_law_found"]) fun _ _ _ _ _ _ us hl => match us, hl with | [_], _ => rfl, F.kp⟩
  refine F.ok sc_l_whole (fun vs H Q E h => ?_) (fun cdv A outer s H vs Q E hr h => ?_)
  · obtain ⟨i, rfl, _⟩ := h
    rfl
  · obtain ⟨i, rfl, q⟩ := h
    refine ⟨_, (pss_one (ps_ret (pe_and (pe_callB call_isi (by rfl) T.b_isinstance (by decide +kernel) (pa_cons (pv 0) (pa_cons (pe_bltn (v := .ty "int") (by rfl) T.b_int (by decide +kernel) rfl) pa_nil))) (pe_one (pe_not (pe_callB call_isi (by rfl) T.b_isinstance (by decide +kernel) (pa_cons (pv 0) (pa_cons (pe_bltn (v := .ty "bool") (by rfl) T.b_bool (by decide +kernel) rfl) pa_nil)))))))), ?_⟩
    walk_at "go"
    refine ⟨_, _, _, _, true, rfl, ClsV.ty _, TyX.base (TyOf.int _), kit_ty (by decide +kernel), ?_⟩
    walk_at "go"
    refine ⟨_, _, _, _, false, rfl, ClsV.ty _, TyX.base (TyOf.int _), kit_ty (by decide +kernel), ?_⟩
    walk_at "go"
    exact q
/-- the rows, a list that is new -/
def spRows (K : PySem.W.Frag) : Sp := fun vs H Q _ => ∃ (a : Addr) (ns : List Int) (b : Int), vs = [.ref a, .int b] ∧ SqL K H a (ns.map V.int) ∧ ns.length ≤ 63 ∧ 0 ≤ b ∧
  ∀ (H' : Hp) (L : Addr) (us : List V) (k : Nat), Same H H' → H L = none → k ≤ 24 → H' L = some (.lst us) → Paired (RowV H') us (lawRows ns b k) → Q (.ref L) H'
theorem ok_l_rows (T : Txt K mg A) : DefOk P w K mg base CX0 2 A.l_rows ["_law_script", "_law_base"] (spRows K) := by
  obtain ⟨_, G_l_cell_at, B_l_cell_at, K_l_cell_at⟩ := ok_l_cell_at (P := P) (w := w) (base := base) T
  obtain ⟨_, G_l_mixed, B_l_mixed, K_l_mixed⟩ := ok_l_mixed (P := P) (w := w) (base := base) T
  obtain ⟨_, G_l_name, B_l_name, K_l_name⟩ := ok_l_name (P := P) (w := w) (base := base) T
  obtain ⟨fd, F⟩ := T.F_l_rows
  refine ⟨fd, ?_, F.binds (ps := ["_law_script", "_law_base"]) fun _ _ _ _ _ _ us hl => match us, hl with | [_, _], _ => rfl, F.kp⟩
  refine F.ok sc_l_rows (fun vs H Q E h => ?_) (fun cdv A outer s H vs Q E hr h => ?_)
  · obtain ⟨a, ns, b, rfl, _⟩ := h
    rfl
  · obtain ⟨a, ns, b, rfl, hS, hl, hb, q⟩ := h
    refine ⟨_, (pss_cons (ps_set (i := 2) sc_l_rows.nd rfl (by first | exact Or.inl rfl | exact Or.inr rfl) (pe_lst (pa_cons (pe_tup (pa_cons (pe_call G_l_name (hr.mono (by decide)) rfl T.m_l_name K_l_name B_l_name .nil pass0 (pa_cons (pv 1) (pa_cons (pe_op op_mod (pe_call G_l_cell_at (hr.mono (by decide)) rfl T.m_l_cell_at K_l_cell_at B_l_cell_at .nil pass0 (pa_cons (pv 0) (pa_cons pe_int pa_nil))) pe_int) pa_nil))) (pa_cons pe_int (pa_cons pe_int (pa_cons (pe_un un_neg pe_int) (pa_cons (pe_un un_neg pe_int) pa_nil)))))) pa_nil)))
      (pss_cons (ps_for PassesOwn.never rfl (pi_range1 (by rfl) T.b_range (pa_cons (pe_callB (call_min2 rfl) (by rfl) T.b_min (by decide +kernel) (pa_cons pe_int (pa_cons (pe_callB (call_max2 rfl) (by rfl) T.b_max (by decide +kernel) (pa_cons pe_int (pa_cons (pe_op op_sub (pe_callB call_len_seq (by rfl) T.b_len PySem.boot_len (pa_cons (pv 0) pa_nil)) pe_int) pa_nil))) pa_nil))) pa_nil)) (pg_name (i := 3) sc_l_rows.nd rfl (by first | exact Or.inl rfl | exact Or.inr rfl)) (pss_cons (ps_set (i := 4) sc_l_rows.nd rfl (by first | exact Or.inl rfl | exact Or.inr rfl) (pe_call G_l_mixed (hr.mono (by decide)) rfl T.m_l_mixed K_l_mixed B_l_mixed .nil pass0 (pa_cons (pv 0) (pa_cons (pe_op op_add pe_int (pv 3)) pa_nil))))
      (pss_cons (ps_set (i := 5) sc_l_rows.nd rfl (by first | exact Or.inl rfl | exact Or.inr rfl) (pe_op op_mod (pv 4) (pe_callB call_len_seq (by rfl) T.b_len PySem.boot_len (pa_cons (pv 2) pa_nil))))
      (pss_cons (ps_set (i := 6) sc_l_rows.nd rfl (by first | exact Or.inl rfl | exact Or.inr rfl) (pe_op op_mul (pe_op op_mod (pe_op op_fdiv (pv 4) pe_int) pe_int) (pe_callTy call_int1 (by rfl) T.b_int (by decide +kernel) (pa_cons (pe_cmpR op_gt (pe_op op_mod (pe_op op_fdiv (pv 4) pe_int) pe_int) pe_int (nomark _)) pa_nil))))
      (pss_cons (ps_set (i := 7) sc_l_rows.nd rfl (by first | exact Or.inl rfl | exact Or.inr rfl) (pe_op op_add pe_int (pe_op op_mod (pe_op op_fdiv (pv 4) pe_int) pe_int)))
      (pss_cons (ps_set (i := 8) sc_l_rows.nd rfl (by first | exact Or.inl rfl | exact Or.inr rfl) (pe_call G_l_name (hr.mono (by decide)) rfl T.m_l_name K_l_name B_l_name .nil pass0 (pa_cons (pv 1) (pa_cons (pe_op op_mod (pe_op op_fdiv (pv 4) pe_int) pe_int) pa_nil))))
      (pss_one (ps_expr (pe_bm PySem.F.plainAttrs_list PySem.F.slot_list_append PySem.F.type_list_append mt_append (pv 2) (pa_cons (pe_tup (pa_cons (pv 8) (pa_cons (pe_op op_add (pe_ix ix_tup (pe_ix ix_list (pv 2) (pv 5) (fun _ _ => rfl)) pe_int (fun _ _ => rfl)) (pv 7)) (pa_cons (pe_op op_add (pe_ix ix_tup (pe_ix ix_list (pv 2) (pv 5) (fun _ _ => rfl)) pe_int (fun _ _ => rfl)) (pv 6)) (pa_cons (pe_op op_mod (pe_op op_fdiv (pv 4) pe_int) pe_int) (pa_cons (pv 5) pa_nil)))))) pa_nil))))))))))
      (pss_one (ps_ret (pv 2))))), ?_⟩
    walk_at "go"
    refine ⟨a, ns, 0, rfl, hS, by decide, ?_⟩
    walk_at "go"
    intro H1 s1
    walk_at "go"
    refine ⟨(by show 5 ≤ sizeLine; decide), fun t ht => ?_⟩
    walk_at "go"
    refine ⟨(by show 1 ≤ sizeLine; decide), fun L hL => ?_⟩
    have htL : t ≠ L := ne_of_none upd_same hL
    have hL0 : H L = none := s1.free (by rw [upd_ne htL.symm] at hL; exact hL)
    have s2 : Same H (upd (upd H1 t (HO.tup (rowVs ⟨nameOf b (cellAt ns 0 % 6), 0, 0, -1, -1⟩))) L (HO.lst [V.ref t])) := same_new (same_new s1 (s1.free ht)) hL0
    have h2 : (upd (upd H1 t (HO.tup (rowVs ⟨nameOf b (cellAt ns 0 % 6), 0, 0, -1, -1⟩))) L (HO.lst [V.ref t])) t = some (HO.tup (rowVs ⟨nameOf b (cellAt ns 0 % 6), 0, 0, -1, -1⟩)) := by rw [upd_ne htL]; exact upd_same
    have h3 : (upd (upd H1 t (HO.tup (rowVs ⟨nameOf b (cellAt ns 0 % 6), 0, 0, -1, -1⟩))) L (HO.lst [V.ref t])) L = some (HO.lst [V.ref t]) := upd_same
    show { nx := _, rt := _, bk := _, ct := _ : Ends }.nx _ (upd (upd H1 t (HO.tup (rowVs ⟨nameOf b (cellAt ns 0 % 6), 0, 0, -1, -1⟩))) L (HO.lst [V.ref t]))
    generalize upd (upd H1 t (HO.tup (rowVs ⟨nameOf b (cellAt ns 0 % 6), 0, 0, -1, -1⟩))) L (HO.lst [V.ref t]) = H2 at s2 h2 h3
    walk_at "go"
    refine ⟨a, _, rfl, .inl (s2.seq hS), ?_⟩
    rw [List.length_map]
    walk_at "go"
    refine for_range (lo := 0) (n := _) (fun i σ' H' => Same H H' ∧ ∃ (us : List V) (v3 v4 v5 v6 v7 v8 : Option V), σ' = [some (.ref a), some (.int b), some (.ref L), v3, v4, v5, v6, v7, v8] ∧ H' L = some (.lst us) ∧ Paired (RowV H') us (lawRows ns b i))
      ⟨s2, [V.ref t], none, none, none, none, none, none, rfl, h3, .cons ⟨t, rfl, h2⟩ .nil⟩ ?_ ?_
    · rintro i σ' H3 hi ⟨s3, us, v3, v4, v5, v6, v7, v8, rfl, hL3, hP⟩
      have hi24 : i < 24 := by omega
      have hus : us.length = i + 1 := by rw [paired_len hP, lawRows_len]
      have n0 := mixed_pos ns (1 + (0 + (i : Int)))
      walk_at "go"
      refine ⟨a, ns, _, rfl, s3.seq hS, by omega, by omega, ?_⟩
      walk_at "go"
      refine ⟨L, us, rfl, .inl (SqL.of hL3), ?_⟩
      walk_at "go"
      intro H4 s4
      have hL4 := s4 _ _ hL3
      have hP4 := rows_same s4 hP
      walk_at "go"
      refine ⟨.inl ⟨rfl, _, SqL.of hL4⟩, ?_⟩
      generalize hn : mixed ns (1 + (0 + (i : Int))) = n at n0
      have b0 := Int.emod_nonneg n (b := (us.length : Int)) (by omega)
      have b1 := Int.emod_lt_of_pos n (b := (us.length : Int)) (by omega)
      have hrl := lawRows_len ns b i
      have hr : (lawRows ns b i)[(n % (us.length : Int)).toNat]? = some ((lawRows ns b i).getD (n % (us.length : Int)).toNat ⟨nameOf 0 0, 0, 0, 0, 0⟩) := by
        rw [List.getD_eq_getElem?_getD, List.getElem?_eq_getElem (by omega)]
        rfl
      have hnx : rowVs (nextRow b (lawRows ns b i) n) = [.str (nameOf b (n / 7 % 6)), .int (((lawRows ns b i).getD (n % (us.length : Int)).toNat ⟨nameOf 0 0, 0, 0, 0, 0⟩).mi + (1 + n / 1009 % 9)),
          .int (((lawRows ns b i).getD (n % (us.length : Int)).toNat ⟨nameOf 0 0, 0, 0, 0, 0⟩).tl + n / 101 % 7 * (if decide (0 < n / 31 % 3) = true then 1 else 0)), .int (n / 10007 % 200), .int (n % (us.length : Int))] := by
        unfold nextRow rowVs
        rw [hrl, hus]
        simp only [decide_eq_true_eq, gt_iff_lt]
      have hnr : lawRows ns b (i + 1) = lawRows ns b i ++ [nextRow b (lawRows ns b i) n] := by rw [lawRows, hn]
      generalize (lawRows ns b i).getD (n % (us.length : Int)).toNat ⟨nameOf 0 0, 0, 0, 0, 0⟩ = r at hr hnx
      obtain ⟨_, hv, t', rfl, ht'⟩ := paired_get hP4 hr
      walk_at "go"
      refine ⟨L, us, _, _, rfl, rfl, SqL.of hL4, atI_of (j := (n % (us.length : Int)).toNat) (by omega) hv, ?_⟩
      walk_at "go"
      refine ⟨t', _, _, _, rfl, rfl, SqT.of ht', atI_nat (j := 1) rfl, ?_⟩
      walk_at "go"
      refine ⟨L, us, _, _, rfl, rfl, SqL.of hL4, atI_of (j := (n % (us.length : Int)).toNat) (by omega) hv, ?_⟩
      walk_at "go"
      refine ⟨t', _, _, _, rfl, rfl, SqT.of ht', atI_nat (j := 2) rfl, ?_⟩
      walk_at "go"
      refine ⟨(by show 5 ≤ sizeLine; decide), fun p hp => ?_⟩
      have hpL : L ≠ p := ne_of_none hL4 hp
      refine ⟨L, us, _, rfl, rfl, (by rw [upd_ne hpL]; exact hL4), Evl.sz_lt (by omega), ?_⟩
      have s4' := s3.trans s4
      refine ⟨same_new (same_new s4' (s4'.free hp)) hL0, us ++ [.ref p], _, _, _, _, _, _, rfl, upd_same, ?_⟩
      rw [hnr]
      refine Paired.snoc (rows_upd (by rw [upd_ne hpL]; exact hL4) (rows_same (same_up hp) hP4)) ⟨p, rfl, ?_⟩
      rw [upd_ne hpL.symm, upd_same, hnx]
    · rintro σ' H3 ⟨s3, us, v3, v4, v5, v6, v7, v8, rfl, hL3, hP⟩
      walk_at "go"
      exact q H3 L us _ s3 hL0 (by omega) hL3 hP
end
end Toll

set_option Elab.async false
set_option maxRecDepth 100000
set_option maxHeartbeats 4000000
namespace Toll
open PySem L2
local macro_rules | `(tactic| walk_at "go1") => `(tactic| first
  | refine ⟨_, rfl, ?_⟩
  | refine ⟨rfl, ?_⟩
  | refine ⟨_, _, rfl, rfl, ?_⟩
  | refine ⟨_, _, rfl, ?_⟩
  | (with_reducible refine' ⟨log_small ?k1 ?k2, ?_⟩; (case k1 => omega); (case k2 => omega))
  | (refine' ⟨?k1, ?_⟩; (case k1 => ((with_reducible show (_ : Int) < _); omega)))
  | (refine' ⟨⟨?k1, ?k2⟩, ?_⟩; (case k1 => omega); (case k2 => omega))
  | (refine' ⟨⟨?k1, ?k2, ?k3, ?k4⟩, ?_⟩; (case k1 => omega); (case k2 => omega); (case k3 => omega); (case k4 => omega))
  | (refine' ⟨.inl ⟨?k1, ?k2⟩, ?_⟩; (case k1 => omega); (case k2 => omega))
  | (refine' ⟨.inr ⟨?k1, ?k2⟩, ?_⟩; (case k1 => omega); (case k2 => omega))
  | (refine' ⟨Evl.sz_of ?k1, ?_⟩; (case k1 => omega))
  | (refine' ⟨?k1, ?_⟩; (case k1 => ((with_reducible show (_ : Int) ≤ _); omega)))
  | refine ⟨⟨_, rfl⟩, ?_⟩
  | refine .inl ⟨_, rfl, ?_⟩ | refine .inr ⟨_, rfl, ?_⟩
  | refine iteT ?_ | refine iteF ?_)
local macro_rules | `(tactic| walk_at "go") => `(tactic| repeat (walk_at "go1"))
local macro_rules | `(tactic| walk_at "ans") => `(tactic| (intro Q' q'; walk_at "go"; (try rw [dec_int]); (try rw [dec_str]); exact q'))
section
variable {P : Program} {w : World} {K : PySem.W.Frag} {mg : Str → Option Value} {base : Heap} {A : Ads}
theorem leastF_step {rows : List Row} {nm : Str} {i : Nat} {r : Row} (hi : 0 < i) (hr : rows[i]? = some r) : leastF rows nm (i + 1) =
    if r.nm = nm then (match leastF rows nm i with
      | none => some i
      | some b => if r.tl < ((rows[b]?).map (·.tl)).getD 0 then some i else some b) else leastF rows nm i := by
  conv => lhs; unfold leastF
  rw [if_neg (by omega), hr]
  all_goals rfl
def spLeast (K : PySem.W.Frag) : Sp := fun vs H Q _ => ∃ (a : Addr) (us : List V) (rows : List Row) (nm : Str), vs = [.ref a, .str nm] ∧ SqL K H a us ∧ Paired (RowV H) us rows ∧ 0 < rows.length ∧ rows.length ≤ 100000 ∧ Q (oV (leastF rows nm rows.length)) H
theorem ok_least (T : Txt K mg A) : DefOk P w K mg base CX0 1 A.least ["rows", "name"] (spLeast K) := by
  obtain ⟨fd, F⟩ := T.F_least
  refine ⟨fd, ?_, F.binds (ps := ["rows", "name"]) fun _ _ _ _ _ _ us hl => match us, hl with | [_, _], _ => rfl, F.kp⟩
  refine F.ok sc_least (fun vs H Q E h => ?_) (fun cdv A outer s H vs Q E hr h => ?_)
  · obtain ⟨a, us, rows, nm, rfl, _⟩ := h
    rfl
  · obtain ⟨a, us, rows, nm, rfl, hS, hP, h0, h1, q⟩ := h
    have hus := paired_len hP
    refine ⟨_, (pss_cons (ps_set (i := 2) sc_least.nd rfl (by first | exact Or.inl rfl | exact Or.inr rfl) pe_non)
      (pss_cons (ps_for PassesOwn.never rfl (pi_range2 (by rfl) T.b_range (pa_cons pe_int (pa_cons (pe_callB call_len_seq (by rfl) T.b_len PySem.boot_len (pa_cons (pv 0) pa_nil)) pa_nil))) (pg_name (i := 3) sc_least.nd rfl (by first | exact Or.inl rfl | exact Or.inr rfl)) (pss_cons (ps_if (pt_cmpR op_ne (pe_ix ix_tup (pe_ix ix_list (pv 0) (pv 3) (fun _ _ => rfl)) pe_int (fun _ _ => rfl)) (pv 1) (nomark _)) (pss_one ps_continue) pss_nil)
      (pss_one (ps_if (PW.pt (pw_or (pt_cmpR op_isN (pv 2) pe_non (nomark _)) (pw_or1 (pt_cmpR op_lt (pe_ix ix_tup (pe_ix ix_list (pv 0) (pv 3) (fun _ _ => rfl)) pe_int (fun _ _ => rfl)) (pe_ix ix_tup (pe_ix ix_list (pv 0) (pv 2) (fun _ _ => rfl)) pe_int (fun _ _ => rfl)) (nomark _))))) (pss_one (ps_set (i := 2) sc_least.nd rfl (by first | exact Or.inl rfl | exact Or.inr rfl) (pv 3))) pss_nil))))
      (pss_one (ps_ret (pv 2))))), ?_⟩
    walk_at "go"
    refine ⟨a, us, rfl, .inl hS, ?_⟩
    walk_at "go"
    refine for_range (lo := 1) (n := _) (fun i σ' H' => H = H' ∧ ∃ v, σ' = [some (.ref a), some (.str nm), some (oV (leastF rows nm (1 + i))), v])
      ⟨rfl, none, rfl⟩ ?_ ?_
    · rintro i σ' H' hi ⟨rfl, v, rfl⟩
      obtain ⟨r, hr⟩ : ∃ r, rows[1 + i]? = some r := ⟨_, List.getElem?_eq_getElem (by omega)⟩
      obtain ⟨_, hv, t, rfl, ht⟩ := paired_get hP hr
      have st := leastF_step (nm := nm) (by omega) hr
      have i1 : atI us (1 + (i : Int)) = some (V.ref t) := atI_of (j := 1 + i) (by omega) hv
      dsimp only [gName, List.set]
      refine seq_if1 (!decide (r.nm = nm)) (by
        intro Q' q'
        walk_at "go"
        refine ⟨a, us, _, _, rfl, rfl, hS, i1, ?_⟩
        walk_at "go"
        refine ⟨t, _, _, _, rfl, rfl, SqT.of ht, atI_nat (j := 0) rfl, ?_⟩
        walk_at "go"
        rw [dec_str]
        exact q') (fun hb => ?_) (fun hb => ?_)
      · have hb : ¬ r.nm = nm := by simpa using hb
        rw [if_neg hb] at st
        exact ⟨rfl, _, by rw [show 1 + (i + 1) = 1 + i + 1 by omega, st]⟩
      · have hb : r.nm = nm := by simpa using hb
        rw [if_pos hb] at st
        cases hl : leastF rows nm (1 + i) with
        | none =>
          rw [hl] at st
          refine do_if1 (true || false) (an_or (fun Q' q' => ⟨_, rfl, rfl, _, rfl, q'⟩) (fun z => by cases z)) (fun _ => ?_) (fun z => by cases z)
          refine ⟨_, rfl, rfl, some (.int (1 + (i : Int))), ?_⟩
          rw [show 1 + (i + 1) = 1 + i + 1 by omega, st]
          rfl
        | some b =>
          rw [hl] at st
          have hb2 := leastF_lt hl
          obtain ⟨r2, hr2⟩ : ∃ r, rows[b]? = some r := ⟨_, List.getElem?_eq_getElem (by omega)⟩
          obtain ⟨_, hv2, t2, rfl, ht2⟩ := paired_get hP hr2
          have st : leastF rows nm (1 + i + 1) = if r.tl < r2.tl then some (1 + i) else some b := by
            rw [st]
            show (if r.tl < ((rows[b]?).map (·.tl)).getD 0 then _ else _) = _
            rw [hr2]
            rfl
          refine do_if1 (false || decide (r.tl < r2.tl)) (an_or (fun Q' q' => ⟨_, rfl, rfl, _, rfl, q'⟩) (fun _ => by
            intro Q' q'
            walk_at "go"
            refine ⟨a, us, _, _, rfl, rfl, hS, i1, ?_⟩
            walk_at "go"
            refine ⟨t, _, _, _, rfl, rfl, SqT.of ht, atI_nat (j := 2) rfl, ?_⟩
            walk_at "go"
            refine ⟨a, us, _, _, rfl, rfl, hS, atI_nat hv2, ?_⟩
            walk_at "go"
            refine ⟨t2, _, _, _, rfl, rfl, SqT.of ht2, atI_nat (j := 2) rfl, ?_⟩
            walk_at "go"
            exact q')) (fun hb => ?_) (fun hb => ?_)
          · have hb : r.tl < r2.tl := by simpa using hb
            rw [if_pos hb] at st
            refine ⟨_, rfl, rfl, some (.int (1 + (i : Int))), ?_⟩
            rw [show 1 + (i + 1) = 1 + i + 1 by omega, st]
            rfl
          · have hb : ¬ r.tl < r2.tl := by simpa using hb
            rw [if_neg hb] at st
            refine ⟨rfl, some (.int (1 + (i : Int))), ?_⟩
            rw [show 1 + (i + 1) = 1 + i + 1 by omega, st]
    · rintro σ' H' ⟨rfl, v, rfl⟩
      walk_at "go"
      rw [show 1 + ((us.length : Int) - 1).toNat = rows.length by omega]
      exact q
def spLeastOf (K : PySem.W.Frag) : Sp := spLeast K
theorem ok_l_least_of (T : Txt K mg A) : DefOk P w K mg base CX0 1 A.l_least_of ["_law_rows_here", "_law_name_here"] (spLeast K) := by
  obtain ⟨fd, F⟩ := T.F_l_least_of
  refine ⟨fd, ?_, F.binds (ps := ["_law_rows_here", "_law_name_here"]) fun _ _ _ _ _ _ us hl => match us, hl with | [_, _], _ => rfl, F.kp⟩
  refine F.ok sc_l_least_of (fun vs H Q E h => ?_) (fun cdv A outer s H vs Q E hr h => ?_)
  · obtain ⟨a, us, rows, nm, rfl, _⟩ := h
    rfl
  · obtain ⟨a, us, rows, nm, rfl, hS, hP, h0, h1, q⟩ := h
    have hus := paired_len hP
    refine ⟨_, (pss_cons (ps_set (i := 2) sc_l_least_of.nd rfl (by first | exact Or.inl rfl | exact Or.inr rfl) pe_non)
      (pss_cons (ps_for PassesOwn.never rfl (pi_range2 (by rfl) T.b_range (pa_cons pe_int (pa_cons (pe_callB call_len_seq (by rfl) T.b_len PySem.boot_len (pa_cons (pv 0) pa_nil)) pa_nil))) (pg_name (i := 3) sc_l_least_of.nd rfl (by first | exact Or.inl rfl | exact Or.inr rfl)) (pss_one (ps_if (PW.pt (pw_and (pt_cmpR op_eq (pe_ix ix_tup (pe_ix ix_list (pv 0) (pv 3) (fun _ _ => rfl)) pe_int (fun _ _ => rfl)) (pv 1) (nomark _)) (pw_and1 (PW.pt (pw_or (pt_cmpR op_isN (pv 2) pe_non (nomark _)) (pw_or1 (pt_cmpR op_lt (pe_ix ix_tup (pe_ix ix_list (pv 0) (pv 3) (fun _ _ => rfl)) pe_int (fun _ _ => rfl)) (pe_ix ix_tup (pe_ix ix_list (pv 0) (pv 2) (fun _ _ => rfl)) pe_int (fun _ _ => rfl)) (nomark _)))))))) (pss_one (ps_set (i := 2) sc_l_least_of.nd rfl (by first | exact Or.inl rfl | exact Or.inr rfl) (pv 3))) pss_nil)))
      (pss_one (ps_ret (pv 2))))), ?_⟩
    walk_at "go"
    refine ⟨a, us, rfl, .inl hS, ?_⟩
    walk_at "go"
    refine for_range (lo := 1) (n := _) (fun i σ' H' => H = H' ∧ ∃ v, σ' = [some (.ref a), some (.str nm), some (oV (leastF rows nm (1 + i))), v])
      ⟨rfl, none, rfl⟩ ?_ ?_
    · rintro i σ' H' hi ⟨rfl, v, rfl⟩
      obtain ⟨r, hr⟩ : ∃ r, rows[1 + i]? = some r := ⟨_, List.getElem?_eq_getElem (by omega)⟩
      obtain ⟨_, hv, t, rfl, ht⟩ := paired_get hP hr
      have st := leastF_step (nm := nm) (by omega) hr
      have i1 : atI us (1 + (i : Int)) = some (V.ref t) := atI_of (j := 1 + i) (by omega) hv
      have hnm : ∀ Q' : Bool → Hp → Prop, Q' (decide (r.nm = nm)) H → (tTest (tOp rEq (tOp (rIxT K) (tOp (rIxL K) (tVar 0) (tVar 3)) (tC (V.int 0))) (tVar 1))) [some (.ref a), some (.str nm), some (oV (leastF rows nm (1 + i))), some (.int (1 + (i : Int)))] H Q' := by
        intro Q' q'
        walk_at "go"
        refine ⟨a, us, _, _, rfl, rfl, hS, i1, ?_⟩
        walk_at "go"
        refine ⟨t, _, _, _, rfl, rfl, SqT.of ht, atI_nat (j := 0) rfl, ?_⟩
        walk_at "go"
        rw [dec_str]
        exact q'
      dsimp only [gName, List.set]
      cases hl : leastF rows nm (1 + i) with
      | none =>
        rw [hl] at st hnm
        refine do_if1 (decide (r.nm = nm) && (true || false)) (an_and hnm (fun _ => an_or (fun Q' q' => ⟨_, rfl, rfl, _, rfl, q'⟩) (fun z => by cases z))) (fun hb => ?_) (fun hb => ?_)
        · have hb : r.nm = nm := by simpa using hb
          rw [if_pos hb] at st
          refine ⟨_, rfl, rfl, some (.int (1 + (i : Int))), ?_⟩
          rw [show 1 + (i + 1) = 1 + i + 1 by omega, st]
          rfl
        · have hb : ¬ r.nm = nm := by simpa using hb
          rw [if_neg hb] at st
          refine ⟨rfl, some (.int (1 + (i : Int))), ?_⟩
          rw [show 1 + (i + 1) = 1 + i + 1 by omega, st]
      | some b =>
        rw [hl] at st hnm
        have hb2 := leastF_lt hl
        obtain ⟨r2, hr2⟩ : ∃ r, rows[b]? = some r := ⟨_, List.getElem?_eq_getElem (by omega)⟩
        obtain ⟨_, hv2, t2, rfl, ht2⟩ := paired_get hP hr2
        have st : leastF rows nm (1 + i + 1) = if r.nm = nm then (if r.tl < r2.tl then some (1 + i) else some b) else some b := by
          rw [st]
          show (if r.nm = nm then (if r.tl < ((rows[b]?).map (·.tl)).getD 0 then _ else _) else _) = _
          rw [hr2]
          rfl
        refine do_if1 (decide (r.nm = nm) && (false || decide (r.tl < r2.tl))) (an_and hnm (fun _ => an_or (fun Q' q' => ⟨_, rfl, rfl, _, rfl, q'⟩) (fun _ => by
            intro Q' q'
            walk_at "go"
            refine ⟨a, us, _, _, rfl, rfl, hS, i1, ?_⟩
            walk_at "go"
            refine ⟨t, _, _, _, rfl, rfl, SqT.of ht, atI_nat (j := 2) rfl, ?_⟩
            walk_at "go"
            refine ⟨a, us, _, _, rfl, rfl, hS, atI_nat hv2, ?_⟩
            walk_at "go"
            refine ⟨t2, _, _, _, rfl, rfl, SqT.of ht2, atI_nat (j := 2) rfl, ?_⟩
            walk_at "go"
            exact q'))) (fun hb => ?_) (fun hb => ?_)
        · have hb : r.nm = nm ∧ r.tl < r2.tl := by simpa using hb
          rw [if_pos hb.1, if_pos hb.2] at st
          refine ⟨_, rfl, rfl, some (.int (1 + (i : Int))), ?_⟩
          rw [show 1 + (i + 1) = 1 + i + 1 by omega, st]
          rfl
        · have hb : leastF rows nm (1 + i + 1) = some b := by
            rw [st]
            by_cases h1 : r.nm = nm
            · rw [if_pos h1]
              by_cases h2 : r.tl < r2.tl
              · simp [h1, h2] at hb
              · rw [if_neg h2]
            · rw [if_neg h1]
          refine ⟨rfl, some (.int (1 + (i : Int))), ?_⟩
          rw [show 1 + (i + 1) = 1 + i + 1 by omega, hb]
    · rintro σ' H' ⟨rfl, v, rfl⟩
      walk_at "go"
      rw [show 1 + ((us.length : Int) - 1).toNat = rows.length by omega]
      exact q
end
end Toll

set_option Elab.async false
set_option maxRecDepth 100000
set_option maxHeartbeats 4000000
namespace Toll
open PySem L2
local macro_rules | `(tactic| walk_at "go1") => `(tactic| first
  | refine ⟨_, rfl, ?_⟩
  | refine ⟨rfl, ?_⟩
  | refine ⟨_, _, rfl, rfl, ?_⟩
  | refine ⟨_, _, rfl, ?_⟩
  | (with_reducible refine' ⟨log_small ?k1 ?k2, ?_⟩; (case k1 => omega); (case k2 => omega))
  | (refine' ⟨?k1, ?_⟩; (case k1 => ((with_reducible show (_ : Int) < _); omega)))
  | (refine' ⟨⟨?k1, ?k2⟩, ?_⟩; (case k1 => omega); (case k2 => omega))
  | (refine' ⟨⟨?k1, ?k2, ?k3, ?k4⟩, ?_⟩; (case k1 => omega); (case k2 => omega); (case k3 => omega); (case k4 => omega))
  | (refine' ⟨.inl ⟨?k1, ?k2⟩, ?_⟩; (case k1 => omega); (case k2 => omega))
  | (refine' ⟨.inr ⟨?k1, ?k2⟩, ?_⟩; (case k1 => omega); (case k2 => omega))
  | (refine' ⟨Evl.sz_of ?k1, ?_⟩; (case k1 => omega))
  | (refine' ⟨?k1, ?_⟩; (case k1 => ((with_reducible show (_ : Int) ≤ _); omega)))
  | refine ⟨⟨_, rfl⟩, ?_⟩
  | refine .inl ⟨_, rfl, ?_⟩ | refine .inr ⟨_, rfl, ?_⟩
  | refine iteT ?_ | refine iteF ?_)
local macro_rules | `(tactic| walk_at "go") => `(tactic| repeat (walk_at "go1"))
local macro_rules | `(tactic| walk_at "ans") => `(tactic| (intro Q' q'; walk_at "go"; (try rw [dec_int]); (try rw [dec_str]); exact q'))
section
variable {P : Program} {w : World} {K : PySem.W.Frag} {mg : Str → Option Value} {base : Heap} {A : Ads}
def spRoads (K : PySem.W.Frag) : Sp := fun vs H Q _ => ∃ (a : Addr) (us : List V) (rows : List Row) (p : Int), vs = [.ref a, .int p] ∧ SqL K H a us ∧ Paired (RowV H) us rows ∧ Backs rows ∧ 0 ≤ p ∧ p < (rows.length : Int) ∧ rows.length ≤ 50000 ∧
  ∀ (H' : Hp) (R : Addr), Same H H' → H R = none → H' R = some (.lst ((roadsOf rows p).map V.int)) → Q (.ref R) H'
theorem ok_roads_to (T : Txt K mg A) : DefOk P w K mg base CX0 1 A.roads_to ["rows", "place"] (spRoads K) := by
  obtain ⟨fd, F⟩ := T.F_roads_to
  refine ⟨fd, ?_, F.binds (ps := ["rows", "place"]) fun _ _ _ _ _ _ us hl => match us, hl with | [_, _], _ => rfl, F.kp⟩
  refine F.ok sc_roads_to (fun vs H Q E h => ?_) (fun cdv A outer s H vs Q E hr h => ?_)
  · obtain ⟨a, us, rows, p, rfl, _⟩ := h
    rfl
  · obtain ⟨a, us, rows, p0, rfl, hS, hP, hB, p0p, p0l, h1, q⟩ := h
    have hus := paired_len hP
    refine ⟨_, (pss_cons (ps_set (i := 2) sc_roads_to.nd rfl (by first | exact Or.inl rfl | exact Or.inr rfl) (pe_lst pa_nil))
      (pss_cons (ps_while PassesOwn.never (pt_cmpR op_gt (pv 1) pe_int (nomark _)) (pss_cons (ps_asg (pe_ix ix_list (pv 0) (pv 1) (fun _ _ => rfl)) (pg_tup (by rfl) (pgs_cons (pg_name (i := 3) sc_roads_to.nd rfl (by first | exact Or.inl rfl | exact Or.inr rfl)) (pgs_cons (pg_name (i := 4) sc_roads_to.nd rfl (by first | exact Or.inl rfl | exact Or.inr rfl)) (pgs_cons (pg_name (i := 5) sc_roads_to.nd rfl (by first | exact Or.inl rfl | exact Or.inr rfl)) (pgs_cons (pg_name (i := 6) sc_roads_to.nd rfl (by first | exact Or.inl rfl | exact Or.inr rfl)) (pgs_cons (pg_name (i := 7) sc_roads_to.nd rfl (by first | exact Or.inl rfl | exact Or.inr rfl)) pgs_nil)))))))
      (pss_cons (ps_expr (pe_bm PySem.F.plainAttrs_list PySem.F.slot_list_append PySem.F.type_list_append mt_append (pv 2) (pa_cons (pv 6) pa_nil)))
      (pss_one (ps_set (i := 1) sc_roads_to.nd rfl (by first | exact Or.inl rfl | exact Or.inr rfl) (pv 7))))))
      (pss_cons (ps_expr (pe_bm0 PySem.F.plainAttrs_list PySem.F.slot_list_reverse PySem.F.type_list_reverse mt_reverse (pv 2)))
      (pss_one (ps_ret (pv 2)))))), ?_⟩
    walk_at "go"
    refine ⟨Nat.zero_le _, fun R hR => ?_⟩
    walk_at "go"
    refine seq_while (fun m σ' H' => Same H H' ∧ ∃ (p : Int) (rs : List Int) (v3 v4 v5 v6 v7 : Option V), σ' = [some (.ref a), some (.int p), some (.ref R), v3, v4, v5, v6, v7] ∧ H' R = some (.lst (rs.map V.int)) ∧ 0 ≤ p ∧ p < (rows.length : Int) ∧ p.toNat ≤ m ∧ (rs.length : Int) + p ≤ p0 ∧ roadsOf rows p ++ rs.reverse = roadsOf rows p0)
      p0.toNat ⟨same_up hR, p0, [], none, none, none, none, none, rfl, upd_same, p0p, p0l, Nat.le_refl _, by simp, by simp⟩ ?_
    rintro m σ' H1 ⟨s1, p, rs, v3, v4, v5, v6, v7, rfl, hL, pp, pl, pm, pr, pe⟩
    refine ⟨decide (0 < p), by walk_at "ans", fun hb => ?_, fun hb => ?_⟩
    · have hb : 0 < p := of_decide_eq_true hb
      obtain ⟨r, hr⟩ : ∃ r, rows[p.toNat]? = some r := ⟨_, List.getElem?_eq_getElem (by omega)⟩
      obtain ⟨_, hv, t, rfl, ht⟩ := paired_get hP hr
      have hbk := hB _ _ hr
      rw [roadsOf_step hB hb hr] at pe
      walk_at "go"
      refine ⟨a, us, _, _, rfl, rfl, s1.seq hS, atI_of (j := p.toNat) (by omega) hv, ?_⟩
      walk_at "go"
      refine ⟨t, _, rfl, SqT.of (s1 _ _ ht), rfl, ?_⟩
      walk_at "go"
      refine ⟨.inl ⟨rfl, _, SqL.of hL⟩, ?_⟩
      walk_at "go"
      refine ⟨R, _, _, rfl, rfl, hL, Evl.sz_lt (by rw [List.length_map]; omega), ?_⟩
      walk_at "go"
      refine ⟨r.bk.toNat, by omega, same_new s1 hR, r.bk, rs ++ [r.rd], _, _, _, _, _, rfl, ?_, by omega, by omega, Nat.le_refl _, ?_, ?_⟩
      · rw [upd_same, List.map_append]
        rfl
      · rw [List.length_append, List.length_singleton]
        omega
      · rw [List.reverse_append, ← pe, List.append_assoc]
        rfl
    · have hb : ¬ 0 < p := of_decide_eq_false hb
      rw [roadsOf_end rows (by omega), List.nil_append] at pe
      walk_at "go"
      refine ⟨.inl ⟨rfl, _, SqL.of hL⟩, ?_⟩
      refine ⟨R, _, rfl, rfl, hL, ?_⟩
      walk_at "go"
      refine q _ R (same_new s1 hR) hR ?_
      rw [upd_same, ← List.map_reverse, pe]
theorem ok_l_roads_of (T : Txt K mg A) : DefOk P w K mg base CX0 1 A.l_roads_of ["_law_rows_here", "_law_place"] (spRoads K) := by
  obtain ⟨fd, F⟩ := T.F_l_roads_of
  refine ⟨fd, ?_, F.binds (ps := ["_law_rows_here", "_law_place"]) fun _ _ _ _ _ _ us hl => match us, hl with | [_, _], _ => rfl, F.kp⟩
  refine F.ok sc_l_roads_of (fun vs H Q E h => ?_) (fun cdv A outer s H vs Q E hr h => ?_)
  · obtain ⟨a, us, rows, p, rfl, _⟩ := h
    rfl
  · obtain ⟨a, us, rows, p0, rfl, hS, hP, hB, p0p, p0l, h1, q⟩ := h
    have hus := paired_len hP
    refine ⟨_, (pss_cons (ps_set (i := 2) sc_l_roads_of.nd rfl (by first | exact Or.inl rfl | exact Or.inr rfl) (pe_lst pa_nil))
      (pss_cons (ps_while PassesOwn.never (pt_cmpR op_gt (pv 1) pe_int (nomark _)) (pss_cons (ps_set (i := 2) sc_l_roads_of.nd rfl (by first | exact Or.inl rfl | exact Or.inr rfl) (pe_op op_cat (pe_lst (pa_cons (pe_ix ix_tup (pe_ix ix_list (pv 0) (pv 1) (fun _ _ => rfl)) pe_int (fun _ _ => rfl)) pa_nil)) (pv 2)))
      (pss_one (ps_set (i := 1) sc_l_roads_of.nd rfl (by first | exact Or.inl rfl | exact Or.inr rfl) (pe_ix ix_tup (pe_ix ix_list (pv 0) (pv 1) (fun _ _ => rfl)) pe_int (fun _ _ => rfl))))))
      (pss_one (ps_ret (pv 2))))), ?_⟩
    walk_at "go"
    refine ⟨Nat.zero_le _, fun R hR => ?_⟩
    walk_at "go"
    refine seq_while (fun m σ' H' => Same H H' ∧ ∃ (p : Int) (rs : List Int) (R : Addr), σ' = [some (.ref a), some (.int p), some (.ref R)] ∧ H' R = some (.lst (rs.map V.int)) ∧ H R = none ∧ 0 ≤ p ∧ p < (rows.length : Int) ∧ p.toNat ≤ m ∧ (rs.length : Int) + p ≤ p0 ∧ roadsOf rows p ++ rs = roadsOf rows p0)
      p0.toNat ⟨same_up hR, p0, [], R, rfl, upd_same, hR, p0p, p0l, Nat.le_refl _, by simp, by simp⟩ ?_
    rintro m σ' H1 ⟨s1, p, rs, R, rfl, hL, hR, pp, pl, pm, pr, pe⟩
    refine ⟨decide (0 < p), by walk_at "ans", fun hb => ?_, fun hb => ?_⟩
    · have hb : 0 < p := of_decide_eq_true hb
      obtain ⟨r, hr⟩ : ∃ r, rows[p.toNat]? = some r := ⟨_, List.getElem?_eq_getElem (by omega)⟩
      obtain ⟨_, hv, t, rfl, ht⟩ := paired_get hP hr
      have hbk := hB _ _ hr
      rw [roadsOf_step hB hb hr] at pe
      have hi : atI us p = some (V.ref t) := atI_of (j := p.toNat) (by omega) hv
      walk_at "go"
      refine ⟨a, us, _, _, rfl, rfl, s1.seq hS, hi, ?_⟩
      walk_at "go"
      refine ⟨t, _, _, _, rfl, rfl, SqT.of (s1 _ _ ht), atI_nat (j := 3) rfl, ?_⟩
      walk_at "go"
      refine ⟨(by show 1 ≤ sizeLine; decide), fun L1 hL1 => ?_⟩
      walk_at "go"
      have hne : R ≠ L1 := ne_of_none hL hL1
      have s2 := same_new s1 (s1.free hL1) (o := HO.lst [V.int r.rd])
      refine ⟨L1, R, _, _, rfl, rfl, upd_same, (by rw [upd_ne hne]; exact hL), Evl.sz_of (by rw [List.length_map]; show 1 + _ ≤ _; omega), fun L2 hL2 => ?_⟩
      have s3 := same_new s2 (s2.free hL2) (o := HO.lst ([V.int r.rd] ++ rs.map V.int))
      walk_at "go"
      refine ⟨a, us, _, _, rfl, rfl, s3.seq hS, hi, ?_⟩
      walk_at "go"
      refine ⟨t, _, _, _, rfl, rfl, SqT.of (s3 _ _ ht), atI_nat (j := 4) rfl, ?_⟩
      walk_at "go"
      refine ⟨r.bk.toNat, by omega, s3, r.bk, r.rd :: rs, L2, rfl, ?_, s2.free hL2, by omega, by omega, Nat.le_refl _, ?_, ?_⟩
      · rw [upd_same]
        rfl
      · rw [List.length_cons]
        omega
      · rw [← pe, List.append_assoc]
        rfl
    · have hb : ¬ 0 < p := of_decide_eq_false hb
      rw [roadsOf_end rows (by omega), List.nil_append] at pe
      walk_at "go"
      refine q _ R s1 hR ?_
      rw [hL, pe]
end
end Toll

set_option Elab.async false
set_option maxRecDepth 100000
set_option maxHeartbeats 4000000
namespace Toll
open PySem L2
local macro_rules | `(tactic| walk_at "go1") => `(tactic| first
  | refine ⟨_, rfl, ?_⟩
  | refine ⟨rfl, ?_⟩
  | refine ⟨_, _, rfl, rfl, ?_⟩
  | refine ⟨_, _, rfl, ?_⟩
  | (with_reducible refine' ⟨log_small ?k1 ?k2, ?_⟩; (case k1 => omega); (case k2 => omega))
  | (refine' ⟨?k1, ?_⟩; (case k1 => ((with_reducible show (_ : Int) < _); omega)))
  | (refine' ⟨⟨?k1, ?k2⟩, ?_⟩; (case k1 => omega); (case k2 => omega))
  | (refine' ⟨⟨?k1, ?k2, ?k3, ?k4⟩, ?_⟩; (case k1 => omega); (case k2 => omega); (case k3 => omega); (case k4 => omega))
  | (refine' ⟨.inl ⟨?k1, ?k2⟩, ?_⟩; (case k1 => omega); (case k2 => omega))
  | (refine' ⟨.inr ⟨?k1, ?k2⟩, ?_⟩; (case k1 => omega); (case k2 => omega))
  | (refine' ⟨Evl.sz_of ?k1, ?_⟩; (case k1 => omega))
  | (refine' ⟨?k1, ?_⟩; (case k1 => ((with_reducible show (_ : Int) ≤ _); omega)))
  | refine ⟨⟨_, rfl⟩, ?_⟩
  | refine .inl ⟨_, rfl, ?_⟩ | refine .inr ⟨_, rfl, ?_⟩
  | refine iteT ?_ | refine iteF ?_)
local macro_rules | `(tactic| walk_at "go") => `(tactic| repeat (walk_at "go1"))
local macro_rules | `(tactic| walk_at "ans") => `(tactic| (intro Q' q'; walk_at "go"; (try rw [dec_int]); (try rw [dec_str]); exact q'))
section
variable {P : Program} {w : World} {K : PySem.W.Frag} {mg : Str → Option Value} {base : Heap} {A : Ads}
def spLaw (K : PySem.W.Frag) : Sp := fun vs H Q _ => ∃ (a : Addr) (ns : List Int), vs = [.ref a] ∧ SqL K H a (ns.map V.int) ∧ ns.length ≤ 63 ∧ ∀ H', Q (.bl true) H'
theorem ok_law {f : Addr} {fd : FuncData} (F : Fun K "law" "law" s_law f fd) (T : Txt K mg A) : FnOk P w K mg base CX0 3 f fd ["_law_script"] (spLaw K) := by
  obtain ⟨_, G_l_mixed, B_l_mixed, K_l_mixed⟩ := ok_l_mixed (P := P) (w := w) (base := base) T
  obtain ⟨_, G_l_name, B_l_name, K_l_name⟩ := ok_l_name (P := P) (w := w) (base := base) T
  obtain ⟨_, G_l_rows, B_l_rows, K_l_rows⟩ := ok_l_rows (P := P) (w := w) (base := base) T
  obtain ⟨_, G_l_whole, B_l_whole, K_l_whole⟩ := ok_l_whole (P := P) (w := w) (base := base) T
  obtain ⟨_, G_least, B_least, K_least⟩ := ok_least (P := P) (w := w) (base := base) T
  obtain ⟨_, G_l_least_of, B_l_least_of, K_l_least_of⟩ := ok_l_least_of (P := P) (w := w) (base := base) T
  obtain ⟨_, G_roads_to, B_roads_to, K_roads_to⟩ := ok_roads_to (P := P) (w := w) (base := base) T
  obtain ⟨_, G_l_roads_of, B_l_roads_of, K_l_roads_of⟩ := ok_l_roads_of (P := P) (w := w) (base := base) T
  refine F.ok sc_law (fun vs H Q E h => ?_) (fun cdv A outer s H vs Q E hr h => ?_)
  · obtain ⟨a, ns, rfl, _⟩ := h
    rfl
  · obtain ⟨a, ns, rfl, hS, hl, q⟩ := h
    refine ⟨_, (pss_cons (ps_set (i := 1) sc_law.nd rfl (by first | exact Or.inl rfl | exact Or.inr rfl) (pe_call G_l_mixed (hr.mono (by decide)) rfl T.m_l_mixed K_l_mixed B_l_mixed .nil pass0 (pa_cons (pv 0) (pa_cons pe_int pa_nil))))
      (pss_cons (ps_set (i := 2) sc_law.nd rfl (by first | exact Or.inl rfl | exact Or.inr rfl) (pe_call G_l_rows (hr.mono (by decide)) rfl T.m_l_rows K_l_rows B_l_rows .nil pass0 (pa_cons (pv 0) (pa_cons (pv 1) pa_nil))))
      (pss_cons (ps_set (i := 3) sc_law.nd rfl (by first | exact Or.inl rfl | exact Or.inr rfl) (pe_callTy call_list_of (by rfl) T.b_list (by decide +kernel) (pa_cons (pv 2) pa_nil)))
      (pss_cons (ps_for PassesOwn.never rfl (pi_range1 (by rfl) T.b_range (pa_cons pe_int pa_nil)) (pg_name (i := 4) sc_law.nd rfl (by first | exact Or.inl rfl | exact Or.inr rfl)) (pss_cons (ps_set (i := 5) sc_law.nd rfl (by first | exact Or.inl rfl | exact Or.inr rfl) (pe_call G_l_least_of (hr.mono (by decide)) rfl T.m_l_least_of K_l_least_of B_l_least_of .nil pass0 (pa_cons (pv 2) (pa_cons (pe_call G_l_name (hr.mono (by decide)) rfl T.m_l_name K_l_name B_l_name .nil pass0 (pa_cons (pv 1) (pa_cons (pv 4) pa_nil))) pa_nil))))
      (pss_cons (ps_set (i := 6) sc_law.nd rfl (by first | exact Or.inl rfl | exact Or.inr rfl) (pe_call G_least (hr.mono (by decide)) rfl T.m_least K_least B_least .nil pass0 (pa_cons (pv 3) (pa_cons (pe_call G_l_name (hr.mono (by decide)) rfl T.m_l_name K_l_name B_l_name .nil pass0 (pa_cons (pv 1) (pa_cons (pv 4) pa_nil))) pa_nil))))
      (pss_one (ps_if (PW.pt (pw_or (pt_cmpR op_ne (pv 6) (pv 5) (nomark _)) (pw_or1 (PW.pt (pw_and (pt_cmpR op_notN (pv 5) pe_non (nomark _)) (pw_and1 (pt_not (pt_val (pe_call G_l_whole (hr.mono (by decide)) rfl T.m_l_whole K_l_whole B_l_whole .nil pass0 (pa_cons (pv 6) pa_nil)))))))))) (pss_one (ps_ret pe_bl)) pss_nil)))))
      (pss_cons (ps_for PassesOwn.never rfl (pi_range1 (by rfl) T.b_range (pa_cons (pe_callB call_len_seq (by rfl) T.b_len PySem.boot_len (pa_cons (pv 2) pa_nil)) pa_nil)) (pg_name (i := 7) sc_law.nd rfl (by first | exact Or.inl rfl | exact Or.inr rfl)) (pss_cons (ps_set (i := 8) sc_law.nd rfl (by first | exact Or.inl rfl | exact Or.inr rfl) (pe_call G_roads_to (hr.mono (by decide)) rfl T.m_roads_to K_roads_to B_roads_to .nil pass0 (pa_cons (pv 3) (pa_cons (pv 7) pa_nil))))
      (pss_cons (ps_if (PW.pt (pw_or (pt_not (pt_val (pe_callB call_isi (by rfl) T.b_isinstance (by decide +kernel) (pa_cons (pv 8) (pa_cons (pe_bltn (v := .ty "list") (by rfl) T.b_list (by decide +kernel) rfl) pa_nil))))) (pw_or1 (pt_cmpR (op_neD hr.units) (pv 8) (pe_call G_l_roads_of (hr.mono (by decide)) rfl T.m_l_roads_of K_l_roads_of B_l_roads_of .nil pass0 (pa_cons (pv 2) (pa_cons (pv 7) pa_nil))) (nomark _))))) (pss_one (ps_ret pe_bl)) pss_nil)
      (pss_cons (ps_for PassesOwn.never rfl (pi_list (pv 8)) (pg_name (i := 9) sc_law.nd rfl (by first | exact Or.inl rfl | exact Or.inr rfl)) (pss_one (ps_if (pt_not (pt_val (pe_call G_l_whole (hr.mono (by decide)) rfl T.m_l_whole K_l_whole B_l_whole .nil pass0 (pa_cons (pv 9) pa_nil)))) (pss_one (ps_ret pe_bl)) pss_nil)))
      (pss_one (ps_expr (pe_bm PySem.F.plainAttrs_list PySem.F.slot_list_append PySem.F.type_list_append mt_append (pv 8) (pa_cons pe_int pa_nil))))))))
      (pss_one (ps_ret (pe_and (pe_cmpR (op_eqD hr.units) (pv 3) (pv 2) (nomark _)) (pe_one (pe_cmpR (op_eqD hr.units) (pe_call G_roads_to (hr.mono (by decide)) rfl T.m_roads_to K_roads_to B_roads_to .nil pass0 (pa_cons (pv 3) (pa_cons pe_int pa_nil))) (pe_lst pa_nil) (nomark _))))))))))), ?_⟩
    walk_at "go"
    refine ⟨a, ns, 70, rfl, hS, by decide, by decide, ?_⟩
    have b0 := mixed_pos ns 70
    generalize mixed ns 70 = b at b0
    walk_at "go"
    refine ⟨a, ns, b, rfl, hS, hl, by omega, fun H1 L us k s1 hL0 hk hL hP => ?_⟩
    have hrl := lawRows_len ns b k
    have hB := lawRows_back ns b k
    have hN := lawRows_nm ns b k
    have hul := paired_len hP
    generalize lawRows ns b k = rows at hP hrl hB hN hul
    walk_at "go"
    refine ⟨L, us, rfl, .inl (SqL.of hL), fun M hM => ?_⟩
    have s2 := same_new s1 (s1.free hM) (o := HO.lst us)
    have hLM : L ≠ M := ne_of_none hL hM
    have hL2 : (upd H1 M (HO.lst us)) L = some (HO.lst us) := by rw [upd_ne hLM]; exact hL
    have hM2 : (upd H1 M (HO.lst us)) M = some (HO.lst us) := upd_same
    have hP2 : Paired (RowV (upd H1 M (HO.lst us))) us rows := rows_same (same_up hM) hP
    generalize upd H1 M (HO.lst us) = H2 at s2 hL2 hM2 hP2
    walk_at "go"
    refine for_range (lo := 0) (n := 7) (fun i σ' H' => Same H2 H' ∧ ∃ v4 v5 v6, σ' = [some (.ref a), some (.int b), some (.ref L), some (.ref M), v4, v5, v6, none, none, none])
      ⟨Same.refl _, none, none, none, rfl⟩ ?_ ?_
    · rintro i σ' H3 hi ⟨s3, v4, v5, v6, rfl⟩
      walk_at "go"
      intro H4 s4
      have s4' := s3.trans s4
      walk_at "go"
      refine ⟨L, us, rows, _, rfl, SqL.of (s4' _ _ hL2), rows_same s4' hP2, by omega, by omega, ?_⟩
      walk_at "go"
      intro H5 s5
      have s5' := s4'.trans s5
      walk_at "go"
      refine ⟨M, us, rows, _, rfl, SqL.of (s5' _ _ hM2), rows_same s5' hP2, by omega, by omega, ?_⟩
      walk_at "go"
      cases leastF rows (nameOf b (0 + (i : Int))) rows.length with
      | none =>
        walk_at "go"
        exact ⟨s5', _, _, _, rfl⟩
      | some j =>
        refine ⟨rfl, _, rfl, ?_⟩
        refine iteNS rfl ?_
        walk_at "go"
        exact ⟨s5', _, _, _, rfl⟩
    rintro σ' H3 ⟨s3, v4, v5, v6, rfl⟩
    walk_at "go"
    refine ⟨L, us, rfl, .inl (SqL.of (s3 _ _ hL2)), ?_⟩
    walk_at "go"
    refine for_range (lo := 0) (n := _) (fun i σ' H' => Same H2 H' ∧ ∃ v7 v8 v9, σ' = [some (.ref a), some (.int b), some (.ref L), some (.ref M), v4, v5, v6, v7, v8, v9])
      ⟨s3, none, none, none, rfl⟩ ?_ ?_
    · rintro i σ' H4 hi ⟨s4, v7, v8, v9, rfl⟩
      walk_at "go"
      refine ⟨M, us, rows, _, rfl, SqL.of (s4 _ _ hM2), rows_same s4 hP2, hB, by omega, by omega, by omega, fun H5 R s5 hR hRL => ?_⟩
      have s5' := s4.trans s5
      walk_at "go"
      refine ⟨_, _, _, _, true, rfl, ClsV.ty _, TyX.base (TyOf.lst hRL), kit_ty (by decide +kernel), ?_⟩
      walk_at "go"
      refine ⟨L, us, rows, _, rfl, SqL.of (s5' _ _ hL2), rows_same s5' hP2, hB, by omega, by omega, by omega, fun H6 R2 s6 hR2 hRL2 => ?_⟩
      have s6' := s5'.trans s6
      have hRL6 := s6 _ _ hRL
      refine ⟨_, _, dp_ints (SqL.of hRL6), dp_ints (SqL.of hRL2), (intsD_ok _).shaped (by decide), (intsD_ok _).shaped (by decide), ?_⟩
      rw [(intsD_ok _).refl]
      walk_at "go"
      refine ⟨⟨_, SqL.of hRL6⟩, for_list (K := K) (a := R) (xs := (roadsOf rows (0 + (i : Int))).map V.int) (fun j σ' H' => Same H6 H' ∧ ∃ v9, σ' = [some (.ref a), some (.int b), some (.ref L), some (.ref M), v4, v5, v6, some (.int (0 + (i : Int))), some (.ref R), v9])
        ⟨Same.refl _, v9, rfl⟩ (fun j σ' H' _ ⟨s7, _⟩ => SqL.of (s7 _ _ hRL6)) ?_ ?_⟩
      · rintro j x σ' H7 hj ⟨s7, v9, rfl⟩
        obtain ⟨z, rfl⟩ : ∃ z, x = V.int z := by
          rw [List.getElem?_map] at hj
          cases e : (roadsOf rows (0 + (i : Int)))[j]? with
          | none => rw [e] at hj; cases hj
          | some z => rw [e] at hj; exact ⟨z, (Option.some.inj hj).symm⟩
        walk_at "go"
        exact ⟨s7, _, rfl⟩
      · rintro σ' H7 ⟨s7, v9, rfl⟩
        have s7' := s6'.trans s7
        have hRL7 := s7 _ _ hRL6
        walk_at "go"
        refine ⟨.inl ⟨rfl, _, SqL.of hRL7⟩, ?_⟩
        walk_at "go"
        have hlen := roadsF_len rows (0 + (i : Int)).toNat (0 + (i : Int))
        refine ⟨R, _, _, rfl, rfl, hRL7, Evl.sz_lt (by rw [List.length_map]; unfold roadsOf; omega), ?_⟩
        exact ⟨same_new s7' (s4.free hR), _, _, _, rfl⟩
    · rintro σ' H4 ⟨s4, v7, v8, v9, rfl⟩
      have okR : okD 2 (rowsD rows) := rowsD_ok fun r hr => by
        obtain ⟨t, _, _, e⟩ := hN r hr
        rw [e]
        exact nameOf_ok _ _
      walk_at "go"
      refine ⟨_, _, dp_rows (SqL.of (s4 _ _ hM2)) (rows_same s4 hP2), dp_rows (SqL.of (s4 _ _ hL2)) (rows_same s4 hP2), okR.shaped (by decide), okR.shaped (by decide), ?_⟩
      rw [okR.refl]
      walk_at "go"
      refine ⟨M, us, rows, 0, rfl, SqL.of (s4 _ _ hM2), rows_same s4 hP2, hB, by decide, by omega, by omega, fun H5 R s5 hR hRL => ?_⟩
      walk_at "go"
      refine ⟨Nat.zero_le _, fun p hp => ?_⟩
      rw [roadsOf_end rows (Int.le_refl 0)] at hRL
      have hRp : R ≠ p := ne_of_none hRL hp
      refine ⟨_, _, dp_ints (ns := []) (SqL.of (by rw [upd_ne hRp]; exact hRL)), dp_ints (ns := []) (SqL.of upd_same), (intsD_ok _).shaped (by decide), (intsD_ok _).shaped (by decide), ?_⟩
      rw [(intsD_ok _).refl]
      exact q _
end
end Toll

set_option Elab.async false
set_option maxRecDepth 100000
set_option maxHeartbeats 4000000
namespace Toll
open PySem L2
theorem all_mk {l : PySem.W.OpenLaw} {w : World} {K : PySem.W.Frag} {h : Heap} {mg : Str → Option Value} {fa f_least f_roads_to f_l_cell_at f_l_whole f_l_mixed f_l_name f_l_rows f_l_least_of f_l_roads_of f_law : Addr} (X : K.In h) (G : h.Ns mainGlobals mg) (hfa : mg "law" = some (.ref fa))
    {od_least an_least od_roads_to an_roads_to od_l_cell_at an_l_cell_at od_l_whole an_l_whole od_l_mixed an_l_mixed od_l_name an_l_name od_l_rows an_l_rows od_l_least_of an_l_least_of od_l_roads_of an_l_roads_of od_law an_law : Option Addr} {sl_least sl_roads_to sl_l_cell_at sl_l_whole sl_l_mixed sl_l_name sl_l_rows sl_l_least_of sl_l_roads_of sl_law : Array (Option Value)} {oc_least kV_least dc_least pm_least cd_least ct_least oc_roads_to kV_roads_to dc_roads_to pm_roads_to cd_roads_to ct_roads_to oc_l_cell_at kV_l_cell_at dc_l_cell_at pm_l_cell_at cd_l_cell_at ct_l_cell_at oc_l_whole kV_l_whole dc_l_whole pm_l_whole cd_l_whole ct_l_whole oc_l_mixed kV_l_mixed dc_l_mixed pm_l_mixed cd_l_mixed ct_l_mixed oc_l_name kV_l_name dc_l_name pm_l_name cd_l_name ct_l_name oc_l_rows kV_l_rows dc_l_rows pm_l_rows cd_l_rows ct_l_rows oc_l_least_of kV_l_least_of dc_l_least_of pm_l_least_of cd_l_least_of ct_l_least_of oc_l_roads_of kV_l_roads_of dc_l_roads_of pm_l_roads_of cd_l_roads_of ct_l_roads_of oc_law kV_law dc_law pm_law cd_law ct_law : Value}
    (a_least : PySem.W.nsIn K mainGlobals "least" = some (some (.ref f_least))) (l_least : K.lookup f_least = some ⟨oc_least, od_least, .func (PySem.W.fnOf "least" "least" (defArgs s_least) (defBody s_least) (defScope s_least) .none kV_least dc_least pm_least an_least cd_least ct_least), sl_least⟩) (c_least : PySem.W.codeIn K cd_least "least" = true) (k_least : PySem.W.keepIn K (.ref f_least) = true)
    (a_roads_to : PySem.W.nsIn K mainGlobals "roads_to" = some (some (.ref f_roads_to))) (l_roads_to : K.lookup f_roads_to = some ⟨oc_roads_to, od_roads_to, .func (PySem.W.fnOf "roads_to" "roads_to" (defArgs s_roads_to) (defBody s_roads_to) (defScope s_roads_to) .none kV_roads_to dc_roads_to pm_roads_to an_roads_to cd_roads_to ct_roads_to), sl_roads_to⟩) (c_roads_to : PySem.W.codeIn K cd_roads_to "roads_to" = true) (k_roads_to : PySem.W.keepIn K (.ref f_roads_to) = true)
    (a_l_cell_at : PySem.W.nsIn K mainGlobals "_law_cell_at" = some (some (.ref f_l_cell_at))) (l_l_cell_at : K.lookup f_l_cell_at = some ⟨oc_l_cell_at, od_l_cell_at, .func (PySem.W.fnOf "_law_cell_at" "_law_cell_at" (defArgs s_l_cell_at) (defBody s_l_cell_at) (defScope s_l_cell_at) .none kV_l_cell_at dc_l_cell_at pm_l_cell_at an_l_cell_at cd_l_cell_at ct_l_cell_at), sl_l_cell_at⟩) (c_l_cell_at : PySem.W.codeIn K cd_l_cell_at "_law_cell_at" = true) (k_l_cell_at : PySem.W.keepIn K (.ref f_l_cell_at) = true)
    (a_l_whole : PySem.W.nsIn K mainGlobals "_law_whole" = some (some (.ref f_l_whole))) (l_l_whole : K.lookup f_l_whole = some ⟨oc_l_whole, od_l_whole, .func (PySem.W.fnOf "_law_whole" "_law_whole" (defArgs s_l_whole) (defBody s_l_whole) (defScope s_l_whole) .none kV_l_whole dc_l_whole pm_l_whole an_l_whole cd_l_whole ct_l_whole), sl_l_whole⟩) (c_l_whole : PySem.W.codeIn K cd_l_whole "_law_whole" = true) (k_l_whole : PySem.W.keepIn K (.ref f_l_whole) = true)
    (a_l_mixed : PySem.W.nsIn K mainGlobals "_law_mixed" = some (some (.ref f_l_mixed))) (l_l_mixed : K.lookup f_l_mixed = some ⟨oc_l_mixed, od_l_mixed, .func (PySem.W.fnOf "_law_mixed" "_law_mixed" (defArgs s_l_mixed) (defBody s_l_mixed) (defScope s_l_mixed) .none kV_l_mixed dc_l_mixed pm_l_mixed an_l_mixed cd_l_mixed ct_l_mixed), sl_l_mixed⟩) (c_l_mixed : PySem.W.codeIn K cd_l_mixed "_law_mixed" = true) (k_l_mixed : PySem.W.keepIn K (.ref f_l_mixed) = true)
    (a_l_name : PySem.W.nsIn K mainGlobals "_law_name" = some (some (.ref f_l_name))) (l_l_name : K.lookup f_l_name = some ⟨oc_l_name, od_l_name, .func (PySem.W.fnOf "_law_name" "_law_name" (defArgs s_l_name) (defBody s_l_name) (defScope s_l_name) .none kV_l_name dc_l_name pm_l_name an_l_name cd_l_name ct_l_name), sl_l_name⟩) (c_l_name : PySem.W.codeIn K cd_l_name "_law_name" = true) (k_l_name : PySem.W.keepIn K (.ref f_l_name) = true)
    (a_l_rows : PySem.W.nsIn K mainGlobals "_law_rows" = some (some (.ref f_l_rows))) (l_l_rows : K.lookup f_l_rows = some ⟨oc_l_rows, od_l_rows, .func (PySem.W.fnOf "_law_rows" "_law_rows" (defArgs s_l_rows) (defBody s_l_rows) (defScope s_l_rows) .none kV_l_rows dc_l_rows pm_l_rows an_l_rows cd_l_rows ct_l_rows), sl_l_rows⟩) (c_l_rows : PySem.W.codeIn K cd_l_rows "_law_rows" = true) (k_l_rows : PySem.W.keepIn K (.ref f_l_rows) = true)
    (a_l_least_of : PySem.W.nsIn K mainGlobals "_law_least_of" = some (some (.ref f_l_least_of))) (l_l_least_of : K.lookup f_l_least_of = some ⟨oc_l_least_of, od_l_least_of, .func (PySem.W.fnOf "_law_least_of" "_law_least_of" (defArgs s_l_least_of) (defBody s_l_least_of) (defScope s_l_least_of) .none kV_l_least_of dc_l_least_of pm_l_least_of an_l_least_of cd_l_least_of ct_l_least_of), sl_l_least_of⟩) (c_l_least_of : PySem.W.codeIn K cd_l_least_of "_law_least_of" = true) (k_l_least_of : PySem.W.keepIn K (.ref f_l_least_of) = true)
    (a_l_roads_of : PySem.W.nsIn K mainGlobals "_law_roads_of" = some (some (.ref f_l_roads_of))) (l_l_roads_of : K.lookup f_l_roads_of = some ⟨oc_l_roads_of, od_l_roads_of, .func (PySem.W.fnOf "_law_roads_of" "_law_roads_of" (defArgs s_l_roads_of) (defBody s_l_roads_of) (defScope s_l_roads_of) .none kV_l_roads_of dc_l_roads_of pm_l_roads_of an_l_roads_of cd_l_roads_of ct_l_roads_of), sl_l_roads_of⟩) (c_l_roads_of : PySem.W.codeIn K cd_l_roads_of "_law_roads_of" = true) (k_l_roads_of : PySem.W.keepIn K (.ref f_l_roads_of) = true)
    (a_law : PySem.W.nsIn K mainGlobals "law" = some (some (.ref f_law))) (l_law : K.lookup f_law = some ⟨oc_law, od_law, .func (PySem.W.fnOf "law" "law" (defArgs s_law) (defBody s_law) (defScope s_law) .none kV_law dc_law pm_law an_law cd_law ct_law), sl_law⟩) (c_law : PySem.W.codeIn K cd_law "law" = true) (k_law : PySem.W.keepIn K (.ref f_law) = true)
    (z_range : PySem.W.nsIn K mainGlobals "range" = some none)
    (z_len : PySem.W.nsIn K mainGlobals "len" = some none)
    (z_isinstance : PySem.W.nsIn K mainGlobals "isinstance" = some none)
    (z_int : PySem.W.nsIn K mainGlobals "int" = some none)
    (z_bool : PySem.W.nsIn K mainGlobals "bool" = some none)
    (z_str : PySem.W.nsIn K mainGlobals "str" = some none)
    (z_min : PySem.W.nsIn K mainGlobals "min" = some none)
    (z_max : PySem.W.nsIn K mainGlobals "max" = some none)
    (z_list : PySem.W.nsIn K mainGlobals "list" = some none) :
    ∃ fd : FuncData, (∀ (s : Shared) (v : Value), BindsTo s fd ⟨[v], []⟩ [("_law_script", v)]) ∧ ∀ base : Heap, K.In base → base.Ns mainGlobals mg → FnOk l.prog w K mg base CX0 3 fa fd ["_law_script"] (spLaw K) := by
  have e := hfa.symm.trans (PySem.W.mg_of X G a_law)
  cases e
  let A : Ads := { least := f_least, roads_to := f_roads_to, l_cell_at := f_l_cell_at, l_whole := f_l_whole, l_mixed := f_l_mixed, l_name := f_l_name, l_rows := f_l_rows, l_least_of := f_l_least_of, l_roads_of := f_l_roads_of, law := fa }
  have T : Txt K mg A :=
    { m_least := PySem.W.mg_of X G a_least
      F_least := ⟨_, fun_mk (st := s_least) l_least c_least k_least⟩
      m_roads_to := PySem.W.mg_of X G a_roads_to
      F_roads_to := ⟨_, fun_mk (st := s_roads_to) l_roads_to c_roads_to k_roads_to⟩
      m_l_cell_at := PySem.W.mg_of X G a_l_cell_at
      F_l_cell_at := ⟨_, fun_mk (st := s_l_cell_at) l_l_cell_at c_l_cell_at k_l_cell_at⟩
      m_l_whole := PySem.W.mg_of X G a_l_whole
      F_l_whole := ⟨_, fun_mk (st := s_l_whole) l_l_whole c_l_whole k_l_whole⟩
      m_l_mixed := PySem.W.mg_of X G a_l_mixed
      F_l_mixed := ⟨_, fun_mk (st := s_l_mixed) l_l_mixed c_l_mixed k_l_mixed⟩
      m_l_name := PySem.W.mg_of X G a_l_name
      F_l_name := ⟨_, fun_mk (st := s_l_name) l_l_name c_l_name k_l_name⟩
      m_l_rows := PySem.W.mg_of X G a_l_rows
      F_l_rows := ⟨_, fun_mk (st := s_l_rows) l_l_rows c_l_rows k_l_rows⟩
      m_l_least_of := PySem.W.mg_of X G a_l_least_of
      F_l_least_of := ⟨_, fun_mk (st := s_l_least_of) l_l_least_of c_l_least_of k_l_least_of⟩
      m_l_roads_of := PySem.W.mg_of X G a_l_roads_of
      F_l_roads_of := ⟨_, fun_mk (st := s_l_roads_of) l_l_roads_of c_l_roads_of k_l_roads_of⟩
      m_law := PySem.W.mg_of X G a_law
      F_law := ⟨_, fun_mk (st := s_law) l_law c_law k_law⟩
      b_range := PySem.W.mg_none_of X G z_range
      b_len := PySem.W.mg_none_of X G z_len
      b_isinstance := PySem.W.mg_none_of X G z_isinstance
      b_int := PySem.W.mg_none_of X G z_int
      b_bool := PySem.W.mg_none_of X G z_bool
      b_str := PySem.W.mg_none_of X G z_str
      b_min := PySem.W.mg_none_of X G z_min
      b_max := PySem.W.mg_none_of X G z_max
      b_list := PySem.W.mg_none_of X G z_list }
  exact ⟨PySem.W.fnOf "law" "law" (defArgs s_law) (defBody s_law) (defScope s_law) .none kV_law dc_law pm_law an_law cd_law ct_law, fun s v => .of_eq rfl, fun base _ _ => ok_law (fun_mk (st := s_law) l_law c_law k_law) T⟩
theorem walk {l : PySem.W.OpenLaw} {q : Program} {loose : List Str} {XP : (Str → Option Value) → Heap → Prop} {YP : World → Heap → Prop} {d : DefRec} {K : Params → PySem.W.Frag} (hn : l.most = some 63) (hdf : d.params.defaults = [])
    (hY : ∀ (w : World) (h : Heap), YP w h → (K w.params).In h)
    (F : ∀ (w : World) (mg : Str → Option Value) (fa : Addr) (h : Heap), (K w.params).In h → h.Ns mainGlobals mg → mg d.name = some (.ref fa) →
      ∃ fd : FuncData, (∀ (s : Shared) (u : Value), BindsTo s fd ⟨[u], []⟩ [("_law_script", u)]) ∧ ∀ base : Heap, (K w.params).In base → base.Ns mainGlobals mg → FnOk l.prog w (K w.params) mg base CX0 3 fa fd ["_law_script"] (spLaw (K w.params))) :
    PySem.W.WalkO q loose XP YP l.row.toRowW d [] (fun f vs => PySem.call f vs) :=
  L2.walk_of (n := 63) (k := 3) (x := "_law_script") (CX := fun _ => CX0) (sp := fun w => spLaw (K w.params)) hn (by decide) hdf ⟨rfl, by decide, by decide⟩ hY F (fun _ _ a ns hl _ hS => ⟨a, ns, rfl, hS, hl, fun _ => rfl⟩) fun _ _ _ _ _ z => z
end Toll
open PySem PySem.W PyProof.Rows
set_option maxRecDepth 100000 in
set_option maxHeartbeats 0 in
theorem PySem.Challenge.cw_tollguess_k05_rows_read_holds : PySem.Challenge.rw_tollguess_k05_rows_read.Holds := by
  w_on; o_law; k_head; (case hw => w_witness2)
  k_fill
  refine Toll.walk (l := PySem.Challenge.rw_tollguess_k05_rows_read) rfl rfl (fun w h Y => PySem.W.kIn_of Y) ?F
  case F =>
    intro w mg fa h KX G hmg
    refine' Toll.all_mk KX G hmg ?a_least ?l_least ?c_least ?k_least ?a_roads_to ?l_roads_to ?c_roads_to ?k_roads_to ?a_l_cell_at ?l_l_cell_at ?c_l_cell_at ?k_l_cell_at ?a_l_whole ?l_l_whole ?c_l_whole ?k_l_whole ?a_l_mixed ?l_l_mixed ?c_l_mixed ?k_l_mixed ?a_l_name ?l_l_name ?c_l_name ?k_l_name ?a_l_rows ?l_l_rows ?c_l_rows ?k_l_rows ?a_l_least_of ?l_l_least_of ?c_l_least_of ?k_l_least_of ?a_l_roads_of ?l_l_roads_of ?c_l_roads_of ?k_l_roads_of ?a_law ?l_law ?c_law ?k_law ?z_range ?z_len ?z_isinstance ?z_int ?z_bool ?z_str ?z_min ?z_max ?z_list
    (case a_least => k_is); (case l_least => k_is); (case c_least => k_is); (case k_least => k_is); (case a_roads_to => k_is); (case l_roads_to => k_is); (case c_roads_to => k_is); (case k_roads_to => k_is); (case a_l_cell_at => k_is); (case l_l_cell_at => k_is); (case c_l_cell_at => k_is); (case k_l_cell_at => k_is); (case a_l_whole => k_is); (case l_l_whole => k_is); (case c_l_whole => k_is); (case k_l_whole => k_is); (case a_l_mixed => k_is); (case l_l_mixed => k_is); (case c_l_mixed => k_is); (case k_l_mixed => k_is); (case a_l_name => k_is); (case l_l_name => k_is); (case c_l_name => k_is); (case k_l_name => k_is); (case a_l_rows => k_is); (case l_l_rows => k_is); (case c_l_rows => k_is); (case k_l_rows => k_is); (case a_l_least_of => k_is); (case l_l_least_of => k_is); (case c_l_least_of => k_is); (case k_l_least_of => k_is); (case a_l_roads_of => k_is); (case l_l_roads_of => k_is); (case c_l_roads_of => k_is); (case k_l_roads_of => k_is); (case a_law => k_is); (case l_law => k_is); (case c_law => k_is); (case k_law => k_is); (case z_range => k_is); (case z_len => k_is); (case z_isinstance => k_is); (case z_int => k_is); (case z_bool => k_is); (case z_str => k_is); (case z_min => k_is); (case z_max => k_is); (case z_list => k_is)
#print axioms PySem.Challenge.cw_tollguess_k05_rows_read_holds
