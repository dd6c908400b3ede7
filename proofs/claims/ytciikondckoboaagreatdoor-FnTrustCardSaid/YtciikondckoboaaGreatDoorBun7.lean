/-
  errors.As of this program at a target of the program's own error type: of nil, and of an error of that type.
  Trusted of the program: by which key a Seal is, told by errors.
-/
import Derived.Test.YtciikondckoboaaGreatDoorErrI
import Derived.Test.YtciikondckoboaaGreatDoorBun6
import Derived.Test.YtciikondckoboaaGreatDoorBun4
import Derived.Laws.StructEq
namespace Go.Proofs.YtciikondckoboaaGreatDoor.Er
open Go.RowKit Go.Extern.Stop Go.Stop Go.Extern
set_option linter.unusedVariables false
theorem as_nil (t : Value) (w : World) : Calls Tryz.prog 65 #[.nilIface, t] w fun e w' => e = .returned (.bool false) ∧ w' = w := by
  go_enter Tryz.func65, Tryz.ntmps65
  go_wp2
  go_ret
  exact ⟨rfl, rfl⟩
/-- The handles of the three types, and the Value of a variable of each of two. -/
abbrev hF : Value := .pointer (some ⟨9, 74, none⟩)
abbrev hFF : Value := .pointer (some ⟨9, 103, none⟩)
abbrev hE : Value := .pointer (some ⟨9, 49, none⟩)
abbrev vFF (a : Addr) : Value := .agg #[hFF, .pointer (some a), .int .u64 150]
abbrev vF (a : Addr) : Value := .agg #[hF, .pointer (some a), .int .u64 150]
abbrev vFa (a : Addr) : Value := .agg #[hF, .pointer (some a), .int .u64 406]
theorem asValueFF (t : Addr) (w : World) : (ReflectliteValue.unpack (.iface 103 (.pointer (some t)))).run Tryz.prog w = .ok (vFF ⟨w.heap.size, 0, none⟩) (w.alloc (.cells #[.pointer (some t)] 103)) := by kernel_rfl
theorem asValueF (e : Addr) (w : World) : (ReflectliteValue.unpack (.iface 74 (.pointer (some e)))).run Tryz.prog w = .ok (vF ⟨w.heap.size, 0, none⟩) (w.alloc (.cells #[.pointer (some e)] 74)) := by kernel_rfl
theorem asType (a : Addr) (w : World) : (ReflectliteValue.methodAny (ReflectliteValue.valueError "reflectlite.Value.Type" 0) (fun t _ _ _ => ReflectliteType.toType t) #[vFF a]).run Tryz.prog w = .ok (.iface 147 (.agg #[hFF])) w := by kernel_rfl
theorem asMKind (h : Value) (w : World) : (Go.method 318 147 (.agg #[h]) "Kind").run Tryz.prog w = .ok (140, h) w := by kernel_rfl
theorem asMElem (h : Value) (w : World) : (Go.method 318 147 (.agg #[h]) "Elem").run Tryz.prog w = .ok (152, .agg #[h]) w := by kernel_rfl
theorem asMImpl (h : Value) (w : World) : (Go.method 318 147 (.agg #[h]) "Implements").run Tryz.prog w = .ok (153, .agg #[h]) w := by kernel_rfl
theorem asMAssign (h : Value) (w : World) : (Go.method 318 147 (.agg #[h]) "AssignableTo").run Tryz.prog w = .ok (150, .agg #[h]) w := by kernel_rfl
theorem asKindFF (w : World) : ((ReflectliteType.abiMethod fun t => (fun a : Nat => Value.int IntKind.u8 (a : Int)) <$> Rtype.kind t) #[hFF]).run Tryz.prog w = .ok (.int .u8 22) w := by kernel_rfl
theorem asKindF (w : World) : ((ReflectliteType.abiMethod fun t => (fun a : Nat => Value.int IntKind.u8 (a : Int)) <$> Rtype.kind t) #[hF]).run Tryz.prog w = .ok (.int .u8 22) w := by kernel_rfl
theorem asElem (w : World) : (ReflectliteType.method ReflectliteType.elem #[.agg #[hFF]]).run Tryz.prog w = .ok (.iface 147 (.agg #[hF])) w := by kernel_rfl
theorem asImpl (w : World) : (ReflectliteType.relation "Implements" ReflectliteType.implements_ #[.agg #[hF], .iface 147 (.agg #[hE])]).run Tryz.prog w = .ok (.bool true) w := by kernel_rfl
theorem asTypeOf (v : Value) (w : World) : (ReflectliteType.typeOf #[.iface 74 v]).run Tryz.prog w = .ok (.iface 147 (.agg #[hF])) w := by kernel_rfl
theorem asAssign (w : World) : (ReflectliteType.relation "AssignableTo" ReflectliteType.assignableTo #[.agg #[hF], .iface 147 (.agg #[hF])]).run Tryz.prog w = .ok (.bool true) w := by kernel_rfl
theorem partsFF (a : Addr) (w : World) : (ReflectliteValue.parts (vFF a)).run Tryz.prog w = .ok (some (103, a, 150)) w := by kernel_rfl
theorem partsF (a : Addr) (w : World) : (ReflectliteValue.parts (vF a)).run Tryz.prog w = .ok (some (74, a, 150)) w := by kernel_rfl
theorem partsFa (a : Addr) (w : World) : (ReflectliteValue.parts (vFa a)).run Tryz.prog w = .ok (some (74, a, 406)) w := by kernel_rfl
theorem asElemOf (w : World) : (Rtype.elem? 103).run Tryz.prog w = .ok (some 74) w := by kernel_rfl
theorem asMk (p : Addr) (w : World) : (ReflectliteValue.mk 74 p ReflectliteValue.flagAddr).run Tryz.prog w = .ok (vFa p) w := by kernel_rfl
theorem asDirect (w : World) : (Rtype.directlyAssignable 74 74).run Tryz.prog w = .ok true w := by kernel_rfl
theorem asIsNil (a p : Addr) (W : World) (ha : W.cell? a = some (.pointer (some p))) :
    (ReflectliteValue.method (ReflectliteValue.valueError "reflectlite.Value.IsNil" 0) ReflectliteValue.isNil #[vFF a]).run Tryz.prog W = .ok (.bool false) W := by
  change Sem.run Tryz.prog (ReflectliteValue.parts (vFF a) >>= _) W = _
  simp only [Sem.run_bind, partsFF, Result.andThen]
  simp [ReflectliteValue.isNil, loadVar, isAgg, underlying, Tryz.underlying103, ha, Result.andThen]
theorem asElemV (a p : Addr) (W : World) (ha : W.cell? a = some (.pointer (some p))) :
    (ReflectliteValue.method (ReflectliteValue.valueError "reflectlite.Value.Elem" 0) ReflectliteValue.elem #[vFF a]).run Tryz.prog W = .ok (vFa p) W := by
  change Sem.run Tryz.prog (ReflectliteValue.parts (vFF a) >>= _) W = _
  simp only [Sem.run_bind, partsFF, Result.andThen]
  simp [ReflectliteValue.elem, loadVar, isAgg, underlying, Tryz.underlying103, ha, Result.andThen, asElemOf, asMk]
theorem asSet (ta b e : Addr) (old : Value) (W : World) (hb : W.cell? b = some (.pointer (some e))) (ht : W.cell? ta = some old) (hf : W.frozen? ta = false) :
    (ReflectliteValue.set #[vFa ta, vF b]).run Tryz.prog W = .ok (.tuple #[]) (W.setCell ta (.pointer (some e))) := by
  change Sem.run Tryz.prog (ReflectliteValue.parts (vFa ta) >>= fun p => ReflectliteValue.parts (vF b) >>= fun q => _) W = _
  simp only [Sem.run_bind, partsFa, partsF, Result.andThen]
  simp [ReflectliteValue.flagAddr, loadVar, isAgg, underlying, Tryz.underlying74, hb, Result.andThen, asDirect, storeVar, Value.cells, storeCells, Addr.add]
  rw [run_store Tryz.prog W ta _ _ (by rfl)]
  simp [ht, hf]
set_option maxRecDepth 100000 in
set_option maxHeartbeats 4000000 in
theorem as_hit (e t : Addr) (old : Value) (w : World) (hg : Se.Typ w) (ht0 : w.cell? t = some old) (hf0 : w.frozen? t = false) :
    Calls Tryz.prog 65 #[.iface 74 (.pointer (some e)), .iface 103 (.pointer (some t))] w fun ev w' => ev = .returned (.bool true) ∧
      w' = ((((w.alloc (.cells #[.pointer (some t)] 103)).alloc (.cells #[hFF, .pointer (some ⟨w.heap.size, 0, none⟩), .int .u64 150] 127)).alloc (.cells #[hFF, .pointer (some ⟨w.heap.size, 0, none⟩), .int .u64 150] 127)).alloc (.cells #[.pointer (some e)] 74)).setCell t (.pointer (some e)) := by
  have h1 := @run_callFunc_extern Tryz.prog 81 _ (fun args => ReflectliteValue.unpack (args.getD 0 (.tuple #[]))) Tryz.func81 (by kernel_rfl) (by kernel_rfl) (by kernel_rfl) (by kernel_rfl)
  have h2 := @run_callFunc_extern Tryz.prog 82 _ (ReflectliteValue.methodAny (ReflectliteValue.valueError "reflectlite.Value.Type" 0) (fun t _ _ _ => ReflectliteType.toType t)) Tryz.func82 (by kernel_rfl) (by kernel_rfl) (by kernel_rfl) (by kernel_rfl)
  have h3 := @run_callFunc_extern Tryz.prog 83 _ (ReflectliteValue.method (ReflectliteValue.valueError "reflectlite.Value.IsNil" 0) ReflectliteValue.isNil) Tryz.func83 (by kernel_rfl) (by kernel_rfl) (by kernel_rfl) (by kernel_rfl)
  have h4 := @run_callFunc_extern Tryz.prog 140 _ (ReflectliteType.abiMethod fun t => do pure (.int .u8 (← Rtype.kind t))) Tryz.func140 (by kernel_rfl) (by kernel_rfl) (by kernel_rfl) (by kernel_rfl)
  have h5 := @run_callFunc_extern Tryz.prog 152 _ (ReflectliteType.method ReflectliteType.elem) Tryz.func152 (by kernel_rfl) (by kernel_rfl) (by kernel_rfl) (by kernel_rfl)
  have h6 := @run_callFunc_extern Tryz.prog 153 _ (ReflectliteType.relation "Implements" ReflectliteType.implements_) Tryz.func153 (by kernel_rfl) (by kernel_rfl) (by kernel_rfl) (by kernel_rfl)
  have h7 := @run_callFunc_extern Tryz.prog 85 _ ReflectliteType.typeOf Tryz.func85 (by kernel_rfl) (by kernel_rfl) (by kernel_rfl) (by kernel_rfl)
  have h8 := @run_callFunc_extern Tryz.prog 150 _ (ReflectliteType.relation "AssignableTo" ReflectliteType.assignableTo) Tryz.func150 (by kernel_rfl) (by kernel_rfl) (by kernel_rfl) (by kernel_rfl)
  have h9 := @run_callFunc_extern Tryz.prog 98 _ (ReflectliteValue.method (ReflectliteValue.valueError "reflectlite.Value.Elem" 0) ReflectliteValue.elem) Tryz.func98 (by kernel_rfl) (by kernel_rfl) (by kernel_rfl) (by kernel_rfl)
  have h10 := @run_callFunc_extern Tryz.prog 99 _ ReflectliteValue.set Tryz.func99 (by kernel_rfl) (by kernel_rfl) (by kernel_rfl) (by kernel_rfl)
  have f1 := asTypeOf
  have f2 := asMAssign
  have f3 := asAssign
  have f4 := asValueF
  have f5 := asValueFF
  have f6 := asType
  have f7 := asMKind
  have f8 := asMElem
  have f9 := asMImpl
  have f10 := asKindFF
  have f11 := asKindF
  have f12 := asElem
  have f13 := asImpl
  have n1 := asIsNil ⟨w.heap.size, 0, none⟩ t ((w.alloc (.cells #[.pointer (some t)] 103)).alloc (.cells #[hFF, .pointer (some ⟨w.heap.size, 0, none⟩), .int .u64 150] 127)) (by simp)
  have hlt := World.block_lt_of_cell? _ _ hg
  have htl := World.block_lt_of_cell? _ _ ht0
  have hg2 : ((w.alloc (.cells #[.pointer (some t)] 103)).alloc (.cells #[hFF, .pointer (some ⟨w.heap.size, 0, none⟩), .int .u64 150] 127)).cell? ⟨4, 0, none⟩ = some (.iface 147 (.agg #[.pointer (some ⟨9, 49, none⟩)])) := by
    have hlt' : 4 < w.heap.size := hlt
    rw [World.cell?_alloc_lt _ _ ⟨4, 0, none⟩ (by simp; omega), World.cell?_alloc_lt _ _ ⟨4, 0, none⟩ hlt']; exact hg
  have el := asElemV ⟨w.heap.size, 0, none⟩ t (((w.alloc (.cells #[.pointer (some t)] 103)).alloc (.cells #[hFF, .pointer (some ⟨w.heap.size, 0, none⟩), .int .u64 150] 127)).alloc (.cells #[hFF, .pointer (some ⟨w.heap.size, 0, none⟩), .int .u64 150] 127)) (by rw [World.cell?_alloc_lt _ _ ⟨w.heap.size, 0, none⟩ (by simp; omega)]; simp)
  have st := asSet t ⟨w.heap.size + 1 + 1 + 1, 0, none⟩ e old ((((w.alloc (.cells #[.pointer (some t)] 103)).alloc (.cells #[hFF, .pointer (some ⟨w.heap.size, 0, none⟩), .int .u64 150] 127)).alloc (.cells #[hFF, .pointer (some ⟨w.heap.size, 0, none⟩), .int .u64 150] 127)).alloc (.cells #[.pointer (some e)] 74))
    (by rw [World.cell?_alloc_at _ _ _ _ (by simp)]; rfl)
    (by rw [World.cell?_alloc_lt _ _ t (by simp; omega), World.cell?_alloc_lt _ _ t (by simp; omega), World.cell?_alloc_lt _ _ t (by simp; omega), World.cell?_alloc_lt _ _ t htl]; exact ht0)
    (by rw [World.frozen?_alloc_old _ _ t (by simp; omega), World.frozen?_alloc_old _ _ t (by simp; omega), World.frozen?_alloc_old _ _ t (by simp; omega), World.frozen?_alloc_old _ _ t (Nat.ne_of_lt htl)]; exact hf0)
  go_enter Tryz.func65, Tryz.ntmps65
  go_wp2
  refine wp_loop_rounds 1 ?_
  rw [rounds_succ]
  go_wp2
  go_ret
  exact ⟨rfl, rfl⟩
/-- .. in one word on the worlds: the target's block alone has turned. -/
theorem as_found (e : Addr) (b : Nat) (old : Value) (w : World) (hg : Se.Typ w) (hb : Bo.Box w b #[old]) :
    Calls Tryz.prog 65 #[.iface 74 (.pointer (some e)), .iface 103 (.pointer (some ⟨b, 0, none⟩))] w fun ev w' => ev = .returned (.bool true) ∧ w'.cell? ⟨b, 0, none⟩ = some (.pointer (some e)) ∧ Only b w w' := by
  refine (as_hit e ⟨b, 0, none⟩ old w hg (hb.c 0 rfl) (hb.fr 0)).mono ?_
  rintro ev w' ⟨rfl, rfl⟩
  refine ⟨rfl, ?_, (((((Only.refl b w).alloc _).alloc _).alloc _).alloc _).setCell 0 _⟩
  have hlt := hb.lt
  refine World.cell?_setCell_same' _ _ _ ?_
  rw [World.cell?_alloc_lt _ _ ⟨b, 0, none⟩ (by simp; omega), World.cell?_alloc_lt _ _ ⟨b, 0, none⟩ (by simp; omega), World.cell?_alloc_lt _ _ ⟨b, 0, none⟩ (by simp; omega), World.cell?_alloc_lt _ _ ⟨b, 0, none⟩ hlt, hb.c 0 rfl]
  rfl
end Go.Proofs.YtciikondckoboaaGreatDoor.Er
namespace Go.Proofs.YtciikondckoboaaGreatDoor.Dd
open Go.ChangeShapes Go.WideShapes Go.ChangeAt Go.RowKit
open Cv Cu Sg
open Go.Proofs.YtciikondckoboaaGreatDoor.Pt (Ln lat)
open Go.Proofs.YtciikondckoboaaGreatDoor.Bo (Box Box.new Box.newAt Box.kept Box.alloc Box.put Box.other Box.c Box.drew)
set_option linter.unusedVariables false
theorem at_beside {w w' : World} {g c : Nat} {a : Addr} (h : Se.At w g a) (k : Only c w w') (hne : ¬ g = c) : Se.At w' g a := by
  unfold Se.At at h ⊢
  rw [k.cell (p := ⟨g, 0, none⟩) (World.block_lt_of_cell? _ _ h) hne]
  exact h
/-- Is it the fault of the part Key? -/
def isKey (r : Option (ByteArray × Addr)) : Bool := match r with
  | none => false
  | some x => decide (x.1 = keyS)
set_option maxRecDepth 100000 in
set_option maxHeartbeats 4000000 in
theorem impl_byAnother (v : Value) (r : Option (ByteArray × Addr)) (eO : Addr) (w : World) (hR : Se.Res w v r) (hT : Se.Typ w) (hO : Se.At w 2 eO) (hr : ∀ a, r = some (keyS, a) → a = eO) :
    Calls Tryz.prog 43 #[v] w fun e w' => e = .returned (.bool (isKey r)) ∧ Below w.heap.size w w' := by
  have HB := hidIt ((Below.refl w.heap.size w).alloc (Nat.le_refl _) (.cells #[.pointer none] 74))
  rcases hR with ⟨rfl, rfl⟩ | ⟨p, a, b, rfl, rfl, hX⟩
  · have CN := hidIt (fun t W => Er.as_nil t W)
    have ek : isKey none = false := rfl
    rw [ek]
    clear hT hO hr ek
    go_enter Tryz.func43, Tryz.ntmps43
    go_wp2_with (go_at_call 65; refine (CN.out _ _).mono ?_; rintro e w1 ⟨rfl, rfl⟩)
    go_ret
    exact ⟨rfl, HB.out⟩
  · have BT := hidIt (Box.new w #[.pointer none] 74)
    have BX := hidIt (hX.kept HB.out)
    have CA := hidIt (Er.as_found ⟨b, 0, none⟩ w.heap.size (.pointer none) _ (hT.kept HB.out) BT.out)
    have hne : ¬ b = w.heap.size := by have := hX.lt; omega
    have hgn : ¬ 2 = w.heap.size := by have : 2 < w.heap.size := World.block_lt_of_cell? _ _ hO; omega
    have H3 := hidIt (hO.kept HB.out)
    clear hT hX BT
    have ek : isKey (some (p, a)) = decide (p = keyS) := rfl
    rw [ek]
    clear ek
    by_cases hp : p = keyS
    · subst hp
      obtain rfl := hr a rfl
      rw [decide_eq_true rfl]
      clear hr hO
      go_enter Tryz.func43, Tryz.ntmps43
      go_wp2_with (fail)
      refine CA.out.mono ?_
      rintro e w1 ⟨rfl, ct, hOn⟩
      have HB1 := hidIt (HB.out.trans (hOn.below (B := w.heap.size) (Nat.le_refl _) HB.out.size))
      have BX1 := hidIt (box_beside BX.out hOn hne)
      have cO := (at_beside H3.out hOn hgn).c
      clear hOn HB BX CA H3
      have c0 := BX1.out.c 0 (v := .string keyS) rfl
      have CI := hidIt (Er.is_wrap_same b a w1 (BX1.out.c 1 rfl))
      go_wp2_with (go_at_call 66; refine CI.out.mono ?_; rintro e w2 ⟨rfl, rfl⟩)
      go_ret
      exact ⟨rfl, HB1.out⟩
    · rw [decide_eq_false hp]
      clear hr hO
      have hpp : (p.toList == [75, 101, 121]) = false := by
        have e : (⟨#[75, 101, 121]⟩ : ByteArray).toList = [75, 101, 121] := by rw [Go.Lib.toList_data]
        rw [← e, Nm.toList_beq]
        exact decide_eq_false (fun k => hp (Nm.bs_inj k))
      go_enter Tryz.func43, Tryz.ntmps43
      go_wp2_with (fail)
      refine CA.out.mono ?_
      rintro e w1 ⟨rfl, ct, hOn⟩
      have HB1 := hidIt (HB.out.trans (hOn.below (B := w.heap.size) (Nat.le_refl _) HB.out.size))
      have BX1 := hidIt (box_beside BX.out hOn hne)
      clear hOn HB BX CA H3 hp
      have c0 := BX1.out.c 0 (v := .string p) rfl
      go_wp2_with (fail)
      go_ret
      exact ⟨rfl, HB1.out⟩
set_option maxRecDepth 100000 in
set_option maxHeartbeats 4000000 in
theorem impl_sealFaultBy (x y K1 K2 u R1 R2 T : Int) (s : ByteArray) (now : Int) (eN eV eO : Addr) (w : World) (ht : Tab w) (hN : Se.At w 0 eN) (hV : Se.At w 1 eV) (hO : Se.At w 2 eO) (hs : s.size ≤ 4611686018427370000) :
    Calls Tryz.prog 42 #[.agg #[.int .i64 x, .int .i64 y], sv K1 K2 u R1 R2 T, .string s, .int .i64 now] w fun e w' => ∃ v r, e = .returned v ∧ Se.Res w' v r ∧ r.isNone = (decide (x = K1 ∧ y = K2) && holdsB K1 K2 u R1 R2 T s now) ∧ isKey r = !decide (x = K1 ∧ y = K2) ∧ (∀ a, r = some (keyS, a) → a = eO) ∧ Below w.heap.size w w' := by
  have HB : Hid (Below w.heap.size w ((w.alloc (.cells #[.int .i64 x, .int .i64 y] 26)).alloc (.cells (sc K1 K2 u R1 R2 T) 30))) := hidIt (((Below.refl w.heap.size w).alloc (Nat.le_refl _) _).alloc (by simp) _)
  have CF := hidIt (impl_sealFault K1 K2 u R1 R2 T s now eN eV eO _ (ht.kept HB.out) (hN.kept HB.out) (hV.kept HB.out) (hO.kept HB.out) hs)
  have cO := (hO.kept HB.out).c
  clear ht hN hV hO
  generalize holdsB K1 K2 u R1 R2 T s now = h at CF ⊢
  by_cases h1 : x = K1
  · subst h1
    have e1 : (x == x) = true := by simp
    by_cases h2 : y = K2
    · subst h2
      have e2 : (y == y) = true := by simp
      go_enter Tryz.func42, Tryz.ntmps42
      go_wp2_with (go_at_call 32; refine CF.out.mono ?_; rintro e w1 ⟨v, r, rfl, hR, hr, hk, k⟩; have HB1 := hidIt (HB.out.trans (k.mono HB.out.size)); have HR := hidIt hR; have Hr := hidIt hr; have Hk := hidIt hk; clear hR hr hk k)
      go_ret
      refine ⟨v, r, rfl, HR.out, ?_, ?_, fun a e => absurd rfl (Hk.out _ e), HB1.out⟩
      · rw [Hr.out]; simp
      · cases r with
        | none => simp [isKey]
        | some q => simp [isKey]; exact Hk.out q rfl
    · have e2 : (K2 == y) = false := by simp; exact fun h => h2 h.symm
      go_enter Tryz.func42, Tryz.ntmps42
      go_wp2_with (fail)
      go_ret
      refine ⟨_, some (keyS, eO), rfl, Se.Res.newAt (by simp), ?_, ?_, fun a e => by cases e; rfl, HB.out.alloc HB.out.size _⟩
      · simp [h2]
      · simp [isKey, h2]
  · have e1 : (K1 == x) = false := by simp; exact fun h => h1 h.symm
    go_enter Tryz.func42, Tryz.ntmps42
    go_wp2_with (fail)
    go_ret
    refine ⟨_, some (keyS, eO), rfl, Se.Res.newAt (by simp), ?_, ?_, fun a e => by cases e; rfl, HB.out.alloc HB.out.size _⟩
    · simp [h1]
    · simp [isKey, h1]
set_option maxRecDepth 100000 in
set_option maxHeartbeats 4000000 in
theorem impl_sealFaultByAny (a : Option Addr) (cap : Nat) (L : List Ln) (K1 K2 u R1 R2 T : Int) (s : ByteArray) (now : Int) (eN eV eO : Addr) (w : World) (h : Pt.Rd w a L) (ht : Tab w) (hT : Se.Typ w) (hN : Se.At w 0 eN) (hV : Se.At w 1 eV) (hO : Se.At w 2 eO) (hs : s.size ≤ 4611686018427370000) (hl : L.length ≤ 9223372036854775806) :
    Calls Tryz.prog 22 #[.slice a L.length cap, sv K1 K2 u R1 R2 T, .string s, .int .i64 now] w fun e w' => ∃ v r, e = .returned v ∧ Se.Res w' v r ∧ r.isNone = (hasB L K1 K2 && holdsB K1 K2 u R1 R2 T s now) ∧ Below w.heap.size w w' := by
  have hall : Hid (∀ i, i < L.length → lat L i = (K1, K2) → hasB L K1 K2 = true) := hidIt (fun i hi e => has_yes hi e)
  have hnone : Hid ((∀ i, i < L.length → lat L i ≠ (K1, K2)) → hasB L K1 K2 = false) := hidIt has_no
  generalize hasB L K1 K2 = hb at hall hnone ⊢
  have CF := hidIt (fun x y W t h1 h2 h3 => impl_sealFaultBy x y K1 K2 u R1 R2 T s now eN eV eO W t h1 h2 h3 hs)
  have CB := hidIt (fun v r W h1 h2 h3 h4 => impl_byAnother v r eO W h1 h2 h3 h4)
  generalize holdsB K1 K2 u R1 R2 T s now = hh at CF ⊢
  have HR := hidIt h
  have HT := hidIt ht
  have HY := hidIt hT
  have H1 := hidIt hN
  have H2 := hidIt hV
  have H3 := hidIt hO
  have B1 := hidIt ((Below.refl w.heap.size w).alloc (Nat.le_refl _) (.cells (sc K1 K2 u R1 R2 T) 30))
  have cN := (hN.kept B1.out).c
  have BS := hidIt (Box.new w (sc K1 K2 u R1 R2 T) 30)
  clear h ht hT hN hV hO
  have HB0 := hidIt (B1.out.alloc B1.out.size (.cells #[.string ⟨#[75, 101, 121, 115]⟩, .iface 187 (.pointer (some eN))] 76))
  have BS0 := hidIt (BS.out.alloc (.cells #[.string ⟨#[75, 101, 121, 115]⟩, .iface 187 (.pointer (some eN))] 76))
  have R0 : Hid (Se.Res ((w.alloc (.cells (sc K1 K2 u R1 R2 T) 30)).alloc (.cells #[.string ⟨#[75, 101, 121, 115]⟩, .iface 187 (.pointer (some eN))] 76)) (.iface 74 (.pointer (some ⟨w.heap.size + 1, 0, none⟩))) (some (⟨#[75, 101, 121, 115]⟩, eN))) := hidIt (Se.Res.newAt (by simp))
  generalize hn : L.length = n at *
  have HL := hidIt hn
  clear hn B1 BS
  go_enter Tryz.func22, Tryz.ntmps22
  go_wp2_with (fail)
  clear cN
  go_loopw [9, 18] (fun z y wx => ∃ (i : Nat) (r : Option (ByteArray × Addr)), y = .int .i64 i ∧ i ≤ n ∧ Hid (∀ j, j < i → lat L j ≠ (K1, K2)) ∧ Hid (Se.Res wx z r ∧ r.isNone = false) ∧ Hid (Below w.heap.size w wx) ∧ Hid (Box wx w.heap.size (sc K1 K2 u R1 R2 T))) (fun _ y _ => (n - intOf y).toNat)
  case atStart => exact ⟨0, _, rfl, by omega, hidIt (fun j hj => by omega), hidIt ⟨R0.out, rfl⟩, HB0, BS0⟩
  case round =>
    obtain ⟨i, r, rfl, hi, HE, HQ, HB, HX⟩ := hrel
    rcases Nat.lt_or_ge i n with hin | hin
    · have g2 : (i : Int) < (n : Int) := by omega
      obtain ⟨b, off, rfl, c0, c1⟩ := (HR.out.kept HB.out).cell i (by rw [HL.out]; exact hin)
      have HE' : Hid (lat L i ≠ (K1, K2) → ∀ j, j < i + 1 → lat L j ≠ (K1, K2)) := hidIt (fun e j hj => by
        rcases Nat.lt_succ_iff_lt_or_eq.1 hj with h | h
        · exact HE.out j h
        · subst h; exact e)
      have HA := hidIt (hall.out i hin)
      generalize lat L i = p at *
      obtain ⟨px, py⟩ := p
      simp only at c0 c1
      have kA := (Below.refl wr.heap.size wr).alloc (Nat.le_refl _) (.cells #[.int .i64 px, .int .i64 py] 26)
      have HB2 := hidIt (HB.out.trans (kA.mono HB.out.size))
      have HX2 := hidIt (HX.out.kept kA)
      clear kA
      have s0 := HX2.out.c 0 (v := .int .i64 K1) rfl
      have s1 := HX2.out.c 1 (v := .int .i64 K2) rfl
      have s2 := HX2.out.c 2 (v := .int .i64 u) rfl
      have s3 := HX2.out.c 3 (v := .int .i64 R1) rfl
      have s4 := HX2.out.c 4 (v := .int .i64 R2) rfl
      have s5 := HX2.out.c 5 (v := .int .i64 T) rfl
      go_wp2_with (fail)
      refine (CF.out px py _ (HT.out.kept HB2.out) (H1.out.kept HB2.out) (H2.out.kept HB2.out) (H3.out.kept HB2.out)).mono ?_
      rintro e w1 ⟨v1, r1, rfl, hR1, hr1, hk1, ha1, k⟩
      replace HB2 := hidIt (HB2.out.trans (k.mono HB2.out.size))
      replace HX2 := hidIt (HX2.out.kept k)
      have HR1 := hidIt hR1
      have Hr1 := hidIt hr1
      have CK := hidIt (CB.out v1 r1 w1 hR1 (HY.out.kept HB2.out) (H3.out.kept HB2.out) ha1)
      clear k s0 s1 s2 s3 s4 s5 hR1 hr1 ha1
      by_cases hp : px = K1 ∧ py = K2
      · rw [decide_eq_true hp] at hk1 Hr1
        rw [hk1] at CK
        have er := hidIt (HA.out (by rw [hp.1, hp.2]))
        clear hp hk1 HA HE'
        go_wp2_with (fail)
        refine CK.out.mono ?_
        rintro e w2 ⟨rfl, k⟩
        have HB3 := hidIt (HB2.out.trans (k.mono HB2.out.size))
        have HR3 := hidIt (HR1.out.kept k)
        clear k
        go_wp2_with (fail)
        go_ret
        exact ⟨v1, r1, rfl, HR3.out, by rw [er.out]; exact Hr1.out, HB3.out⟩
      · rw [decide_eq_false hp] at hk1 Hr1
        rw [hk1] at CK
        have HE2 := hidIt (HE'.out (fun e => hp ⟨(Prod.mk.inj e).1, (Prod.mk.inj e).2⟩))
        clear hp hk1 HA HE'
        go_wp2_with (fail)
        refine CK.out.mono ?_
        rintro e w2 ⟨rfl, k⟩
        have HB3 := hidIt (HB2.out.trans (k.mono HB2.out.size))
        have HX3 := hidIt (HX2.out.kept k)
        have HR3 := hidIt (HR1.out.kept k)
        clear k
        go_wp2_with (fail)
        exact ⟨⟨i + 1, r1, by simp, by omega, HE2, hidIt ⟨HR3.out, by rw [Hr1.out]; rfl⟩, HB3, HX3⟩, by simp [intOf]; omega⟩
    · have g2 : ¬ (i : Int) < (n : Int) := by omega
      have e : i = n := by omega
      subst e
      have er := hidIt (hnone.out HE.out)
      go_wp2_with (fail)
      go_ret
      first | exact ⟨_, r, rfl, HQ.out.1, by rw [er.out]; exact HQ.out.2, HB.out⟩ | exact ⟨_, rfl, r, HQ.out.1, by rw [er.out]; exact HQ.out.2, HB.out⟩
set_option maxRecDepth 100000 in
set_option maxHeartbeats 4000000 in
theorem impl_dsFault (ds : Int) (z : ByteArray) (v : Value) (k1 k2 u r1 r2 t : Int) (eN eO : Addr) (w : World) (ht : Tab w) (hN : Se.At w 0 eN) (hO : Se.At w 2 eO) (hv : ∃ a n c, v = .slice a n c) :
    Calls Tryz.prog 40 #[.int .i64 ds, dv z v k1 k2 u r1 r2 t] w fun e w' => ∃ x r, e = .returned x ∧ Se.Res w' x r ∧ r.isNone = (decide (0 ≤ dsB z k1 k2) && decide (ds = dsB z k1 k2)) ∧ Below w.heap.size w w' := by
  have HB : Hid (Below w.heap.size w (w.alloc (.cells (dc z v k1 k2 u r1 r2 t) 32))) := hidIt ((Below.refl w.heap.size w).alloc (Nat.le_refl _) _)
  have CD := hidIt (impl_dsOf z v k1 k2 u r1 r2 t eN _ (ht.kept HB.out) (hN.kept HB.out) hv)
  obtain ⟨a, n, cap, rfl⟩ := hv
  have H3 := hidIt hO
  clear ht hN hO
  generalize dsB z k1 k2 = D at CD ⊢
  go_enter Tryz.func40, Tryz.ntmps40
  go_wp2_with (fail)
  refine CD.out.mono ?_
  rintro e w1 ⟨x, r, rfl, hR, hr, k⟩
  replace HB := hidIt (HB.out.trans (k.mono HB.out.size))
  clear k CD
  rcases hR with ⟨rfl, rfl⟩ | ⟨p, a', b, rfl, rfl, hX⟩
  · have hD : Hid (decide (0 ≤ D) = true) := hidIt hr.symm
    clear hr
    by_cases hE : ds = D
    · subst hE
      have e1 : (ds != ds) = false := by simp
      go_wp2_with (fail)
      go_ret
      first | exact ⟨_, _, rfl, Se.Res.none _, by rw [hD.out]; simp, HB.out⟩ | exact ⟨_, rfl, _, Se.Res.none _, by rw [hD.out]; simp, HB.out⟩
    · have e1 : (D != ds) = true := by simp; exact fun h => hE h.symm
      have cO := (H3.out.kept HB.out).c
      go_wp2_with (fail)
      go_ret
      exact ⟨_, some (_, _), rfl, Se.Res.newAt rfl, by simp [hE], HB.out.alloc HB.out.size _⟩
  · have hD : Hid (decide (0 ≤ D) = false) := hidIt hr.symm
    have HX := hidIt hX
    clear hr hX
    go_wp2_with (fail)
    go_ret
    exact ⟨_, some (p, a'), rfl, .inr ⟨p, a', b, rfl, rfl, HX.out⟩, by rw [hD.out]; simp, HB.out⟩
theorem size_text {z : ByteArray} {L : List Ln} (hz : z.size ≤ 60) (hk : keysB L = true) : (z ++ Sg.blank ++ keysT L).size ≤ 4611686018427370000 := by
  have := keysT_size L
  rw [ByteArray.size_append, ByteArray.size_append, Sg.blank_size]
  omega
/-- Is the Deed one that holds by this ds? -/
def deedB (ds : Int) (z : ByteArray) (L : List Ln) (k1 k2 u r1 r2 t now : Int) : Bool :=
  (decide (0 ≤ dsB z k1 k2) && decide (ds = dsB z k1 k2)) && (keysB L && (hasB L k1 k2 && holdsB k1 k2 u r1 r2 t (z ++ Sg.blank ++ keysT L) now))
set_option maxRecDepth 100000 in
set_option maxHeartbeats 4000000 in
theorem impl_deedFault (ds : Int) (z : ByteArray) (a : Option Addr) (cap : Nat) (L : List Ln) (k1 k2 u r1 r2 t now : Int) (eN eM eV eO : Addr) (w : World) (h : Pt.Rd w a L) (ht : Tab w) (hT : Se.Typ w) (hN : Se.At w 0 eN) (hM : Se.At w 3 eM) (hV : Se.At w 1 eV) (hO : Se.At w 2 eO) (hl : L.length ≤ 9223372036854775806) :
    Calls Tryz.prog 21 #[.int .i64 ds, dv z (.slice a L.length cap) k1 k2 u r1 r2 t, .int .i64 now] w fun e w' => ∃ x r, e = .returned x ∧ Se.Res w' x r ∧ r.isNone = deedB ds z L k1 k2 u r1 r2 t now ∧ Below w.heap.size w w' := by
  have hds : Hid ((decide (0 ≤ dsB z k1 k2) && decide (ds = dsB z k1 k2)) = true → z.size ≤ 60) := hidIt (fun e => by
    rcases dsB_cases z k1 k2 with h | ⟨_, h⟩
    · rw [h] at e
      simp at e
    · exact h)
  unfold deedB
  have BA := hidIt (Box.new w (dc z (.slice a L.length cap) k1 k2 u r1 r2 t) 32)
  have HB : Hid (Below w.heap.size w (w.alloc (.cells (dc z (.slice a L.length cap) k1 k2 u r1 r2 t) 32))) := hidIt ((Below.refl w.heap.size w).alloc (Nat.le_refl _) _)
  have CD := hidIt (impl_dsFault ds z (.slice a L.length cap) k1 k2 u r1 r2 t eN eO _ (ht.kept HB.out) (hN.kept HB.out) (hO.kept HB.out) ⟨_, _, _, rfl⟩)
  have CK := hidIt (fun W h t h1 h2 => impl_keysText a cap L eN eM W h t h1 h2 hl)
  have CS : Hid (z.size ≤ 60 → keysB L = true → ∀ W, Pt.Rd W a L → Tab W → Se.Typ W → Se.At W 0 eN → Se.At W 1 eV → Se.At W 2 eO →
      Calls Tryz.prog 22 #[.slice a L.length cap, sv k1 k2 u r1 r2 t, .string (z ++ ⟨#[32]⟩ ++ keysT L), .int .i64 now] W fun e w' => ∃ v r, e = .returned v ∧ Se.Res w' v r ∧ r.isNone = (hasB L k1 k2 && holdsB k1 k2 u r1 r2 t (z ++ Sg.blank ++ keysT L) now) ∧ Below W.heap.size W w') :=
    hidIt (fun hz hk W h1 h2 h3 h4 h5 h6 => impl_sealFaultByAny a cap L k1 k2 u r1 r2 t (z ++ Sg.blank ++ keysT L) now eN eV eO W h1 h2 h3 h4 h5 h6 (size_text hz hk) hl)
  have hks := keysT_size L
  have HR := hidIt h
  have HT := hidIt ht
  have HY := hidIt hT
  have H1 := hidIt hN
  have H2 := hidIt hM
  have H3 := hidIt hV
  have H4 := hidIt hO
  clear h ht hT hN hM hV hO
  generalize (decide (0 ≤ dsB z k1 k2) && decide (ds = dsB z k1 k2)) = D at CD hds ⊢
  generalize holdsB k1 k2 u r1 r2 t (z ++ Sg.blank ++ keysT L) now = hd at CS ⊢
  generalize hasB L k1 k2 = ha at CS ⊢
  generalize keysT L = tx at CK CS hks
  generalize keysB L = kb at CK CS ⊢
  generalize hn : L.length = n at *
  clear hn
  have a0 := BA.out.c 0 (v := .string z) rfl
  have a1 := BA.out.c 1 (v := .slice a n cap) rfl
  have a2 := BA.out.c 2 (v := .int .i64 k1) rfl
  have a3 := BA.out.c 3 (v := .int .i64 k2) rfl
  have a4 := BA.out.c 4 (v := .int .i64 u) rfl
  have a5 := BA.out.c 5 (v := .int .i64 r1) rfl
  have a6 := BA.out.c 6 (v := .int .i64 r2) rfl
  have a7 := BA.out.c 7 (v := .int .i64 t) rfl
  go_enter Tryz.func21, Tryz.ntmps21
  go_wp2_with (fail)
  refine CD.out.mono ?_
  rintro e w1 ⟨x, r, rfl, hR, hr, k⟩
  replace BA := hidIt (BA.out.kept k)
  replace HB := hidIt (HB.out.trans (k.mono HB.out.size))
  clear k a0 a1 a2 a3 a4 a5 a6 a7 CD
  rcases hR with ⟨rfl, rfl⟩ | ⟨p, a', b, rfl, rfl, hX⟩
  · have hD : Hid (D = true) := hidIt hr.symm
    replace CS := hidIt (CS.out (hds.out hD.out))
    have hz := hds.out hD.out
    clear hr hds
    have a1 := BA.out.c 1 (v := .slice a n cap) rfl
    go_wp2_with (fail)
    refine (CK.out _ (HR.out.kept HB.out) (HT.out.kept HB.out) (H1.out.kept HB.out) (H2.out.kept HB.out)).mono ?_
    rintro e w2 ⟨x, r, rfl, hR, hr, k⟩
    replace BA := hidIt (BA.out.kept k)
    replace HB := hidIt (HB.out.trans (k.mono HB.out.size))
    clear k a1 CK
    rcases hR with ⟨rfl, rfl⟩ | ⟨p, a', b, rfl, rfl, hX⟩
    · have hK : Hid (kb = true) := hidIt hr.symm
      replace CS := hidIt (CS.out hK.out)
      clear hr
      have a0 := BA.out.c 0 (v := .string z) rfl
      have a1 := BA.out.c 1 (v := .slice a n cap) rfl
      have a2 := BA.out.c 2 (v := .int .i64 k1) rfl
      have a3 := BA.out.c 3 (v := .int .i64 k2) rfl
      have a4 := BA.out.c 4 (v := .int .i64 u) rfl
      have a5 := BA.out.c 5 (v := .int .i64 r1) rfl
      have a6 := BA.out.c 6 (v := .int .i64 r2) rfl
      have a7 := BA.out.c 7 (v := .int .i64 t) rfl
      have q0 : (⟨#[32]⟩ : ByteArray).size = 1 := rfl
      have q1 : ¬ 9223372036854775807 < z.size + 1 := by omega
      have q2 : ¬ 9223372036854775807 < z.size + 1 + tx.size := by omega
      go_wp2_with (fail)
      refine (CS.out _ (HR.out.kept HB.out) (HT.out.kept HB.out) (HY.out.kept HB.out) (H1.out.kept HB.out) (H3.out.kept HB.out) (H4.out.kept HB.out)).mono ?_
      rintro e w3 ⟨x, r, rfl, hR, hr, k⟩
      replace HB := hidIt (HB.out.trans (k.mono HB.out.size))
      have HRR := hidIt hR
      have Hr := hidIt hr
      clear k hR hr a0 a1 a2 a3 a4 a5 a6 a7 CS
      go_wp2_with (fail)
      go_ret
      exact ⟨x, r, rfl, HRR.out, by rw [Hr.out, hD.out, hK.out]; rfl, HB.out⟩
    · have hK : Hid (kb = false) := hidIt hr.symm
      have HX := hidIt hX
      clear hr hX CS
      go_wp2_with (fail)
      go_ret
      exact ⟨_, some (p, a'), rfl, .inr ⟨p, a', b, rfl, rfl, HX.out⟩, by rw [hD.out, hK.out]; rfl, HB.out⟩
  · have hD : Hid (D = false) := hidIt hr.symm
    have HX := hidIt hX
    clear hr hX CS CK
    go_wp2_with (fail)
    go_ret
    exact ⟨_, some (p, a'), rfl, .inr ⟨p, a', b, rfl, rfl, HX.out⟩, by rw [hD.out]; rfl, HB.out⟩
theorem trust_eq (ds : Int) (z : ByteArray) (L : List Ln) (k1 k2 u r1 r2 t K1 K2 U R1 R2 T : Int) (s : ByteArray) (now : Int) :
    (deedB ds z L k1 k2 u r1 r2 t now && (hasB L K1 K2 && holdsB K1 K2 U R1 R2 T s now)) = trustB ds z L k1 k2 u r1 r2 t K1 K2 U R1 R2 T s now := by
  unfold deedB trustB
  by_cases h0 : L.length = 0
  · have e : L = [] := List.length_eq_zero_iff.1 h0
    subst e
    have e1 : hasB [] k1 k2 = false := by simp [hasB]
    rw [e1]
    simp
  · rw [decide_eq_false h0]
    cases hk : keysB L with
    | false => simp
    | true =>
      rw [keysT_yes hk]
      cases decide (0 ≤ dsB z k1 k2) <;> cases decide (ds = dsB z k1 k2) <;> cases hasB L k1 k2 <;> cases holdsB k1 k2 u r1 r2 t (z ++ Sg.blank ++ ktx L) now <;> rfl
set_option maxRecDepth 100000 in
set_option maxHeartbeats 4000000 in
theorem impl_Trusted (ds : Int) (z : ByteArray) (a : Option Addr) (cap : Nat) (L : List Ln) (k1 k2 u r1 r2 t K1 K2 U R1 R2 T : Int) (s : ByteArray) (now : Int) (eN eM eV eO : Addr) (w : World) (h : Pt.Rd w a L) (ht : Tab w) (hT : Se.Typ w) (hN : Se.At w 0 eN) (hM : Se.At w 3 eM) (hV : Se.At w 1 eV) (hO : Se.At w 2 eO) (hl : L.length ≤ 9223372036854775806) (hs : s.size ≤ 4611686018427370000) :
    Calls Tryz.prog 6 #[.int .i64 ds, dv z (.slice a L.length cap) k1 k2 u r1 r2 t, sv K1 K2 U R1 R2 T, .string s, .int .i64 now] w fun e w' => e = .returned (.bool (trustB ds z L k1 k2 u r1 r2 t K1 K2 U R1 R2 T s now)) ∧ Below w.heap.size w w' := by
  rw [← trust_eq]
  have BA : Hid (Box ((w.alloc (.cells (dc z (.slice a L.length cap) k1 k2 u r1 r2 t) 32)).alloc (.cells (sc K1 K2 U R1 R2 T) 30)) w.heap.size (dc z (.slice a L.length cap) k1 k2 u r1 r2 t)) := hidIt ((Box.new w _ _).alloc _)
  have BB : Hid (Box ((w.alloc (.cells (dc z (.slice a L.length cap) k1 k2 u r1 r2 t) 32)).alloc (.cells (sc K1 K2 U R1 R2 T) 30)) (w.heap.size + 1) (sc K1 K2 U R1 R2 T)) := hidIt (Box.newAt (by simp))
  have HB : Hid (Below w.heap.size w ((w.alloc (.cells (dc z (.slice a L.length cap) k1 k2 u r1 r2 t) 32)).alloc (.cells (sc K1 K2 U R1 R2 T) 30))) := hidIt (((Below.refl w.heap.size w).alloc (Nat.le_refl _) _).alloc (by simp) _)
  have CD := hidIt (impl_deedFault ds z a cap L k1 k2 u r1 r2 t now eN eM eV eO _ (h.kept HB.out) (ht.kept HB.out) (hT.kept HB.out) (hN.kept HB.out) (hM.kept HB.out) (hV.kept HB.out) (hO.kept HB.out) hl)
  have CS := hidIt (fun W h1 h2 h3 h4 h5 h6 => impl_sealFaultByAny a cap L K1 K2 U R1 R2 T s now eN eV eO W h1 h2 h3 h4 h5 h6 hs hl)
  have HR := hidIt h
  have HT := hidIt ht
  have HY := hidIt hT
  have H1 := hidIt hN
  have H3 := hidIt hV
  have H4 := hidIt hO
  clear h ht hT hN hM hV hO
  generalize deedB ds z L k1 k2 u r1 r2 t now = D at CD ⊢
  generalize (hasB L K1 K2 && holdsB K1 K2 U R1 R2 T s now) = S at CS ⊢
  generalize hn : L.length = n at *
  clear hn
  have a0 := BA.out.c 0 (v := .string z) rfl
  have a1 := BA.out.c 1 (v := .slice a n cap) rfl
  have a2 := BA.out.c 2 (v := .int .i64 k1) rfl
  have a3 := BA.out.c 3 (v := .int .i64 k2) rfl
  have a4 := BA.out.c 4 (v := .int .i64 u) rfl
  have a5 := BA.out.c 5 (v := .int .i64 r1) rfl
  have a6 := BA.out.c 6 (v := .int .i64 r2) rfl
  have a7 := BA.out.c 7 (v := .int .i64 t) rfl
  go_enter Tryz.func6, Tryz.ntmps6
  go_wp2_with (fail)
  refine CD.out.mono ?_
  rintro e w1 ⟨x, r, rfl, hR, hr, k⟩
  replace BA := hidIt (BA.out.kept k)
  replace BB := hidIt (BB.out.kept k)
  replace HB := hidIt (HB.out.trans (k.mono HB.out.size))
  clear k a0 a1 a2 a3 a4 a5 a6 a7 CD
  rcases hR with ⟨rfl, rfl⟩ | ⟨p, a', b, rfl, rfl, hX⟩
  · have hD : Hid (D = true) := hidIt hr.symm
    clear hr
    have a1 := BA.out.c 1 (v := .slice a n cap) rfl
    have s0 := BB.out.c 0 (v := .int .i64 K1) rfl
    have s1 := BB.out.c 1 (v := .int .i64 K2) rfl
    have s2 := BB.out.c 2 (v := .int .i64 U) rfl
    have s3 := BB.out.c 3 (v := .int .i64 R1) rfl
    have s4 := BB.out.c 4 (v := .int .i64 R2) rfl
    have s5 := BB.out.c 5 (v := .int .i64 T) rfl
    generalize w.heap.size + 1 = n1 at *
    go_wp2_with (fail)
    refine (CS.out _ (HR.out.kept HB.out) (HT.out.kept HB.out) (HY.out.kept HB.out) (H1.out.kept HB.out) (H3.out.kept HB.out) (H4.out.kept HB.out)).mono ?_
    rintro e w2 ⟨x, r, rfl, hR, hr, k⟩
    replace HB := hidIt (HB.out.trans (k.mono HB.out.size))
    clear k a1 s0 s1 s2 s3 s4 s5 CS
    rcases hR with ⟨rfl, rfl⟩ | ⟨p, a', b, rfl, rfl, hX⟩
    · have hS : Hid (S = true) := hidIt hr.symm
      clear hr
      go_wp2_with (fail)
      go_ret
      exact ⟨by rw [hD.out, hS.out]; rfl, HB.out⟩
    · have hS : Hid (S = false) := hidIt hr.symm
      clear hr hX
      go_wp2_with (fail)
      go_ret
      exact ⟨by rw [hD.out, hS.out]; rfl, HB.out⟩
  · have hD : Hid (D = false) := hidIt hr.symm
    clear hr hX CS
    go_wp2_with (fail)
    go_ret
    exact ⟨by rw [hD.out]; rfl, HB.out⟩
end Go.Proofs.YtciikondckoboaaGreatDoor.Dd
