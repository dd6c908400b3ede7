/-
  The table of powers of ten that the library's numerals read: what the law's list says of it, and that it stays.
  strings.Builder of this program: what WriteString and String do with a builder of the call's own that holds the bytes l.
  KeyOf of the program and of the specification: the base, secret times; the zero Point and false when it is no secret.
  The hash in natural numbers: 17 at first; for each byte h becomes (1000003 h + the byte + 1) modulo 2147483647; for 5 bytes 0 more likewise.
  Hash: what the program's hash state, hasher and Hash answer and turn, and the specification's Hash.
-/
import Derived.Test.YtllajhieocploaaGreatDoorRows
import Derived.WalkKit
import Derived.ProofKit
import Derived.Below
import Derived.Lib.LaidTab
import Derived.Lib.SmallJoins
import Derived.Lib.Itoa
import Derived.LaidMore
import Derived.Stop.LaidErr
import Derived.Shelf.Strconv.Itoa4
import Derived.Test.YtllajhieocploaaGreatDoorShelf
import Derived.Test.YtllajhieocploaaGreatDoorMem
import Derived.Test.YtllajhieocploaaGreatDoorProg
import Derived.Lib.Builder
import Derived.Lib.AppendStr
import Derived.Laws.OwnMore
import Derived.OwnWalk
import Derived.Laws.AppendOwn
import Derived.Shelf.Strings.Builder1
import Derived.Test.YtllajhieocploaaGreatDoorShelf169
import Derived.Test.YtllajhieocploaaGreatDoorCurveX
import Derived.Test.YtllajhieocploaaGreatDoorField
import Derived.Deep.RegionWith
import Derived.Deep.Cut
namespace Go.Proofs.YtllajhieocploaaGreatDoor.Sg
open Go.ChangeShapes Go.WideShapes Go.ChangeAt Go.RowKit Go.Shelf
/-- The table of the powers of ten lies as the library lays it. -/
def Tab (w : World) : Prop := Lib.TabIs Tryz.prog w "internal/strconv.uint64pow10" .u64 Lib.pow10Tab
theorem gPow : Tryz.prog.globalNamed "internal/strconv.uint64pow10" = some 2 := by kernel_rfl
theorem tPow : (Tryz.prog.globals[2]?).map (·.type) = some 217 := by kernel_rfl
theorem Tab.kept {w w' : World} (h : Tab w) (k : Below w.heap.size w w') : Tab w' := Joins.tab_stays gPow h k (Nat.le_refl _)
theorem tab_of_laid {W : World} (h : laidMetH Tryz.prog [("math/bits.deBruijn32tab", Rows.laid_math_bits_deBruijn32tab), ("math/bits.deBruijn64tab", Rows.laid_math_bits_deBruijn64tab), ("internal/strconv.uint64pow10", Rows.laid_internal_strconv_uint64pow10)] W) : Tab W := by
  rw [MakeChecks.laidMetH_plain _ _ _ (by kernel_rfl)] at h
  exact Lib.tabIs_of_head gPow tPow Tryz.underlying217 Tryz.underlying205 (by kernel_rfl) (by kernel_rfl) (show laidMet Tryz.prog (("internal/strconv.uint64pow10", Lib.tabData .u64 Lib.pow10Tab) :: []) W from h.tail.tail)
theorem tab_of_plain {W : World} {r : List (String × DataW Unit)} (h : laidMet Tryz.prog (("math/bits.deBruijn32tab", Rows.laid_math_bits_deBruijn32tab) :: ("math/bits.deBruijn64tab", Rows.laid_math_bits_deBruijn64tab) :: ("internal/strconv.uint64pow10", Rows.laid_internal_strconv_uint64pow10) :: r) W) : Tab W :=
  Lib.tabIs_of_head gPow tPow Tryz.underlying217 Tryz.underlying205 (by kernel_rfl) (by kernel_rfl) (show laidMet Tryz.prog (("internal/strconv.uint64pow10", Lib.tabData .u64 Lib.pow10Tab) :: r) W from h.tail.tail)
theorem formatInt_any (n : Int) (h0 : -9223372036854775808 ≤ n) (h1 : n ≤ 9223372036854775807) (w : World) (htab : Tab w) :
    Calls Tryz.prog 122 #[.int .i64 n, .int .i64 10] w fun e w' => e = .returned (.string ⟨(Lib.itoa n).toArray⟩) ∧ Below w.heap.size w w' := by
  refine (Any.strconv_FormatInt_10 Tryz.lays173 n h0 h1 w htab).mono ?_
  rintro e w' ⟨rfl, k, os, rfl⟩
  exact ⟨rfl, ⟨rfl, rfl, rfl, by simp [World.drewN], fun i hi => Sort.heap_grow_old (w.drewN k) os hi⟩⟩
end Go.Proofs.YtllajhieocploaaGreatDoor.Sg
namespace Go.Proofs.YtllajhieocploaaGreatDoor.Bl
open Go.ChangeShapes Go.WideShapes Go.ChangeAt Go.RowKit
set_option linter.unusedVariables false
theorem hidIt {p : Prop} (h : p) : Hid p := h
/-- Block b holds a builder of the call's own that holds the bytes l. -/
def Bld (w : World) (B b : Nat) (l : List UInt8) : Prop := Lib.IsBuilder 177 5 B b (Lib.byteCells l) w
theorem Bld.new (w : World) : Bld (w.alloc (.cells #[.pointer none, .slice none 0 0] 177)) w.heap.size w.heap.size [] := Lib.fresh_isBuilder _ _ w
theorem Bld.kept {w w' : World} {B b : Nat} {l : List UInt8} (h : Bld w B b l) (k : Below w.heap.size w w') : Bld w' B b l := by
  have one : ∀ p, Lib.BuilderAt 177 5 B b p (Lib.byteCells l) w → Lib.BuilderAt 177 5 B b p (Lib.byteCells l) w' := fun p hp => by
    have hlt := hp.lt
    obtain ⟨hB, v, hb, hown, hne⟩ := hp
    refine ⟨hB, v, by rw [k.block b hlt]; exact hb, ?_, hne⟩
    exact World.ownsRow.kept (row := none) hown ⟨k.os, k.tape, k.output, k.size, fun i hi _ => k.block i hi⟩ (by cases v.ownBlock <;> simp)
  rcases h with h | h
  · exact .inl (one _ h)
  · exact .inr (one _ h)
theorem Bld.lt {w : World} {B b : Nat} {l : List UInt8} (h : Bld w B b l) : b < w.heap.size ∧ B ≤ b := by
  rcases h with h | h
  · exact ⟨h.lt, h.1⟩
  · exact ⟨h.lt, h.1⟩
theorem infoB : (Tryz.prog.info? 5).map (fun i => (i.zero, i.size, i.bytes)) = some (some (.int .u8 0), 1, 1) := by kernel_rfl
theorem cp : (Tryz.prog.info? 177).map (·.size) = some 2 := by kernel_rfl
theorem lies : liesAt Tryz.prog Tryz.prog.depth 177 (2 / Tryz.prog.cellsOf 177) 0 177 1 = true := by kernel_rfl
set_option maxRecDepth 100000 in
set_option maxHeartbeats 4000000 in
theorem copyCheck_any (B b : Nat) (l : List UInt8) (w : World) (h : Bld w B b l) :
    Calls Tryz.prog 134 #[.pointer (some ⟨b, 0, none⟩)] w fun e w' => e = .returned (.tuple #[]) ∧ Lib.BuilderAt 177 5 B b (.pointer (some ⟨b, 0, none⟩)) (Lib.byteCells l) w' ∧ Below B w w' := by
  obtain ⟨j, hj, hjs⟩ := Option.map_eq_some_iff.1 cp
  rcases h with h | h
  · have hE := @run_callFunc_extern Tryz.prog 142 _ Extern.AbiNoEscape.same Tryz.func142 (by kernel_rfl) (by kernel_rfl) (by kernel_rfl) (by kernel_rfl)
    have hN := fun x => Lib.run_noEscape (P := Tryz.prog) w x
    have c0 := h.cell0
    have f0 := h.frozen0
    have t1 := Lib.run_to_unsafe (P := Tryz.prog) w (src := 174) (dst := 202) ⟨b, 0, none⟩ Tryz.underlying174 Tryz.underlying202 hj (by rw [hjs]; decide) h.shape (show 0 < 2 by decide)
    have t2 := Lib.run_from_unsafe (P := Tryz.prog) w (src := 202) (dst := 174) ⟨b, 0, none⟩ Tryz.underlying202 Tryz.underlying174 hj h.shape lies
    have h' := h.used (.pointer (some ⟨b, 0, none⟩))
    have hn := Lib.run_neq_ptr_same (P := Tryz.prog) (w.setCell ⟨b, 0, none⟩ (.pointer (some ⟨b, 0, none⟩))) ⟨b, 0, none⟩ Tryz.underlying174 hj
    have d0 := h'.cell0
    have HH := hidIt h'
    have HB := hidIt ((Below.refl B w).setCell (p := ⟨b, 0, none⟩) h.1 (.pointer (some ⟨b, 0, none⟩)))
    clear h' h
    go_enter Tryz.func134, Tryz.ntmps134
    go_wp2
    refine bodyPost_end (v := .tuple #[]) (by simp [results, Tryz.results134, go_sem]) rfl ⟨rfl, HH.out, HB.out⟩
  · have c0 := h.cell0
    have hn := Lib.run_neq_ptr_same (P := Tryz.prog) w ⟨b, 0, none⟩ Tryz.underlying174 hj
    have HH := hidIt h
    clear h
    go_enter Tryz.func134, Tryz.ntmps134
    go_wp2
    refine bodyPost_end (v := .tuple #[]) (by simp [results, Tryz.results134, go_sem]) rfl ⟨rfl, HH.out, Below.refl _ _⟩
theorem cells_more (l : List UInt8) (s : ByteArray) : Lib.byteCells l ++ Lib.strCells s = Lib.byteCells (l ++ s.data.toList) := by rw [Lib.byteCells_append]; rfl
set_option maxRecDepth 100000 in
set_option maxHeartbeats 4000000 in
theorem writeString_any (B b : Nat) (l : List UInt8) (s : ByteArray) (w : World) (h : Bld w B b l) (hlen : l.length + s.size ≤ 140737488355328) :
    Calls Tryz.prog 115 #[.pointer (some ⟨b, 0, none⟩), .string s] w fun e w' => e = .returned (.tuple #[.int .i64 s.size, .nilIface]) ∧ Bld w' B b (l ++ s.data.toList) ∧ Below B w w' := by
  obtain ⟨i0, hi, hz0, hz1, hz2⟩ := info_parts infoB
  have CC := hidIt (copyCheck_any B b l w h)
  have hl := Lib.byteCells_length l
  have hlt := h.lt
  clear h
  go_enter Tryz.func115, Tryz.ntmps115
  go_wp2_with (fail)
  refine CC.out.mono ?_
  rintro e w1 ⟨rfl, h1, k1⟩
  have hlt1 := h1.lt
  obtain ⟨hB, v, hbk, hown, hne⟩ := h1
  have c0 : w1.cell? ⟨b, 0, none⟩ = some (.pointer (some ⟨b, 0, none⟩)) := by rw [Lib.cell_of_heap hbk]; rfl
  have c1 : w1.cell? ⟨b, 1, none⟩ = some v := by rw [Lib.cell_of_heap hbk]; rfl
  have HBK := hidIt hbk
  have HNE := hidIt hne
  have K1 := hidIt k1
  have HOW := hidIt hown
  clear hbk hne k1
  go_wp2_with (at_builtin; refine Lib.wpList_append_own_string _ rfl _ _ 175 9 rfl B 5 i0 Tryz.underlying175 Tryz.underlying9 hi hz0 hz1 hz2 _ _ _ rfl hown s rfl ?c3 ?c4 ?c5 ?_)
  case c3 => unfold maxLen; omega
  case c4 => omega
  case c5 => omega
  intro v' w2 hown' hgrow _
  have hb2 : w2.heap[b]? = some (.cells #[.pointer (some ⟨b, 0, none⟩), v] 177 (0, 0)) := by
    rw [hgrow.block b hlt1 (fun e => HNE.out e.symm)]
    exact HBK.out
  have d0 : w2.cell? ⟨b, 0, none⟩ = some (.pointer (some ⟨b, 0, none⟩)) := by rw [Lib.cell_of_heap hb2]; rfl
  have d1 : w2.cell? ⟨b, 1, none⟩ = some v := by rw [Lib.cell_of_heap hb2]; rfl
  have f1 : w2.frozen? ⟨b, 1, none⟩ = false := Lib.frozen_of_heap hb2 1
  obtain ⟨ao, n', cap, rfl⟩ : ∃ ao n' cap, v' = .slice ao n' cap := by
    rcases hown'.2 with ⟨hv, _⟩ | ⟨g, cap, cur, hv, _⟩
    · exact ⟨_, _, _, hv⟩
    · exact ⟨_, _, _, hv⟩
  have HO := hidIt hown'
  have HG := hidIt hgrow
  have HB2 := hidIt hb2
  clear hown' hgrow hb2
  go_wp2_with (fail)
  refine bodyPost_ret (v := .tuple #[.int .i64 s.size, .nilIface]) (by simp [results, Tryz.results115, go_sem]) rfl ⟨rfl, ?_, ?_⟩
  · refine .inr ?_
    rw [← cells_more]
    exact Lib.BuilderAt.put (T := 177) (e := 5) hB HB2.out (bs' := Lib.byteCells l ++ Lib.strCells s) (by have e := HO.out; rw [← hl] at e; rw [List.length_append, Lib.strCells_length]; exact e) (by decide)
  · exact (K1.out.grown HG.out (by omega) (fun k hk => (HOW.out.lt k hk).1)).setCell (p := ⟨b, 1, none⟩) hB _
theorem extra : Builder.Extra Tryz.prog Tryz.lays169_ren where
  sizeBuilder := by kernel_rfl
  liesBuilder := by kernel_rfl
  t5 := Tryz.underlying5
  a5 := Tryz.isAgg5
  z5 := Tryz.sizeOf5
  v5 := Tryz.zeroValue5
  infoByte := by kernel_rfl
  cellsByte := by kernel_rfl
  sizeByte := by kernel_rfl
  neB5 := by decide
theorem string_any (B b : Nat) (l : List UInt8) (w : World) (h : Bld w B b l) : Calls Tryz.prog 116 #[.pointer (some ⟨b, 0, none⟩)] w fun e w' => e = .returned (.string ⟨l.toArray⟩) ∧ Below B w w' :=
  Any.Builder_String_any Tryz.lays169 extra B b l w h (by have := h.lt; omega)
end Go.Proofs.YtllajhieocploaaGreatDoor.Bl
namespace Go.Proofs.YtllajhieocploaaGreatDoor.Cv
open Go.ChangeShapes Go.WideShapes Go.ChangeAt Go.RowKit
open Cu
set_option maxRecDepth 100000 in
set_option maxHeartbeats 2000000 in
theorem timesBase_any (n : Nat) (w : World) (hn : n ≤ 1099511627776) : Calls Tryz.prog 110 #[.int .i64 n] w fun e w' => e = .returned (.agg #[.int .i64 (ns (2791, 6375) n).1, .int .i64 (ns (2791, 6375) n).2]) ∧ Below w.heap.size w w' := by
  go_enter Tryz.func110, Tryz.ntmps110
  go_wp2_with (fail)
  refine (impl_Base _).mono ?_
  rintro e w1 ⟨rfl, hb1⟩
  have hz1 : w.heap.size < w1.heap.size := by have := hb1.size; simp at this; omega
  have C := Hid.mk' (fun w => impl_Times_yes n 2791 6375 w ok_base hn)
  obtain ⟨hc1, hf1⟩ := bcell hb1
  go_wp2_with (fail)
  refine (C.out _).mono ?_
  rintro e w2 ⟨rfl, hb2⟩
  obtain ⟨hc2, hf2⟩ := bcell hb2
  have hz2 : w.heap.size < w2.heap.size := by have := hb2.size; omega
  have hz3 : w.heap.size < w2.heap.size + 1 := by omega
  go_wp2
  refine bodyPost_ret (v := .agg #[.int .i64 (ns (2791, 6375) n).1, .int .i64 (ns (2791, 6375) n).2]) (by simp [results, Tryz.results110, go_sem, *]) rfl ⟨rfl, ?_⟩
  have b2 := (((Below.refl w.heap.size w).alloc (Nat.le_refl _) _).trans (hb1.mono (B' := w.heap.size) (by simp))).trans (hb2.mono (B' := w.heap.size) (by omega))
  exact ((b2.setCell (by simp) _).setCell (by simp) _).alloc (by simp; omega) _
set_option maxRecDepth 100000 in
set_option maxHeartbeats 2000000 in
theorem impl_KeyOf_yes (n : Nat) (w : World) (h1 : 0 < n) (h2 : n < 2549) : Calls Tryz.prog 78 #[.int .i64 n] w fun e w' => e = .returned (.tuple #[.agg #[.int .i64 (ns (2791, 6375) n).1, .int .i64 (ns (2791, 6375) n).2], .bool true]) ∧ Below w.heap.size w w' := by
  have h3 : (0 : Int) < n := by omega
  have h4 : (n : Int) < 2549 := by omega
  have C := Hid.mk' (fun w => timesBase_any n w (by omega))
  go_enter Tryz.func78, Tryz.ntmps78
  go_wp2_with (first | (go_at_call 96; go_in) | fail)
  refine (C.out _).mono ?_
  rintro e w1 ⟨rfl, hb1⟩
  obtain ⟨hc1, hf1⟩ := bcell hb1
  have hz1 : w.heap.size < w1.heap.size := by have := hb1.size; simp at this; omega
  go_wp2
  refine bodyPost_ret (v := .tuple #[.agg #[.int .i64 (ns (2791, 6375) n).1, .int .i64 (ns (2791, 6375) n).2], .bool true]) (by simp [results, Tryz.results78, go_sem, *]) rfl ⟨rfl, ?_⟩
  exact ((((Below.refl w.heap.size w).alloc (Nat.le_refl _) _).trans (hb1.mono (B' := w.heap.size) (by simp))).setCell (by simp) _).setCell (by simp) _
set_option maxRecDepth 100000 in
set_option maxHeartbeats 2000000 in
theorem impl_KeyOf_no (n : Int) (w : World) (h : ¬ 0 < n ∨ 0 < n ∧ ¬ n < 2549) : Calls Tryz.prog 78 #[.int .i64 n] w fun e w' => e = .returned (.tuple #[.agg #[.int .i64 0, .int .i64 0], .bool false]) ∧ Below w.heap.size w w' := by
  rcases h with h1 | ⟨h1, h2⟩
  all_goals
    go_enter Tryz.func78, Tryz.ntmps78
    go_wp2_with (first | (go_at_call 96; go_in) | fail)
    refine bodyPost_ret (v := .tuple #[.agg #[.int .i64 0, .int .i64 0], .bool false]) (by simp [results, Tryz.results78, go_sem]) rfl ⟨rfl, ?_⟩
    exact (Below.refl w.heap.size w).alloc (Nat.le_refl _) _
end Go.Proofs.YtllajhieocploaaGreatDoor.Cv
namespace Go.Proofs.YtllajhieocploaaGreatDoor.Sg
def hstep (h b : Nat) : Nat := (h * 1000003 + b + 1) % 2147483647
/-- The bytes of a text, as numbers. -/
def nums (s : ByteArray) : List Nat := s.data.toList.map UInt8.toNat
def hrun (h : Nat) (l : List Nat) : Nat := l.foldl hstep h
def hend (h : Nat) : Nat := hrun h [0, 0, 0, 0, 0]
def hashN (l : List Nat) : Nat := hend (hrun 17 l)
theorem hstep_lt (h b : Nat) : hstep h b < 2147483647 := by unfold hstep; omega
theorem hrun_nil (h : Nat) : hrun h [] = h := rfl
theorem hrun_cons (h b : Nat) (l : List Nat) : hrun h (b :: l) = hrun (hstep h b) l := rfl
theorem hrun_lt (l : List Nat) : ∀ h : Nat, h < 2147483647 → hrun h l < 2147483647 := by
  induction l with
  | nil => intro h hh; rw [hrun_nil]; exact hh
  | cons b l ih => intro h _; rw [hrun_cons]; exact ih _ (hstep_lt h b)
theorem hrun_append (h : Nat) (l m : List Nat) : hrun h (l ++ m) = hrun (hrun h l) m := List.foldl_append
theorem hend_lt (h : Nat) (hh : h < 2147483647) : hend h < 2147483647 := by unfold hend; exact hrun_lt _ _ hh
theorem hashN_lt (l : List Nat) : hashN l < 2147483647 := by unfold hashN; exact hend_lt _ (hrun_lt _ _ (by omega))
theorem nums_length (s : ByteArray) : (nums s).length = s.size := by unfold nums; rw [List.length_map, Array.length_toList]; rfl
theorem nums_append (s t : ByteArray) : nums (s ++ t) = nums s ++ nums t := by unfold nums; rw [ByteArray.data_append, Array.toList_append, List.map_append]
theorem nums_at (s : ByteArray) (i : Nat) (hi : i < s.size) : (nums s)[i]? = some (s[i]'hi).toNat := by
  unfold nums
  rw [List.getElem?_map, List.getElem?_eq_getElem (by simpa using hi)]
  rfl
theorem nums_take (s : ByteArray) (i : Nat) (hi : i < s.size) : (nums s).take (i + 1) = (nums s).take i ++ [(s[i]'hi).toNat] := by
  rw [List.take_add_one, nums_at s i hi]; rfl
theorem nums_take_all (s : ByteArray) : (nums s).take s.size = nums s := by
  rw [← nums_length]; exact List.take_length
theorem hrun_take (s : ByteArray) (h i : Nat) (hi : i < s.size) : hrun h ((nums s).take (i + 1)) = hstep (hrun h ((nums s).take i)) (s[i]'hi).toNat := by
  rw [nums_take s i hi, hrun_append, hrun_cons, hrun_nil]
/-- The bytes of a text, and 5 bytes 0. -/
def pad (s : ByteArray) : List Nat := nums s ++ [0, 0, 0, 0, 0]
theorem pad_length (s : ByteArray) : (pad s).length = s.size + 5 := by unfold pad; rw [List.length_append, nums_length]; rfl
theorem hrun_pad_lt (s : ByteArray) (h i : Nat) (hi : i < s.size) : hrun h ((pad s).take (i + 1)) = hstep (hrun h ((pad s).take i)) (s[i]'hi).toNat := by
  have e : (pad s)[i]? = some (s[i]'hi).toNat := by
    unfold pad
    rw [List.getElem?_append_left (by rw [nums_length]; exact hi)]
    exact nums_at s i hi
  rw [List.take_add_one, e, Option.toList_some, hrun_append, hrun_cons, hrun_nil]
theorem hrun_pad_ge (s : ByteArray) (h i : Nat) (h1 : s.size ≤ i) (h2 : i < s.size + 5) : hrun h ((pad s).take (i + 1)) = hstep (hrun h ((pad s).take i)) 0 := by
  have e : (pad s)[i]? = some 0 := by
    unfold pad
    rw [List.getElem?_append_right (by rw [nums_length]; exact h1), nums_length]
    obtain ⟨j, rfl⟩ : ∃ j, i = s.size + j := ⟨i - s.size, by omega⟩
    have hj : j < 5 := by omega
    rw [Nat.add_sub_cancel_left]
    rcases j with _ | _ | _ | _ | _ | j
    · rfl
    · rfl
    · rfl
    · rfl
    · rfl
    · omega
  rw [List.take_add_one, e, Option.toList_some, hrun_append, hrun_cons, hrun_nil]
theorem hrun_pad (s : ByteArray) : hrun 17 ((pad s).take (s.size + 5)) = hashN (nums s) := by
  rw [← pad_length, List.take_length]
  unfold pad hashN hend
  rw [hrun_append]
end Go.Proofs.YtllajhieocploaaGreatDoor.Sg
namespace Go.Proofs.YtllajhieocploaaGreatDoor.Sg
open Go.ChangeShapes Go.WideShapes Go.ChangeAt Go.RowKit
theorem hidIt {p : Prop} (h : p) : Hid p := h
/-- Block b's first cell holds the number h, and may be written. -/
structure One (w : World) (b h : Nat) : Prop where
  lt : b < w.heap.size
  c0 : w.cell? ⟨b, 0, none⟩ = some (.int .i64 h)
  f0 : w.frozen? ⟨b, 0, none⟩ = false
theorem One.kept {B : Nat} {w w' : World} {b h : Nat} (o : One w b h) (k : Below B w w') (hb : b < B) : One w' b h :=
  ⟨Nat.lt_of_lt_of_le o.lt k.size, by rw [k.cell (by simpa using hb)]; exact o.c0, by rw [k.frozen (by simpa using hb)]; exact o.f0⟩
theorem One.put {w : World} {b h g : Nat} (o : One w b h) : One (w.setCell ⟨b, 0, none⟩ (.int .i64 g)) b g :=
  ⟨by simpa [World.setCell] using o.lt, World.cell?_setCell_same' _ _ _ (by rw [o.c0]; rfl), by simpa using o.f0⟩
theorem One.newAt {w : World} {h k : Nat} {T : TypeId} (e : w.heap.size = k) : One (w.alloc (.cells #[.int .i64 h] T)) k h := by
  subst e; exact ⟨by simp, by simp, by simp⟩
theorem One.drew {w : World} {b h : Nat} (o : One w b h) : One w.drew b h := ⟨o.lt, o.c0, o.f0⟩
set_option maxHeartbeats 1000000 in
theorem take_any (b h c : Nat) (w : World) (o : One w b h) (hh : h < 2147483647) (hc : c < 256) :
    Calls Tryz.prog 123 #[.pointer (some ⟨b, 0, none⟩), .int .u8 c] w fun e w' => e = .returned (.tuple #[]) ∧ w' = w.setCell ⟨b, 0, none⟩ (.int .i64 (hstep h c)) := by
  obtain ⟨lt, c0, f0⟩ := o
  have h1 : (0 : Int) ≤ h := by omega
  have h2 : (h : Int) < 2147483647 := by omega
  have h3 : (0 : Int) ≤ c := by omega
  have h4 : (c : Int) < 256 := by omega
  go_enter Tryz.func123, Tryz.ntmps123
  go_wp2
  refine bodyPost_end (v := .tuple #[]) (by simp [results, Tryz.results123, go_sem]) rfl ⟨rfl, ?_⟩
  have e : (((h : Int) * 1000003 + (c : Int) + 1) % 2147483647) = (hstep h c : Int) := by unfold hstep; omega
  rw [e]
set_option maxHeartbeats 2000000 in
theorem ended_any (h : Nat) (w : World) (hh : h < 2147483647) :
    Calls Tryz.prog 101 #[.agg #[.int .i64 h]] w fun e w' => e = .returned (.int .i64 (hend h)) ∧ Below w.heap.size w w' := by
  go_enter Tryz.func101, Tryz.ntmps101
  go_wp2_with (fail)
  go_loopw [3] (fun y wx => ∃ i : Nat, y = .int .i64 i ∧ i ≤ 5 ∧ One wx w.heap.size (hrun h (List.replicate i 0)) ∧ Below w.heap.size w wx) (fun y _ => (5 - intOf y).toNat)
  case atStart => exact ⟨0, rfl, by omega, One.newAt rfl, (Below.refl _ _).alloc (Nat.le_refl _) _⟩
  case round =>
    obtain ⟨i, rfl, hi, hO, hB⟩ := hrel
    have HO := hidIt hO
    have HB := hidIt hB
    clear hB
    by_cases h5 : i < 5
    · have h5' : (i : Int) < 5 := by omega
      clear hO
      go_wp2_with (fail)
      refine (take_any w.heap.size _ 0 _ HO.out (hrun_lt _ _ hh) (by decide)).mono ?_
      rintro e w1 ⟨rfl, rfl⟩
      go_wp2_with (fail)
      refine ⟨⟨i + 1, by simp, by omega, ?_, HB.out.setCell (by simp) _⟩, by simp [intOf]; omega⟩
      have := HO.out.put (g := hstep (hrun h (List.replicate i 0)) 0)
      rw [List.replicate_succ', hrun_append, hrun_cons, hrun_nil]
      exact this
    · have h5' : ¬ (i : Int) < 5 := by omega
      have e5 : i = 5 := by omega
      subst e5
      obtain ⟨lt, c0, f0⟩ := hO
      go_wp2_with (fail)
      go_ret
      exact ⟨rfl, HB.out⟩
set_option maxHeartbeats 1000000 in
theorem newHasher_any (w : World) : Calls Tryz.prog 98 #[] w fun e w' => e = .returned (.agg #[.int .i64 17]) ∧ Below w.heap.size w w' := by
  go_enter Tryz.func98, Tryz.ntmps98
  go_wp2
  refine bodyPost_ret (v := .agg #[.int .i64 17]) (by simp [results, Tryz.results98, go_sem]) rfl ⟨rfl, ?_⟩
  exact (Below.refl _ _).alloc (Nat.le_refl _) _
set_option maxHeartbeats 2000000 in
theorem text_any (b h : Nat) (s : ByteArray) (w : World) (o : One w b h) (hh : h < 2147483647) (hs : s.size ≤ 9223372036854775807) :
    Calls Tryz.prog 100 #[.pointer (some ⟨b, 0, none⟩), .string s] w fun e w' => e = .returned (.tuple #[]) ∧ One w' b (hrun h (nums s)) ∧ Only b w w' := by
  have HO := hidIt o
  clear o
  go_enter Tryz.func100, Tryz.ntmps100
  go_wp2_with (fail)
  go_loopw [7] (fun y wx => ∃ i : Nat, y = .int .i64 i ∧ i ≤ s.size ∧ One wx b (hrun h ((nums s).take i)) ∧ Only b w wx) (fun y _ => (s.size - intOf y).toNat)
  case atStart => exact ⟨0, rfl, by omega, HO.out, Only.refl _ _⟩
  case round =>
    obtain ⟨i, rfl, hi, hO, hB⟩ := hrel
    have HP := hidIt hO
    have HB := hidIt hB
    clear hB
    by_cases h5 : i < s.size
    · have h5' : (i : Int) < s.size := by omega
      have h6 : (0 : Int) ≤ i := by omega
      have h7 : (i : Int) + 1 ≤ 9223372036854775807 := by omega
      clear hO
      go_wp2_with (fail)
      go_region_with (go_at_call 123; refine (take_any b _ _ _ HP.out.drew (hrun_lt _ _ hh) (UInt8.toNat_lt _)).mono ?_; rintro e w1 ⟨rfl, rfl⟩)
      all_goals
        go_wp2_with (fail)
        refine ⟨⟨i + 1, by simp, by omega, ?_, (HB.out.setCell 0 _).drew⟩, by simp [intOf]; omega⟩
        rw [hrun_take s h i h5]
        exact HP.out.put.drew
    · have h5' : ¬ (i : Int) < s.size := by omega
      have e5 : i = s.size := by omega
      subst e5
      clear hO
      go_wp2_with (fail)
      refine bodyPost_end (v := .tuple #[]) (by simp [results, Tryz.results100, go_sem]) rfl ⟨rfl, ?_, HB.out⟩
      have := HP.out
      rw [nums_take_all] at this
      exact this
set_option maxHeartbeats 2000000 in
theorem spec_Hash (s : ByteArray) (w : World) (hs : s.size ≤ 4611686018427387904) :
    Calls Tryz.prog 88 #[.string s] w fun e w' => e = .returned (.int .i64 (hashN (nums s))) ∧ w' = w := by
  go_enter Tryz.func88, Tryz.ntmps88
  go_wp2_with (fail)
  go_loopw [3, 4] (fun y z wx => ∃ i h : Nat, y = .int .i64 h ∧ z = .int .i64 i ∧ i ≤ s.size + 5 ∧ Hid (h = hrun 17 ((pad s).take i)) ∧ h < 2147483647 ∧ wx = w) (fun _ z _ => (s.size + 5 - intOf z).toNat)
  case atStart => exact ⟨0, 17, rfl, rfl, by omega, rfl, by omega, rfl⟩
  case round =>
    obtain ⟨i, h, rfl, rfl, hi, hh, hl, rfl⟩ := hrel
    have l1 : (0 : Int) ≤ h := by omega
    have l2 : (h : Int) < 2147483647 := by omega
    have l3 : (0 : Int) ≤ i := by omega
    have l4 : (i : Int) + 1 ≤ 9223372036854775807 := by omega
    have l5 : (s.size : Int) + 5 ≤ 9223372036854775807 := by omega
    by_cases h5 : i < s.size
    · have h6 : (i : Int) < s.size := by omega
      have h7 : (i : Int) < s.size + 5 := by omega
      have l6 : ((s[i]'h5).toNat : Int) < 256 := by have := UInt8.toNat_lt (s[i]'h5); omega
      have l7 : (0 : Int) ≤ ((s[i]'h5).toNat : Int) := by omega
      go_wp2_with (fail)
      refine ⟨⟨i + 1, hstep h (s[i]'h5).toNat, ?_, by simp, by omega, ?_, hstep_lt _ _, trivial⟩, by simp [intOf]; omega⟩
      · refine congrArg (Value.int IntKind.i64) ?_; unfold hstep; omega
      · show _ = _
        rw [hrun_pad_lt s 17 i h5, ← hh.out]
    · have h6 : ¬ (i : Int) < s.size := by omega
      by_cases h7 : i < s.size + 5
      · have h8 : (i : Int) < s.size + 5 := by omega
        go_wp2_with (fail)
        refine ⟨⟨i + 1, hstep h 0, ?_, by simp, by omega, ?_, hstep_lt _ _, trivial⟩, by simp [intOf]; omega⟩
        · refine congrArg (Value.int IntKind.i64) ?_; unfold hstep; omega
        · show _ = _
          rw [hrun_pad_ge s 17 i (by omega) h7, ← hh.out]
      · have h8 : ¬ (i : Int) < s.size + 5 := by omega
        have e5 : i = s.size + 5 := by omega
        go_wp2_with (fail)
        go_ret
        refine ⟨?_, rfl⟩
        rw [hh.out, e5, hrun_pad]
        rfl
end Go.Proofs.YtllajhieocploaaGreatDoor.Sg
