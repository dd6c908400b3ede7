/-
  The program's way to read a name: states that are labels.
-/
import Derived.Test.YtdbldhcelbllgaaPackJ
namespace Go.Proofs.Ytdbldhcelbllgaa.Nm
open Go.ChangeShapes Go.WideShapes Go.ChangeAt Go.RowKit
theorem bs_at {s : ByteArray} {q : Nat} (h : q < s.size) : (bs s)[q]? = some s[q] := by
  rw [List.getElem?_eq_getElem (by rw [bs_length]; exact h)]
  rfl
theorem bs_none {s : ByteArray} {q : Nat} (h : s.size ≤ q) : (bs s)[q]? = none := List.getElem?_eq_none (by rw [bs_length]; exact h)
section
variable {s : ByteArray} {f q : Nat} {L : List Bytes} {e : Nat}
theorem rd_out (h : s.size ≤ q) : rd (bs s) (f + 1) q L e = none := by
  unfold rd
  rw [bs_none h]
theorem rd_zero (hq : q < s.size) (h : (s[q]).toNat = 0) : rd (bs s) (f + 1) q L e = some (L, if e = 0 then q + 1 else e) := by
  unfold rd
  rw [bs_at hq]
  simp only
  rw [if_pos h]
theorem rd_label_no (hq : q < s.size) (h0 : (s[q]).toNat ≠ 0) (h12 : (s[q]).toNat ≤ 12) (hn : L.length = 6 ∨ s.size - (q + 1) < (s[q]).toNat) : rd (bs s) (f + 1) q L e = none := by
  unfold rd
  rw [bs_at hq]
  simp only
  rw [if_neg h0, if_pos h12, if_pos (by rw [bs_length]; exact hn)]
theorem rd_label (hq : q < s.size) (h0 : (s[q]).toNat ≠ 0) (h12 : (s[q]).toNat ≤ 12) (hn : ¬ (L.length = 6 ∨ s.size - (q + 1) < (s[q]).toNat)) : rd (bs s) (f + 1) q L e = rd (bs s) f (q + 1 + (s[q]).toNat) (L ++ [bs (s.extract (q + 1) (q + 1 + (s[q]).toNat))]) e := by
  conv => lhs; unfold rd
  rw [bs_at hq]
  simp only
  rw [if_neg h0, if_pos h12, if_neg (by rw [bs_length]; exact hn), bs_extract, show q + 1 + (s[q]).toNat - (q + 1) = (s[q]).toNat by omega]
theorem rd_pair_cut (hq : q + 1 = s.size) (h192 : 192 ≤ (s[q]).toNat) : rd (bs s) (f + 1) q L e = none := by
  unfold rd
  rw [bs_at (by omega)]
  simp only
  rw [if_neg (by omega), if_neg (by omega), if_pos h192, if_pos (by rw [bs_length]; exact hq)]
theorem rd_pair_no (hq : q + 1 < s.size) (h192 : 192 ≤ (s[q]).toNat) (hn : q ≤ ((s[q]).toNat - 192) * 256 + (s[q + 1]).toNat) : rd (bs s) (f + 1) q L e = none := by
  unfold rd
  rw [bs_at (by omega), bs_at hq]
  simp only [Option.getD_some]
  rw [if_neg (by omega), if_neg (by omega), if_pos h192, if_neg (by rw [bs_length]; omega), if_pos hn]
theorem rd_pair (hq : q + 1 < s.size) (h192 : 192 ≤ (s[q]).toNat) (hn : ¬ q ≤ ((s[q]).toNat - 192) * 256 + (s[q + 1]).toNat) : rd (bs s) (f + 1) q L e = rd (bs s) f (((s[q]).toNat - 192) * 256 + (s[q + 1]).toNat) L (if e = 0 then q + 2 else e) := by
  conv => lhs; unfold rd
  rw [bs_at (by omega), bs_at hq]
  simp only [Option.getD_some]
  rw [if_neg (by omega), if_neg (by omega), if_pos h192, if_neg (by rw [bs_length]; omega), if_neg hn]
theorem rd_else (hq : q < s.size) (h0 : 12 < (s[q]).toNat) (h192 : (s[q]).toNat < 192) : rd (bs s) (f + 1) q L e = none := by
  unfold rd
  rw [bs_at hq]
  simp only
  rw [if_neg (by omega), if_neg (by omega), if_neg (by omega)]
end
/-- How far reading has to go yet. -/
def left (n l q : Nat) : Nat := (6 - l) * (n + 1) + q
theorem left_label {n l q q' : Nat} (h6 : l < 6) (hq : q' ≤ n) : left n (l + 1) q' < left n l q := by
  unfold left
  obtain ⟨m, hm⟩ : ∃ m, 6 - l = m + 1 := ⟨5 - l, by omega⟩
  rw [hm, show 6 - (l + 1) = m by omega, Nat.succ_mul]
  omega
theorem left_pair {n l q q' : Nat} (h : q' < q) : left n l q' < left n l q := by unfold left; omega
/-- What reading answers. -/
def rdV : Option (List Bytes × Nat) → Value
  | none => .tuple #[.string ByteArray.empty, .int .i64 0, .bool false]
  | some x => .tuple #[.string (B (join x.1)), .int .i64 (x.2 : Int), .bool true]
theorem str_newU (w : World) (x : ByteArray) : ∀ j u, ([.string x] : List Value)[j]? = some u → (w.alloc (.cells #[.string x] 9)).cell? ((⟨w.heap.size, 0, none⟩ : Addr).add j) = some u := by
  intro j u hj
  match j, hj with
  | 0, hj => simp at hj; subst hj; simp [Addr.add]
theorem wp_skip_seq {P : Program} {y : Code} {Q : Exit → Act → World → Prop} {a : Act} {w : World} (h : y.wp P Q a w) : (Code.seq .skip y).wp P Q a w := wp_seq (wp_skip h)
/-- What holds wherever 'pre' does holds here. -/
theorem all_of {P : Program} {C : Code} {Q : Exit → Act → World → Prop} {a0 : Act} {w0 : World} (pre : Nat → Act → World → Prop) (h : ∀ f a w, pre f a w → C.wp P Q a w) (f0 : Nat) (h0 : pre f0 a0 w0) : C.wp P Q a0 w0 := h f0 a0 w0 h0
set_option maxRecDepth 100000 in
set_option maxHeartbeats 8000000 in
theorem impl_readName (s : ByteArray) (p : Nat) (w : World) (hs : s.size ≤ 1048576) (hp : p < s.size) :
    Calls Try.prog 43 #[.string s, .int .i64 p] w fun e w' => e = .returned (rdV (rd (bs s) (rdF (bs s)) p [] 0)) ∧ Below w.heap.size w w' := by
  obtain ⟨is, his, hs0, hs1, hs2⟩ := info_parts info9t
  obtain ⟨res, hres⟩ : ∃ r, r = rd (bs s) (rdF (bs s)) p [] 0 := ⟨_, rfl⟩
  rw [← hres]
  have HRes := hidIt hres
  clear hres
  go_enter Try.func43, Try.ntmps43
  go_wp2_with (fail)
  refine wp_scope_any (fun J hJ => ?_)
  have HJ := hidIt hJ
  clear hJ
  have wrong : ∀ (u0 u1 u2 u3 u4 u5 u6 u7 u8 u9 u10 u11 u12 u13 u14 u15 u16 u17 u18 u19 u20 u21 u22 u23 u24 u25 u26 u27 u28 u29 u30 u31 u32 u33 u34 u35 u36 u37 u38 u39 u40 u41 u42 u43 u44 u45 u46 u47 u48 u49 u50 u51 u52 u53 u54 u55 u56 u57 u58 u59 u60 u61 u62 u63 u64 u65 u66 u67 u68 u69 u70 u71 u72 u73 u74 u75 u76 u77 u78 u79 u80 u81 u82 : Value) (wx : World), Hid (Below w.heap.size w wx) → Hid (res = none) → J 0 { tmps := #[u0, u1, u2, u3, u4, u5, u6, u7, u8, u9, u10, u11, u12, u13, u14, u15, u16, u17, u18, u19, u20, u21, u22, u23, u24, u25, u26, u27, u28, u29, u30, u31, u32, u33, u34, u35, u36, u37, u38, u39, u40, u41, u42, u43, u44, u45, u46, u47, u48, u49, u50, u51, u52, u53, u54, u55, u56, u57, u58, u59, u60, u61, u62, u63, u64, u65, u66, u67, u68, u69, u70, u71, u72, u73, u74, u75, u76, u77, u78, u79, u80, u81, u82], defers := [] } wx := by
    intro u0 u1 u2 u3 u4 u5 u6 u7 u8 u9 u10 u11 u12 u13 u14 u15 u16 u17 u18 u19 u20 u21 u22 u23 u24 u25 u26 u27 u28 u29 u30 u31 u32 u33 u34 u35 u36 u37 u38 u39 u40 u41 u42 u43 u44 u45 u46 u47 u48 u49 u50 u51 u52 u53 u54 u55 u56 u57 u58 u59 u60 u61 u62 u63 u64 u65 u66 u67 u68 u69 u70 u71 u72 u73 u74 u75 u76 u77 u78 u79 u80 u81 u82 wx HB HN
    refine HJ.out 0 _ _ _ rfl ?_
    clear HJ
    go_wp2_with (fail)
    rw [jumps_ret]
    go_ret3
    exact ⟨by rw [HN.out]; rfl, HB.out⟩
  have HWr := hidIt wrong
  clear wrong
  go_wp2_with (fail)
  go_step3
  rename_i K hK
  refine hK _ _ ?_
  clear hK K
  refine (?key : ∀ (f q : Nat) (L : List ByteArray) (v : Value) (e : Nat) (u8 u9 u11 u12 u13 u14 u15 u16 u17 u18 u19 u20 u21 u22 u23 u24 u25 u26 u27 u28 u29 u30 u31 u32 u33 u34 u35 u36 u37 u38 u39 u40 u41 u42 u43 u44 u45 u46 u47 u48 u49 u50 u51 u52 u53 u54 u55 u56 u57 u58 u59 u60 u61 u62 u63 u64 u65 u66 u67 u68 u69 u70 u71 u72 u73 u74 u75 u76 u77 u78 u79 u80 u81 u82 : Value) (wx : World), Hid (Own wx w.heap.size v L) → Hid (Below w.heap.size w wx) → left s.size L.length q < f → L.length ≤ 6 → Hid (∀ l ∈ bL L, l.length ≤ 12) → q ≤ s.size → e ≤ s.size → Hid (rd (bs s) f q (bL L) e = res) → Code.wp Try.prog _ _ { tmps := #[.string s, .int .i64 (q : Int), undef, undef, .string ⟨#[]⟩, .int .i64 0, .bool false, v, u8, u9, .int .i64 (e : Int), u11, u12, u13, u14, u15, u16, u17, u18, u19, u20, u21, u22, u23, u24, u25, u26, u27, u28, u29, u30, u31, u32, u33, u34, u35, u36, u37, u38, u39, u40, u41, u42, u43, u44, u45, u46, u47, u48, u49, u50, u51, u52, u53, u54, u55, u56, u57, u58, u59, u60, u61, u62, u63, u64, u65, u66, u67, u68, u69, u70, u71, u72, u73, u74, u75, u76, u77, u78, u79, u80, u81, u82], defers := [] } wx) (rdF (bs s)) p [] _ 0 _ _ _ _ _ _ _ _ _ _ _ _ _ _ _ _ _ _ _ _ _ _ _ _ _ _ _ _ _ _ _ _ _ _ _ _ _ _ _ _ _ _ _ _ _ _ _ _ _ _ _ _ _ _ _ _ _ _ _ _ _ _ _ _ _ _ _ _ _ _ _ _ _ _ _ (hidIt (Own.new w)) (hidIt ((Below.refl _ w).alloc (Nat.le_refl _) _)) ?m (by simp) (hidIt (by simp)) (by omega) (by omega) (hidIt HRes.out.symm)
  case m =>
    unfold left rdF
    rw [bs_length]
    simp only [List.length_nil]
    omega
  case key =>
    intro f
    induction f with
    | zero =>
      intro q L v e u8 u9 u11 u12 u13 u14 u15 u16 u17 u18 u19 u20 u21 u22 u23 u24 u25 u26 u27 u28 u29 u30 u31 u32 u33 u34 u35 u36 u37 u38 u39 u40 u41 u42 u43 u44 u45 u46 u47 u48 u49 u50 u51 u52 u53 u54 u55 u56 u57 u58 u59 u60 u61 u62 u63 u64 u65 u66 u67 u68 u69 u70 u71 u72 u73 u74 u75 u76 u77 u78 u79 u80 u81 u82 wx HO HB hM
      omega
    | succ f ih =>
      intro q L v e u8 u9 u11 u12 u13 u14 u15 u16 u17 u18 u19 u20 u21 u22 u23 u24 u25 u26 u27 u28 u29 u30 u31 u32 u33 u34 u35 u36 u37 u38 u39 u40 u41 u42 u43 u44 u45 u46 u47 u48 u49 u50 u51 u52 u53 u54 u55 u56 u57 u58 u59 u60 u61 u62 u63 u64 u65 u66 u67 u68 u69 u70 u71 u72 u73 u74 u75 u76 u77 u78 u79 u80 u81 u82 wx HO HB hM h6 H12 hq he HE
      have IH := hidIt (fun q L v e u8 u9 u11 u12 u13 u14 u15 u16 u17 u18 u19 u20 u21 u22 u23 u24 u25 u26 u27 u28 u29 u30 u31 u32 u33 u34 u35 u36 u37 u38 u39 u40 u41 u42 u43 u44 u45 u46 u47 u48 u49 u50 u51 u52 u53 u54 u55 u56 u57 u58 u59 u60 u61 u62 u63 u64 u65 u66 u67 u68 u69 u70 u71 u72 u73 u74 u75 u76 u77 u78 u79 u80 u81 u82 wx a1 a2 a3 a4 a5 a6 a7 a8 => HJ.out 1 _ _ _ rfl (wp_skip_seq (ih q L v e u8 u9 u11 u12 u13 u14 u15 u16 u17 u18 u19 u20 u21 u22 u23 u24 u25 u26 u27 u28 u29 u30 u31 u32 u33 u34 u35 u36 u37 u38 u39 u40 u41 u42 u43 u44 u45 u46 u47 u48 u49 u50 u51 u52 u53 u54 u55 u56 u57 u58 u59 u60 u61 u62 u63 u64 u65 u66 u67 u68 u69 u70 u71 u72 u73 u74 u75 u76 u77 u78 u79 u80 u81 u82 wx a1 a2 a3 a4 a5 a6 a7 a8)))
      clear ih
      by_cases hend : q = s.size
      · subst hend
        have HN : Hid (res = none) := hidIt (by rw [← HE.out, rd_out (Nat.le_refl _)])
        clear HE
        go_wp2_with (fail)
        go_step3
        exact HWr.out _ _ _ _ _ _ _ _ _ _ _ _ _ _ _ _ _ _ _ _ _ _ _ _ _ _ _ _ _ _ _ _ _ _ _ _ _ _ _ _ _ _ _ _ _ _ _ _ _ _ _ _ _ _ _ _ _ _ _ _ _ _ _ _ _ _ _ _ _ _ _ _ _ _ _ _ _ _ _ _ _ _ _ _ HB HN
      · have hlt : q < s.size := by omega
        have g1 : ((q : Int) == (s.size : Int)) = false := by simp; omega
        have g2 : (q : Int) < (s.size : Int) := by omega
        have hb : (s[q]).toNat < 256 := UInt8.toNat_lt _
        clear hend
        by_cases h0 : (s[q]).toNat = 0
        · -- the end of the name
          have HN : Hid (res = some (bL L, if e = 0 then q + 1 else e)) := hidIt (by rw [← HE.out, rd_zero hlt h0])
          have HD := hidIt h0
          have k0 : (((s[q]).toNat : Int)) = 0 := by omega
          clear HE IH HWr hb h0
          obtain ⟨a7, c7, rfl, hc7, _, hr7, _⟩ := HO.out.form
          have HR7 := hidIt hr7
          clear hr7
          go_wp2_with (fail)
          go_step3
          refine HJ.out 2 _ _ _ rfl ?_
          by_cases he0 : e = 0
          · subst he0
            go_wp2_with (go_at_call 50; refine (join_any a7 c7 L _ HR7.out hc7 h6 H12.out).mono ?_; rintro e w1 ⟨rfl, hB1⟩)
            rw [jumps_ret]
            go_ret3
            exact ⟨by rw [HN.out]; rfl, HB.out.trans (hB1.mono HB.out.size)⟩
          · have ke : ((e : Int) == 0) = false := by simp; omega
            go_wp2_with (go_at_call 50; refine (join_any a7 c7 L _ HR7.out hc7 h6 H12.out).mono ?_; rintro e w1 ⟨rfl, hB1⟩)
            rw [jumps_ret]
            go_ret3
            exact ⟨by rw [HN.out, if_neg he0]; rfl, HB.out.trans (hB1.mono HB.out.size)⟩
        · by_cases h12 : (s[q]).toNat ≤ 12
          · -- a label
            obtain ⟨a7, c7, rfl, hc7, hm7, hrest⟩ := HO.out.form
            clear hrest
            by_cases hno : (bL L).length = 6 ∨ s.size - (q + 1) < (s[q]).toNat
            · have HN : Hid (res = none) := hidIt (by rw [← HE.out, rd_label_no hlt h0 h12 hno])
              clear HE IH
              rw [bL_length] at hno
              obtain ⟨h, eh⟩ : ∃ h : Nat, (s[q]).toNat = h := ⟨_, rfl⟩
              rw [eh] at hb h0 h12 hno
              have k0 : ((h : Int) == 0) = false := by simp; omega
              have k1 : (h : Int) ≤ 12 := by omega
              have k3 : (h : Int) < 256 := by omega
              go_wp2_with (fail)
              go_step3
              refine HJ.out 3 _ _ _ rfl ?_
              by_cases hl6 : L.length = 6
              · have k4 : ((L.length : Int) == 6) = true := by simp; omega
                go_wp2_with (fail)
                go_step3
                exact HWr.out _ _ _ _ _ _ _ _ _ _ _ _ _ _ _ _ _ _ _ _ _ _ _ _ _ _ _ _ _ _ _ _ _ _ _ _ _ _ _ _ _ _ _ _ _ _ _ _ _ _ _ _ _ _ _ _ _ _ _ _ _ _ _ _ _ _ _ _ _ _ _ _ _ _ _ _ _ _ _ _ _ _ _ _ HB HN
              · have k4 : ((L.length : Int) == 6) = false := by simp; omega
                have k5 : (s.size : Int) - ((q : Int) + 1) < (h : Int) := by omega
                go_wp2_with (fail)
                go_step3
                exact HWr.out _ _ _ _ _ _ _ _ _ _ _ _ _ _ _ _ _ _ _ _ _ _ _ _ _ _ _ _ _ _ _ _ _ _ _ _ _ _ _ _ _ _ _ _ _ _ _ _ _ _ _ _ _ _ _ _ _ _ _ _ _ _ _ _ _ _ _ _ _ _ _ _ _ _ _ _ _ _ _ _ _ _ _ _ HB HN
            · have HN := hidIt HE.out
              rw [rd_label hlt h0 h12 hno] at HN
              clear HE
              rw [bL_length] at hno
              obtain ⟨h, eh⟩ : ∃ h : Nat, (s[q]).toNat = h := ⟨_, rfl⟩
              rw [eh] at hb h0 h12 hno HN
              have k0 : ((h : Int) == 0) = false := by simp; omega
              have k1 : (h : Int) ≤ 12 := by omega
              have k3 : (h : Int) < 256 := by omega
              have k4 : ((L.length : Int) == 6) = false := by simp; omega
              have k5 : ¬ (s.size : Int) - ((q : Int) + 1) < (h : Int) := by omega
              have k6 : (q : Int) + 1 + (h : Int) ≤ (s.size : Int) := by omega
              have k7 : (0 : Int) ≤ (q : Int) + 1 := by omega
              have k8 : (q : Int) + 1 ≤ (q : Int) + 1 + (h : Int) := by omega
              have k9 : (0 : Int) ≤ (q : Int) + 1 + (h : Int) := by omega
              have hl5 : L.length < 6 := by omega
              have HM := hidIt (left_label (q := q) (q' := q + 1 + h) hl5 (by omega : q + 1 + h ≤ s.size))
              go_wp2_with (fail)
              go_step3
              refine HJ.out 3 _ _ _ rfl ?_
              go_wp2_with (at_builtin; refine wpList_append_own _ rfl _ _ 24 rfl w.heap.size 9 is (.string ByteArray.empty) 1 16 Try.underlying24 his hs0 hs1 hs2 rfl (by decide) _ _ _ rfl (World.ownsRow.alloc HO.out _) ⟨wx.heap.size, 0, none⟩ 1 1 [.string (s.extract (q + 1) (q + 1 + h))] rfl rfl (str_newU _ _) (fun u hu => by simp at hu; subst hu; rfl) ?d3 ?d4 ?d5 ?_)
              case d3 => unfold maxLen; omega
              case d4 => omega
              case d5 => exact Nat.le_trans HB.out.size (by simp)
              intro v' w1 hown hgrow _
              have HO1 := hidIt (Own.more hown)
              have HB1 := hidIt (HB.out.trans (grown_below HO.out (grown_alloc hgrow) (Nat.le_refl _) HB.out.size))
              clear hown hgrow
              go_wp2_with (fail)
              go_step3
              show J 1 _ _
              rw [show (q : Int) + 1 + (h : Int) = ((q + 1 + h : Nat) : Int) by omega]
              refine IH.out (q + 1 + h) (L ++ [s.extract (q + 1) (q + 1 + h)]) v' e _ _ _ _ _ _ _ _ _ _ _ _ _ _ _ _ _ _ _ _ _ _ _ _ _ _ _ _ _ _ _ _ _ _ _ _ _ _ _ _ _ _ _ _ _ _ _ _ _ _ _ _ _ _ _ _ _ _ _ _ _ _ _ _ _ _ _ _ _ _ _ _ _ _ _ HO1 HB1 ?_ ?_ (hidIt ?_) (by omega) he (hidIt ?_)
              · rw [List.length_append, List.length_singleton]
                have := HM.out
                omega
              · rw [List.length_append, List.length_singleton]
                omega
              · intro l hl
                rw [bL, List.map_append] at hl
                rcases List.mem_append.1 hl with hl | hl
                · exact H12.out l hl
                · simp only [List.map_cons, List.map_nil, List.mem_singleton] at hl
                  subst hl
                  rw [bs_extract, List.length_take]
                  omega
              · rw [bL, List.map_append]
                exact HN.out
          · by_cases h192 : 192 ≤ (s[q]).toNat
            · -- a pair
              by_cases hcut : q + 1 = s.size
              · have HN : Hid (res = none) := hidIt (by rw [← HE.out, rd_pair_cut hcut h192])
                clear HE IH
                obtain ⟨h, eh⟩ : ∃ h : Nat, (s[q]).toNat = h := ⟨_, rfl⟩
                rw [eh] at hb h0 h12 h192
                have k0 : ((h : Int) == 0) = false := by simp; omega
                have k1 : ¬ (h : Int) ≤ 12 := by omega
                have k2 : 192 ≤ (h : Int) := by omega
                have k3 : (h : Int) < 256 := by omega
                have k4 : ((q : Int) + 1 == (s.size : Int)) = true := by simp; omega
                go_wp2_with (fail)
                go_step3
                refine HJ.out 4 _ _ _ rfl ?_
                go_wp2_with (fail)
                go_step3
                exact HWr.out _ _ _ _ _ _ _ _ _ _ _ _ _ _ _ _ _ _ _ _ _ _ _ _ _ _ _ _ _ _ _ _ _ _ _ _ _ _ _ _ _ _ _ _ _ _ _ _ _ _ _ _ _ _ _ _ _ _ _ _ _ _ _ _ _ _ _ _ _ _ _ _ _ _ _ _ _ _ _ _ _ _ _ _ HB HN
              · have hlt2 : q + 1 < s.size := by omega
                have hb2 : (s[q + 1]).toNat < 256 := UInt8.toNat_lt _
                by_cases hno : q ≤ ((s[q]).toNat - 192) * 256 + (s[q + 1]).toNat
                · have HN : Hid (res = none) := hidIt (by rw [← HE.out, rd_pair_no hlt2 h192 hno])
                  clear HE IH
                  obtain ⟨h, eh⟩ : ∃ h : Nat, (s[q]).toNat = h := ⟨_, rfl⟩
                  obtain ⟨h2, eh2⟩ : ∃ h : Nat, (s[q + 1]).toNat = h := ⟨_, rfl⟩
                  rw [eh] at hb h0 h12 h192 hno
                  rw [eh2] at hb2 hno
                  obtain ⟨pl, epl⟩ : ∃ pl : Nat, (h - 192) * 256 + h2 = pl := ⟨_, rfl⟩
                  rw [epl] at hno
                  have k5 : ((h : Int) - 192) * 256 + (h2 : Int) = (pl : Int) := by omega
                  have k0 : ((h : Int) == 0) = false := by simp; omega
                  have k1 : ¬ (h : Int) ≤ 12 := by omega
                  have k2 : 192 ≤ (h : Int) := by omega
                  have k3 : (h : Int) < 256 := by omega
                  have k4 : ((q : Int) + 1 == (s.size : Int)) = false := by simp; omega
                  have k6 : (q : Int) ≤ (pl : Int) := by omega
                  have k7 : (0 : Int) ≤ (q : Int) + 1 := by omega
                  have k8 : (q : Int) + 1 < (s.size : Int) := by omega
                  have k9 : (h2 : Int) < 256 := by omega
                  clear epl
                  go_wp2_with (fail)
                  go_step3
                  refine HJ.out 4 _ _ _ rfl ?_
                  go_wp2_with (fail)
                  go_step3
                  exact HWr.out _ _ _ _ _ _ _ _ _ _ _ _ _ _ _ _ _ _ _ _ _ _ _ _ _ _ _ _ _ _ _ _ _ _ _ _ _ _ _ _ _ _ _ _ _ _ _ _ _ _ _ _ _ _ _ _ _ _ _ _ _ _ _ _ _ _ _ _ _ _ _ _ _ _ _ _ _ _ _ _ _ _ _ _ HB HN
                · have HN := hidIt HE.out
                  rw [rd_pair hlt2 h192 hno] at HN
                  clear HE
                  obtain ⟨h, eh⟩ : ∃ h : Nat, (s[q]).toNat = h := ⟨_, rfl⟩
                  obtain ⟨h2, eh2⟩ : ∃ h : Nat, (s[q + 1]).toNat = h := ⟨_, rfl⟩
                  rw [eh] at hb h0 h12 h192 hno HN
                  rw [eh2] at hb2 hno HN
                  obtain ⟨pl, epl⟩ : ∃ pl : Nat, (h - 192) * 256 + h2 = pl := ⟨_, rfl⟩
                  rw [epl] at hno HN
                  have k5 : ((h : Int) - 192) * 256 + (h2 : Int) = (pl : Int) := by omega
                  have k0 : ((h : Int) == 0) = false := by simp; omega
                  have k1 : ¬ (h : Int) ≤ 12 := by omega
                  have k2 : 192 ≤ (h : Int) := by omega
                  have k3 : (h : Int) < 256 := by omega
                  have k4 : ((q : Int) + 1 == (s.size : Int)) = false := by simp; omega
                  have k6 : ¬ (q : Int) ≤ (pl : Int) := by omega
                  have k7 : (0 : Int) ≤ (q : Int) + 1 := by omega
                  have k8 : (q : Int) + 1 < (s.size : Int) := by omega
                  have k9 : (h2 : Int) < 256 := by omega
                  have HM := hidIt (left_pair (n := s.size) (l := L.length) (by omega : pl < q))
                  clear epl
                  go_wp2_with (fail)
                  go_step3
                  refine HJ.out 4 _ _ _ rfl ?_
                  by_cases he0 : e = 0
                  · subst he0
                    go_wp2_with (fail)
                    go_step3
                    show J 1 _ _
                    rw [show (q : Int) + 2 = ((q + 2 : Nat) : Int) by omega]
                    refine IH.out pl L v (q + 2) _ _ _ _ _ _ _ _ _ _ _ _ _ _ _ _ _ _ _ _ _ _ _ _ _ _ _ _ _ _ _ _ _ _ _ _ _ _ _ _ _ _ _ _ _ _ _ _ _ _ _ _ _ _ _ _ _ _ _ _ _ _ _ _ _ _ _ _ _ _ _ _ _ _ _ HO HB ?_ h6 H12 (by omega) (by omega) (hidIt ?_)
                    · have := HM.out
                      omega
                    · exact HN.out
                  · have ke : ((e : Int) == 0) = false := by simp; omega
                    go_wp2_with (fail)
                    go_step3
                    show J 1 _ _
                    refine IH.out pl L v e _ _ _ _ _ _ _ _ _ _ _ _ _ _ _ _ _ _ _ _ _ _ _ _ _ _ _ _ _ _ _ _ _ _ _ _ _ _ _ _ _ _ _ _ _ _ _ _ _ _ _ _ _ _ _ _ _ _ _ _ _ _ _ _ _ _ _ _ _ _ _ _ _ _ _ HO HB ?_ h6 H12 (by omega) he (hidIt ?_)
                    · have := HM.out
                      omega
                    · have := HN.out
                      rw [if_neg he0] at this
                      exact this
            · have HN : Hid (res = none) := hidIt (by rw [← HE.out, rd_else hlt (by omega) (by omega)])
              clear HE IH
              obtain ⟨h, eh⟩ : ∃ h : Nat, (s[q]).toNat = h := ⟨_, rfl⟩
              rw [eh] at hb h0 h12 h192
              have k0 : ((h : Int) == 0) = false := by simp; omega
              have k1 : ¬ (h : Int) ≤ 12 := by omega
              have k2 : ¬ 192 ≤ (h : Int) := by omega
              have k3 : (h : Int) < 256 := by omega
              go_wp2_with (fail)
              go_step3
              exact HWr.out _ _ _ _ _ _ _ _ _ _ _ _ _ _ _ _ _ _ _ _ _ _ _ _ _ _ _ _ _ _ _ _ _ _ _ _ _ _ _ _ _ _ _ _ _ _ _ _ _ _ _ _ _ _ _ _ _ _ _ _ _ _ _ _ _ _ _ _ _ _ _ _ _ _ _ _ _ _ _ _ _ _ _ _ HB HN
end Go.Proofs.Ytdbldhcelbllgaa.Nm
