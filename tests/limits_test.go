package tests

import (
	"testing"

	"loop.example/cordillera/impl"
)

func TestLimitsAreThoseOfTheDocument(t *testing.T) {
	limits := []struct {
		name      string
		got, want int
	}{
		{"RiceMax", impl.RiceMax, 60000},
		{"ListMax", impl.ListMax, 40},
		{"BytesMax", impl.BytesMax, 600},
		{"ItemLong", impl.ItemLong, 8},
		{"FilterMany", impl.FilterMany, 37},
		{"FilterBits", impl.FilterBits, 5},
		{"TimeMax", impl.TimeMax, 99999},
		{"DiffMax", impl.DiffMax, 8},
		{"NonceMax", impl.NonceMax, 400},
		{"ItemMax", impl.ItemMax, 6},
		{"SideMax", impl.SideMax, 8},
		{"ChainMax", impl.ChainMax, 20},
		{"SpanLow", impl.SpanLow, 20},
		{"SpanHigh", impl.SpanHigh, 60},
		{"SampleMax", impl.SampleMax, 6},
		{"PageMax", impl.PageMax, 6},
		{"CacheMax", impl.CacheMax, 4},
		{"PeerMax", impl.PeerMax, 3},
		{"TokenMax", impl.TokenMax, 8},
		{"AskHeads", impl.AskHeads, 1},
		{"AskFilters", impl.AskFilters, 2},
		{"AskMarks", impl.AskMarks, 3},
		{"AskBlock", impl.AskBlock, 4},
		{"AskSample", impl.AskSample, 5},
		{"ReplyBusy", impl.ReplyBusy, 9},
		{"TryMax", impl.TryMax, 8},
		{"PeersMax", impl.PeersMax, 5},
		{"LieNone", impl.LieNone, 0},
		{"LieMarks", impl.LieMarks, 1},
		{"LieFilter", impl.LieFilter, 2},
		{"LieMute", impl.LieMute, 3},
		{"LieHeads", impl.LieHeads, 4},
		{"LieBlock", impl.LieBlock, 5},
		{"LieShort", impl.LieShort, 6},
		{"ClientFine", impl.ClientFine, 0},
		{"ClientForm", impl.ClientForm, 1},
		{"ClientNobody", impl.ClientNobody, 2},
		{"ChainsMax", impl.ChainsMax, 4},
		{"SessionMax", impl.SessionMax, 60},
		{"TreeMax", impl.TreeMax, 24},
	}
	for _, l := range limits {
		if l.got != l.want {
			t.Errorf("%s is %d, not %d", l.name, l.got, l.want)
		}
	}
}
